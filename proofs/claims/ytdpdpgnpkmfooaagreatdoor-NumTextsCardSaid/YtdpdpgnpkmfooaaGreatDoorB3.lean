/- Read of bits and of ints, Text of ints. -/
import Derived.Test.YtdpdpgnpkmfooaaGreatDoorB2
import Derived.Shelf.Unicode.PredsPay
import Derived.Lib.AppendIntMem
namespace Go.Proofs.YtdpdpgnpkmfooaaGreatDoor
open Go.RowKit

/-- What stands behind the mark. -/
def offm (s : ByteArray) : ByteArray := ⟨(Lib.trimPrefix s.data.toList zf.data.toList).toArray⟩
theorem offm_size (s : ByteArray) : (offm s).size ≤ s.size := by
  rw [Lib.size_eq, Lib.size_eq s]
  unfold offm Lib.trimPrefix
  split <;> simp

set_option maxHeartbeats 1000000 in
theorem Read_bits (s : ByteArray) (t m x : Int) (w : World) (hs : s.size ≤ maxLen) (h0 : Lib.hasPrefix s.data.toList zf.data.toList = true) (hr : bitsT (offm s) = .tuple #[AV t m, .int .i64 x]) :
    Calls Tryz.prog 34 #[.string s] w fun e w' => e = .returned (.tuple #[AV t m, .int .i64 x]) ∧ Below w.heap.size w w' := by
  have b1 : (offm s).size ≤ maxLen := Nat.le_trans (offm_size s) hs
  have H0 : Hid (Lib.hasPrefix s.data.toList zf.data.toList = true) := h0
  have RB : Hid (∀ w, Calls Tryz.prog 54 #[.string (offm s)] w fun e w' => e = .returned (.tuple #[AV t m, .int .i64 x]) ∧ Below w.heap.size w w') := fun w => by
    rw [← hr]; exact readBits_any (offm s) w b1
  clear h0 hr
  go_enter Tryz.func34, Tryz.ntmps34
  go_wp2_with fail
  refine (Tryz.strings_CutPrefix s zf _).mono ?_
  rintro e w' ⟨rfl, rfl⟩
  rw [H0.out]
  go_wp2_with fail
  refine (RB.out _).mono ?_
  rintro e w1 ⟨rfl, hb1⟩
  obtain ⟨k5, k6, l5, l6, z1, HB⟩ := rbox hb1
  clear hb1
  go_wp2
  refine bodyPost_ret (v := .tuple #[AV t m, .int .i64 x]) (by simp [results, Tryz.results34, go_sem, k5, k6]) rfl ⟨rfl, ?_⟩
  exact (HB.out.setCell (by simp) _).setCell (by simp) _

set_option maxHeartbeats 1000000 in
theorem Read_int (s : ByteArray) (v : Int) (w : World) (hs : s.size ≤ maxLen) (hz : s.size ≤ 140737488355328) (h0 : Lib.hasPrefix s.data.toList zf.data.toList = false) (hb : bad s = false) (hp : pnt s = false)
    (hv : Lib.parseIntB 64 s.data.toList = .ok v) :
    Calls Tryz.prog 34 #[.string s] w fun e w' => e = .returned (.tuple #[AV 2 v, .int .i64 0]) ∧ Below w.heap.size w w' := by
  have b1 : (unsg s).size ≤ maxLen := Nat.le_trans (unsg_size s) hs
  have b2 : (ahd s).size ≤ maxLen := Nat.le_trans (cutA_size _ _) b1
  have H0 : Hid (Lib.hasPrefix s.data.toList zf.data.toList = false) := h0
  have RI : Hid (∀ w, Calls Tryz.prog 57 #[.string s] w fun e w' => e = .returned (.tuple #[AV 2 v, .int .i64 0]) ∧ Below w.heap.size w w') := fun w => readInt_ok s v w hz hv
  have a1 : allB (ahd s) dec = true := by unfold bad at hb; simp at hb; exact hb.1
  have hp' : cutB (unsg s) 46 = false := hp
  clear h0 hv hb hp
  go_enter Tryz.func34, Tryz.ntmps34
  go_wp2_with fail
  refine (Tryz.strings_CutPrefix s zf _).mono ?_
  rintro e w' ⟨rfl, rfl⟩
  rw [H0.out]
  go_wp2_with fail
  refine (Tryz.strings_CutPrefix s dash _).mono ?_
  rintro e w' ⟨rfl, rfl⟩
  go_wp2_with fail
  refine (Cut_any (unsg s) 46 _ b1).mono ?_
  rintro e w1 ⟨rfl, hb1⟩
  obtain ⟨k5, k6, l5, l6, z1, HB⟩ := rbox hb1
  clear hb1
  go_wp2_with fail
  refine (allOf_any (ahd s) dec _ b2).mono ?_
  rintro e w' ⟨rfl, rfl⟩
  go_wp2_with fail
  refine (RI.out _).mono ?_
  rintro e w2 ⟨rfl, hb2⟩
  have k5 := cell_later hb2 k5
  have k6 := cell_later hb2 k6
  have l5 := fro_later hb2 l5 z1
  have l6 := fro_later hb2 l6 z1
  have HB := chainB HB hb2
  clear hb2
  go_wp2
  refine bodyPost_ret (v := .tuple #[AV 2 v, .int .i64 0]) (by simp [results, Tryz.results34, go_sem, k5, k6]) rfl ⟨rfl, ?_⟩
  exact (HB.out.setCell (by simp) _).setCell (by simp) _

/-- The table of powers of ten. -/
abbrev Tab10 (w : World) : Prop := Lib.TabIs Tryz.prog w (Rows.numRestsRow.laid[2]'(by decide)).1 .u64 Lib.pow10Tab

theorem g10 : Tryz.prog.globalNamed (Rows.numRestsRow.laid[2]'(by decide)).1 = some 2 := by kernel_rfl
theorem tab10_below {w w' : World} (h : Tab10 w) (hb : Below w.heap.size w w') : Tab10 w' := TabIs_below g10 h hb

set_option maxHeartbeats 1000000 in
theorem FormatInt (n : Int) (h1 : -9223372036854775808 ≤ n) (h2 : n ≤ 9223372036854775807) (w : World) (ht : Tab10 w) :
    Calls Tryz.prog 63 #[.int .i64 n, .int .i64 10] w fun e w' => e = .returned (.string ⟨(Lib.itoa n).toArray⟩) ∧ Below w.heap.size w w' := by
  have F : Hid (Calls Tryz.prog 86 #[.int .i64 n, .int .i64 10] w fun e w' => e = .returned (.string ⟨(Lib.itoa n).toArray⟩) ∧ Below w.heap.size w w') := by
    refine (Tryz.internal_strconv_FormatInt_10 n h1 h2 w ht).mono ?_
    rintro e w' ⟨rfl, k, os, rfl⟩
    exact ⟨rfl, Lib.below_grow _ _ (Nat.le_refl _) _ _⟩
  clear ht
  go_enter Tryz.func63, Tryz.ntmps63
  go_wp2_with fail
  refine F.out.mono ?_
  rintro e w1 ⟨rfl, hb⟩
  go_wp2
  go_ret
  exact ⟨rfl, hb⟩

set_option maxHeartbeats 1000000 in
theorem Text_int (n : Int) (w : World) (h1 : -9223372036854775808 ≤ n) (h2 : n ≤ 9223372036854775807) (ht : Tab10 w) :
    Calls Tryz.prog 36 #[AV 2 n] w fun e w' => e = .returned (.string ⟨(Lib.itoa n).toArray⟩) ∧ Below w.heap.size w w' := by
  have hi : isNum 2 n = true := by simp [isNum]
  have F : Hid (∀ w1, Below (w.alloc (.cells #[.int .i64 2, .int .i64 n] 23)).heap.size (w.alloc (.cells #[.int .i64 2, .int .i64 n] 23)) w1 → Calls Tryz.prog 63 #[.int .i64 n, .int .i64 10] w1 fun e w' => e = .returned (.string ⟨(Lib.itoa n).toArray⟩) ∧ Below w1.heap.size w1 w') := fun w1 hb =>
    FormatInt n h1 h2 w1 (tab10_below (tab10_below ht ((Below.refl _ _).alloc (Nat.le_refl _) _)) hb)
  clear ht
  go_enter Tryz.func36, Tryz.ntmps36
  go_wp2_with fail
  refine (Is_any _ _ _ h1 h2).mono ?_
  rintro e w1 ⟨rfl, hb⟩
  have c0 := cell_later hb (show (w.alloc (.cells #[.int .i64 2, .int .i64 n] 23)).cell? ⟨w.heap.size, 0, none⟩ = some (.int .i64 2) by simp [go_sem])
  have c1 := cell_later hb (show (w.alloc (.cells #[.int .i64 2, .int .i64 n] 23)).cell? ⟨w.heap.size, 1, none⟩ = some (.int .i64 n) by simp [go_sem])
  have HB : Hid (Below w.heap.size w w1) := end1 hb
  have F1 : Hid (Calls Tryz.prog 63 #[.int .i64 n, .int .i64 10] w1 fun e w' => e = .returned (.string ⟨(Lib.itoa n).toArray⟩) ∧ Below w1.heap.size w1 w') := F.out w1 hb
  clear hb F
  go_wp2_with fail
  refine F1.out.mono ?_
  rintro e w2 ⟨rfl, hb2⟩
  have HB := chainB HB hb2
  clear hb2
  go_wp2
  go_ret
  exact ⟨rfl, HB.out⟩

set_option maxHeartbeats 1000000 in
theorem Text_none (t n : Int) (w : World) (h1 : -9223372036854775808 ≤ n) (h2 : n ≤ 9223372036854775807) (hi : isNum t n = false) :
    Calls Tryz.prog 36 #[AV t n] w fun e w' => e = .returned (.string ⟨#[]⟩) ∧ Below w.heap.size w w' := by
  go_enter Tryz.func36, Tryz.ntmps36
  go_wp2_with fail
  refine (Is_any _ _ _ h1 h2).mono ?_
  rintro e w1 ⟨rfl, hb⟩
  have HB : Hid (Below w.heap.size w w1) := end1 hb
  clear hb
  go_wp2
  go_ret
  exact ⟨rfl, HB.out⟩
end Go.Proofs.YtdpdpgnpkmfooaaGreatDoor
