/- The program's Read: out of range, and a sign ahead of a point. -/
import Derived.Test.YtdpdpgnpkmfooaaGreatDoorB3
import Derived.Test.YtdpdpgnpkmfooaaGreatDoorE0
import Derived.Test.YtdpdpgnpkmfooaaGreatDoorD8
namespace Go.Proofs.YtdpdpgnpkmfooaaGreatDoor
open Go.RowKit

theorem err_later {w w' : World} (h : ErrIs w) (hb : Below w.heap.size w w') : ErrIs w' := by
  obtain ⟨a, h⟩ := h
  exact ⟨a, cell_later hb h⟩

theorem ParseInt_range (s : ByteArray) (w : World) (hs : s.size ≤ 140737488355328) (hp : Lib.parseIntB 64 s.data.toList = .range) (he : ErrIs w) :
    Calls Tryz.prog 85 #[.string s, .int .i64 10, .int .i64 64] w fun e w' => ∃ N v, e = .returned (.tuple #[.int .i64 v, .iface 129 (.pointer (some ⟨N, 0, none⟩))]) ∧ Below w.heap.size w w' := by
  obtain ⟨a, he⟩ := he
  refine (Tryz.strconv_ParseInt_10_at64_range s (by omega) hp _ w he (Or.inr ⟨_, _, rfl⟩)).mono ?_
  rintro e w' ⟨N, rfl, _, _, hb⟩
  exact ⟨N, _, rfl, hb⟩

set_option maxHeartbeats 1000000 in
theorem readInt_range (s : ByteArray) (w : World) (hs : s.size ≤ 140737488355328) (hp : Lib.parseIntB 64 s.data.toList = .range) (he : ErrIs w) :
    Calls Tryz.prog 57 #[.string s] w fun e w' => e = .returned (.tuple #[AV 0 0, .int .i64 7]) ∧ Below w.heap.size w w' := by
  have PI : Hid (∀ w, ErrIs w → Calls Tryz.prog 85 #[.string s, .int .i64 10, .int .i64 64] w fun e w' => ∃ N v, e = .returned (.tuple #[.int .i64 v, .iface 129 (.pointer (some ⟨N, 0, none⟩))]) ∧ Below w.heap.size w w') := fun w h => ParseInt_range s w hs hp h
  have HE : Hid (ErrIs w) := he
  clear hp he
  go_enter Tryz.func57, Tryz.ntmps57
  go_wp2_with fail
  refine (PI.out _ (err_later HE.out ((Below.refl _ _).alloc (Nat.le_refl _) _))).mono ?_
  rintro e w1 ⟨N, v, rfl, hb1⟩
  obtain ⟨k5, k6, l5, l6, z1, HB⟩ := rbox hb1
  clear hb1
  go_wp2
  refine bodyPost_ret (v := .tuple #[AV 0 0, .int .i64 7]) (by simp [results, Tryz.results57, go_sem, k5, k6]) rfl ⟨rfl, ?_⟩
  exact (HB.out.setCell (by simp) _).setCell (by simp) _

set_option maxHeartbeats 1000000 in
theorem Read_intR (s : ByteArray) (w : World) (hs : s.size ≤ maxLen) (hz : s.size ≤ 140737488355328) (h0 : Lib.hasPrefix s.data.toList zf.data.toList = false) (hb : bad s = false) (hp : pnt s = false)
    (hv : Lib.parseIntB 64 s.data.toList = .range) (he : ErrIs w) :
    Calls Tryz.prog 34 #[.string s] w fun e w' => e = .returned (.tuple #[AV 0 0, .int .i64 7]) ∧ Below w.heap.size w w' := by
  have b1 : (unsg s).size ≤ maxLen := Nat.le_trans (unsg_size s) hs
  have b2 : (ahd s).size ≤ maxLen := Nat.le_trans (cutA_size _ _) b1
  have H0 : Hid (Lib.hasPrefix s.data.toList zf.data.toList = false) := h0
  have RI : Hid (∀ w, ErrIs w → Calls Tryz.prog 57 #[.string s] w fun e w' => e = .returned (.tuple #[AV 0 0, .int .i64 7]) ∧ Below w.heap.size w w') := fun w h => readInt_range s w hz hv h
  have HE : Hid (ErrIs w) := he
  have a1 : allB (ahd s) dec = true := by unfold bad at hb; simp at hb; exact hb.1
  have hp' : cutB (unsg s) 46 = false := hp
  clear h0 hv hb hp he
  go_enter Tryz.func34, Tryz.ntmps34
  go_wp2_with fail
  refine (Tryz.strings_CutPrefix s zf _).mono ?_
  rintro e w' ⟨rfl, rfl⟩
  rw [H0.out]
  go_wp2_with fail
  refine (Tryz.strings_CutPrefix s dash _).mono ?_
  rintro e w' ⟨rfl, rfl⟩
  go_wp2_with fail
  refine (Cut_any (unsg s) 46 _ b1).mono ?_
  rintro e w1 ⟨rfl, hb1⟩
  obtain ⟨k5, k6, l5, l6, z1, HB⟩ := rbox hb1
  clear hb1
  go_wp2_with fail
  refine (allOf_any (ahd s) dec _ b2).mono ?_
  rintro e w' ⟨rfl, rfl⟩
  go_wp2_with fail
  refine (RI.out _ (err_later HE.out HB.out)).mono ?_
  rintro e w2 ⟨rfl, hb2⟩
  have k5 := cell_later hb2 k5
  have k6 := cell_later hb2 k6
  have l5 := fro_later hb2 l5 z1
  have l6 := fro_later hb2 l6 z1
  have HB := chainB HB hb2
  clear hb2
  go_wp2
  refine bodyPost_ret (v := .tuple #[AV 0 0, .int .i64 7]) (by simp [results, Tryz.results34, go_sem, k5, k6]) rfl ⟨rfl, ?_⟩
  exact (HB.out.setCell (by simp) _).setCell (by simp) _

set_option maxHeartbeats 1000000 in
theorem Read_ptR (s : ByteArray) (w : World) (hs : s.size ≤ maxLen) (hz : s.size ≤ 140737488351232) (h0 : Lib.hasPrefix s.data.toList zf.data.toList = false) (hb : bad s = false) (hp : pnt s = true)
    (hl : 15 < (ahd s).size + (bhd s).size) :
    Calls Tryz.prog 34 #[.string s] w fun e w' => e = .returned (.tuple #[AV 0 0, .int .i64 7]) ∧ Below w.heap.size w w' := by
  have b1 : (unsg s).size ≤ maxLen := Nat.le_trans (unsg_size s) hs
  have b2 : (ahd s).size ≤ maxLen := Nat.le_trans (cutA_size _ _) b1
  have b3 : (bhd s).size ≤ maxLen := Nat.le_trans (cutZ_size _ _) b1
  have c1 : (ahd s).size ≤ 140737488351232 := Nat.le_trans (cutA_size _ _) (Nat.le_trans (unsg_size s) hz)
  have c2 : (bhd s).size ≤ 140737488351232 := Nat.le_trans (cutZ_size _ _) (Nat.le_trans (unsg_size s) hz)
  have H0 : Hid (Lib.hasPrefix s.data.toList zf.data.toList = false) := h0
  have RP : Hid (∀ w, Calls Tryz.prog 58 #[.string (ahd s), .string (bhd s)] w fun e w' => e = .returned (.tuple #[AV 0 0, .int .i64 7]) ∧ Below w.heap.size w w') := fun w => readPointed_range _ _ w c1 c2 hl
  have a1 : allB (ahd s) dec = true := by unfold bad at hb; simp at hb; exact hb.1
  have a2 : allB (bhd s) dec = true := by unfold bad at hb; simp [hp] at hb; exact hb.2
  have hp' : cutB (unsg s) 46 = true := hp
  clear h0 hb hp hl c1 c2
  go_enter Tryz.func34, Tryz.ntmps34
  go_wp2_with fail
  refine (Tryz.strings_CutPrefix s zf _).mono ?_
  rintro e w' ⟨rfl, rfl⟩
  rw [H0.out]
  go_wp2_with fail
  refine (Tryz.strings_CutPrefix s dash _).mono ?_
  rintro e w' ⟨rfl, rfl⟩
  go_wp2_with fail
  refine (Cut_any (unsg s) 46 _ b1).mono ?_
  rintro e w1 ⟨rfl, hb1⟩
  obtain ⟨k5, k6, l5, l6, z1, HB⟩ := rbox hb1
  clear hb1
  go_wp2_with fail
  refine (allOf_any (ahd s) dec _ b2).mono ?_
  rintro e w' ⟨rfl, rfl⟩
  go_wp2_with fail
  refine (allOf_any (bhd s) dec _ b3).mono ?_
  rintro e w' ⟨rfl, rfl⟩
  go_wp2_with fail
  refine (RP.out _).mono ?_
  rintro e w2 ⟨rfl, hb2⟩
  have k5 := cell_later hb2 k5
  have k6 := cell_later hb2 k6
  have l5 := fro_later hb2 l5 z1
  have l6 := fro_later hb2 l6 z1
  have HB := chainB HB hb2
  have z2 : w.heap.size < w2.heap.size := by have := hb2.size; omega
  clear hb2
  go_wp2
  refine bodyPost_ret (v := .tuple #[AV 0 0, .int .i64 7]) (by simp [results, Tryz.results34, go_sem, k5, k6, z2]) rfl ⟨rfl, ?_⟩
  exact ((HB.out.setCell (by simp) _).setCell (by simp) _).alloc (by simp; omega) _

set_option maxHeartbeats 1000000 in
theorem Read_ptM (s : ByteArray) (v : Int) (w : World) (hs : s.size ≤ maxLen) (h0 : Lib.hasPrefix s.data.toList zf.data.toList = false) (hb : bad s = false) (hp : pnt s = true)
    (hl : (ahd s).size + (bhd s).size ≤ 15) (hv : Lib.parseIntB 64 (ahd s ++ bhd s).data.toList = .ok v) (hn : Lib.hasPrefix s.data.toList dash.data.toList = true) :
    Calls Tryz.prog 34 #[.string s] w fun e w' => e = .returned (.tuple #[AV 3 (ptM true v (bhd s).size), .int .i64 0]) ∧ Below w.heap.size w w' := by
  have b1 : (unsg s).size ≤ maxLen := Nat.le_trans (unsg_size s) hs
  have b2 : (ahd s).size ≤ maxLen := Nat.le_trans (cutA_size _ _) b1
  have b3 : (bhd s).size ≤ maxLen := Nat.le_trans (cutZ_size _ _) b1
  have H0 : Hid (Lib.hasPrefix s.data.toList zf.data.toList = false) := h0
  have HN : Hid (Lib.hasPrefix s.data.toList dash.data.toList = true) := hn
  have RP : Hid (∀ w, Calls Tryz.prog 58 #[.string (ahd s), .string (bhd s)] w fun e w' => e = .returned (.tuple #[AV 3 (ptN v (bhd s).size), .int .i64 0]) ∧ Below w.heap.size w w') := fun w => readPointed_ok _ _ v w hl hv
  have a1 : allB (ahd s) dec = true := by unfold bad at hb; simp at hb; exact hb.1
  have a2 : allB (bhd s) dec = true := by unfold bad at hb; simp [hp] at hb; exact hb.2
  have hp' : cutB (unsg s) 46 = true := hp
  obtain ⟨r, w0, _, hr, hrl, _⟩ := quo_any (Fm.ofInt v) (pw (bhd s).size) w
  have hN : isNum 3 (ptN v (bhd s).size) = true := by unfold ptN; rw [← hr]; exact isNum_flt r hrl
  have hB : -9223372036854775808 ≤ ptN v (bhd s).size ∧ ptN v (bhd s).size ≤ 9223372036854775807 := by unfold ptN; rw [← hr]; exact flt_bounds r
  have NG : Hid (∀ w, Calls Tryz.prog 28 #[AV 3 (ptN v (bhd s).size)] w fun e w' => e = .returned (.tuple #[AV 3 (ptM true v (bhd s).size), .int .i64 0]) ∧ Below w.heap.size w w') := fun w => by
    have h := Neg_any 3 (ptN v (bhd s).size) w hB.1 hB.2
    have e1 : ngT 3 (ptN v (bhd s).size) = 3 := by unfold ngT; rw [hN]; rfl
    have e2 : ngE 3 (ptN v (bhd s).size) = 0 := by unfold ngE; rw [hN]; rfl
    rw [e1, e2] at h
    exact h
  clear h0 hn hv hb hp hl hr hrl hN hB
  generalize ptM true v (bhd s).size = Z at *
  generalize ptN v (bhd s).size = N at *
  go_enter Tryz.func34, Tryz.ntmps34
  go_wp2_with fail
  refine (Tryz.strings_CutPrefix s zf _).mono ?_
  rintro e w' ⟨rfl, rfl⟩
  rw [H0.out]
  go_wp2_with fail
  refine (Tryz.strings_CutPrefix s dash _).mono ?_
  rintro e w' ⟨rfl, rfl⟩
  rw [HN.out]
  go_wp2_with fail
  refine (Cut_any (unsg s) 46 _ b1).mono ?_
  rintro e w1 ⟨rfl, hb1⟩
  obtain ⟨k5, k6, l5, l6, z1, HB⟩ := rbox hb1
  clear hb1
  go_wp2_with fail
  refine (allOf_any (ahd s) dec _ b2).mono ?_
  rintro e w' ⟨rfl, rfl⟩
  go_wp2_with fail
  refine (allOf_any (bhd s) dec _ b3).mono ?_
  rintro e w' ⟨rfl, rfl⟩
  go_wp2_with fail
  refine (RP.out _).mono ?_
  rintro e w2 ⟨rfl, hb2⟩
  have k5 := cell_later hb2 k5
  have k6 := cell_later hb2 k6
  have l5 := fro_later hb2 l5 z1
  have l6 := fro_later hb2 l6 z1
  have HB := chainB HB hb2
  have z2 : w.heap.size < w2.heap.size := by have := hb2.size; omega
  clear hb2
  go_wp2_with fail
  refine (NG.out _).mono ?_
  rintro e w3 ⟨rfl, hb3⟩
  have hA : Below w2.heap.size w2 (w2.alloc (.cells #[.int .i64 3, .int .i64 N] 23)) := (Below.refl _ _).alloc (Nat.le_refl _) _
  have z3 : w.heap.size < (w2.alloc (.cells #[.int .i64 3, .int .i64 N] 23)).heap.size := Nat.lt_of_lt_of_le z2 hA.size
  have k5 := cell_later hb3 (cell_later hA k5)
  have k6 := cell_later hb3 (cell_later hA k6)
  have l5 := fro_later hb3 (fro_later hA l5 z2) z3
  have l6 := fro_later hb3 (fro_later hA l6 z2) z3
  have HB := chainB (chainB HB hA) hb3
  clear hA hb3 z3
  go_wp2
  refine bodyPost_ret (v := .tuple #[AV 3 Z, .int .i64 0]) (by simp [results, Tryz.results34, go_sem, k5, k6]) rfl ⟨rfl, ?_⟩
  exact (HB.out.setCell (by simp) _).setCell (by simp) _
end Go.Proofs.YtdpdpgnpkmfooaaGreatDoor
