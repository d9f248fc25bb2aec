/- Read: what is no number; texts with a point. Out of the numbers' own texts, renumbered. -/
import Derived.Test.YtidokamfppdnaaaGreatDoorN1
namespace Go.Proofs.YtidokamfppdnaaaGreatDoor
open Go.RowKit
set_option linter.unusedSimpArgs false
set_option linter.unusedVariables false

def zf : ByteArray := ⟨#[48, 102]⟩
def dash : ByteArray := ⟨#[45]⟩
def dec : ByteArray := ⟨#[48, 49, 50, 51, 52, 53, 54, 55, 56, 57]⟩
/-- The text without its sign, and what stands ahead of the point and behind it. -/
def unsg (s : ByteArray) : ByteArray := ⟨(Lib.trimPrefix s.data.toList dash.data.toList).toArray⟩
def ahd (s : ByteArray) : ByteArray := cutA (unsg s) 46
def bhd (s : ByteArray) : ByteArray := cutZ (unsg s) 46
def pnt (s : ByteArray) : Bool := cutB (unsg s) 46
/-- Has the text no form of digits? -/
def bad (s : ByteArray) : Bool := !allB (ahd s) dec || (pnt s && !allB (bhd s) dec)
theorem unsg_size (s : ByteArray) : (unsg s).size ≤ s.size := by
  rw [Lib.size_eq, Lib.size_eq s]
  unfold unsg Lib.trimPrefix
  split <;> simp
theorem cutA_size (s : ByteArray) (c : UInt8) : (cutA s c).size ≤ s.size := by
  unfold cutA; split
  · exact Nat.le_refl _
  · rw [ByteArray.size_extract]; omega
theorem cutZ_size (s : ByteArray) (c : UInt8) : (cutZ s c).size ≤ s.size := by
  unfold cutZ; split
  · exact Nat.zero_le _
  · rw [ByteArray.size_extract]; omega
/-- The box of a result behind a callee. -/
theorem rbox {w w1 : World} (hb1 : Below (w.alloc (.cells #[.int .i64 0, .int .i64 0] 36)).heap.size (w.alloc (.cells #[.int .i64 0, .int .i64 0] 36)) w1) :
    w1.cell? ⟨w.heap.size, 0, none⟩ = some (.int .i64 0) ∧ w1.cell? ⟨w.heap.size, 1, none⟩ = some (.int .i64 0) ∧ w1.frozen? ⟨w.heap.size, 0, none⟩ = false ∧ w1.frozen? ⟨w.heap.size, 1, none⟩ = false ∧ w.heap.size < w1.heap.size ∧ Hid (Below w.heap.size w w1) := by
  refine ⟨cell_later hb1 ?_, cell_later hb1 ?_, fro_later hb1 ?_ (by simp), fro_later hb1 ?_ (by simp), size1 hb1, end1 hb1⟩ <;> simp [go_sem]
set_option maxHeartbeats 1000000 in
theorem Read_bad (s : ByteArray) (w : World) (hs : s.size ≤ maxLen) (h0 : Lib.hasPrefix s.data.toList zf.data.toList = false) (hb : bad s = true) :
    Calls Tryz.prog 34 #[.string s] w fun e w' => e = .returned (.tuple #[AV 0 0, .int .i64 6]) ∧ Below w.heap.size w w' := by
  have b1 : (unsg s).size ≤ maxLen := Nat.le_trans (unsg_size s) hs
  have b2 : (ahd s).size ≤ maxLen := Nat.le_trans (cutA_size _ _) b1
  have b3 : (bhd s).size ≤ maxLen := Nat.le_trans (cutZ_size _ _) b1
  have H0 : Hid (Lib.hasPrefix s.data.toList zf.data.toList = false) := h0
  clear h0
  cases a1 : allB (ahd s) dec
  · clear hb
    go_enter Tryz.func34, Tryz.ntmps34
    go_wp2_with fail
    refine (Tryz.strings_CutPrefix s zf _).mono ?_
    rintro e w' ⟨rfl, rfl⟩
    rw [H0.out]
    go_wp2_with fail
    refine (Tryz.strings_CutPrefix s dash _).mono ?_
    rintro e w' ⟨rfl, rfl⟩
    go_wp2_with fail
    refine (Cut_any (unsg s) 46 _ b1).mono ?_
    rintro e w1 ⟨rfl, hb1⟩
    obtain ⟨k5, k6, l5, l6, z1, HB⟩ := rbox hb1
    clear hb1
    go_wp2_with fail
    refine (allOf_any (ahd s) dec _ b2).mono ?_
    rintro e w' ⟨rfl, rfl⟩
    go_wp2
    refine bodyPost_ret (v := .tuple #[AV 0 0, .int .i64 6]) (by simp [results, Tryz.results34, go_sem, k5, k6]) rfl ⟨rfl, ?_⟩
    exact (HB.out.setCell (by simp) _).setCell (by simp) _
  · have hp : pnt s = true := by unfold bad at hb; rw [a1] at hb; simp at hb; exact hb.1
    have a2 : allB (bhd s) dec = false := by unfold bad at hb; rw [a1] at hb; simp at hb; exact hb.2
    have hp' : cutB (unsg s) 46 = true := hp
    clear hb hp
    go_enter Tryz.func34, Tryz.ntmps34
    go_wp2_with fail
    refine (Tryz.strings_CutPrefix s zf _).mono ?_
    rintro e w' ⟨rfl, rfl⟩
    rw [H0.out]
    go_wp2_with fail
    refine (Tryz.strings_CutPrefix s dash _).mono ?_
    rintro e w' ⟨rfl, rfl⟩
    go_wp2_with fail
    refine (Cut_any (unsg s) 46 _ b1).mono ?_
    rintro e w1 ⟨rfl, hb1⟩
    obtain ⟨k5, k6, l5, l6, z1, HB⟩ := rbox hb1
    clear hb1
    go_wp2_with fail
    refine (allOf_any (ahd s) dec _ b2).mono ?_
    rintro e w' ⟨rfl, rfl⟩
    go_wp2_with fail
    refine (allOf_any (bhd s) dec _ b3).mono ?_
    rintro e w' ⟨rfl, rfl⟩
    go_wp2
    refine bodyPost_ret (v := .tuple #[AV 0 0, .int .i64 6]) (by simp [results, Tryz.results34, go_sem, k5, k6]) rfl ⟨rfl, ?_⟩
    exact (HB.out.setCell (by simp) _).setCell (by simp) _
set_option maxHeartbeats 1000000 in
theorem Read_pt (s : ByteArray) (v : Int) (w : World) (hs : s.size ≤ maxLen) (h0 : Lib.hasPrefix s.data.toList zf.data.toList = false) (hb : bad s = false) (hp : pnt s = true)
    (hl : (ahd s).size + (bhd s).size ≤ 15) (hv : Lib.parseIntB 64 (ahd s ++ bhd s).data.toList = .ok v) (hn : Lib.hasPrefix s.data.toList dash.data.toList = false) :
    Calls Tryz.prog 34 #[.string s] w fun e w' => e = .returned (.tuple #[AV 3 (fltO (floatBits .quo .f64 (Fm.ofInt v) (pw (bhd s).size))), .int .i64 0]) ∧ Below w.heap.size w w' := by
  have b1 : (unsg s).size ≤ maxLen := Nat.le_trans (unsg_size s) hs
  have b2 : (ahd s).size ≤ maxLen := Nat.le_trans (cutA_size _ _) b1
  have b3 : (bhd s).size ≤ maxLen := Nat.le_trans (cutZ_size _ _) b1
  have H0 : Hid (Lib.hasPrefix s.data.toList zf.data.toList = false) := h0
  have HN : Hid (Lib.hasPrefix s.data.toList dash.data.toList = false) := hn
  have HP : Hid (Lib.parseIntB 64 (ahd s ++ bhd s).data.toList = .ok v) := hv
  have a1 : allB (ahd s) dec = true := by unfold bad at hb; simp at hb; exact hb.1
  have a2 : allB (bhd s) dec = true := by unfold bad at hb; simp [hp] at hb; exact hb.2
  have hp' : cutB (unsg s) 46 = true := hp
  clear h0 hn hv hb hp
  · skip
    go_enter Tryz.func34, Tryz.ntmps34
    go_wp2_with fail
    refine (Tryz.strings_CutPrefix s zf _).mono ?_
    rintro e w' ⟨rfl, rfl⟩
    rw [H0.out]
    go_wp2_with fail
    refine (Tryz.strings_CutPrefix s dash _).mono ?_
    rintro e w' ⟨rfl, rfl⟩
    rw [HN.out]
    go_wp2_with fail
    refine (Cut_any (unsg s) 46 _ b1).mono ?_
    rintro e w1 ⟨rfl, hb1⟩
    obtain ⟨k5, k6, l5, l6, z1, HB⟩ := rbox hb1
    clear hb1
    go_wp2_with fail
    refine (allOf_any (ahd s) dec _ b2).mono ?_
    rintro e w' ⟨rfl, rfl⟩
    go_wp2_with fail
    refine (allOf_any (bhd s) dec _ b3).mono ?_
    rintro e w' ⟨rfl, rfl⟩
    go_wp2_with fail
    refine (readPointed_ok (ahd s) (bhd s) v _ hl HP.out).mono ?_
    rintro e w2 ⟨rfl, hb2⟩
    have k5 := cell_later hb2 k5
    have k6 := cell_later hb2 k6
    have l5 := fro_later hb2 l5 z1
    have l6 := fro_later hb2 l6 z1
    have HB := chainB HB hb2
    have z2 : w.heap.size < w2.heap.size := by have := hb2.size; omega
    clear hb2
    generalize hN : fltO (floatBits .quo .f64 (Fm.ofInt v) (pw (bhd s).size)) = N
    have HV : Hid (fltO (floatBits .quo .f64 (Fm.ofInt v) (pw (bhd s).size)) = N) := hN
    clear hN
    go_wp2
    refine bodyPost_ret (v := .tuple #[AV 3 N, .int .i64 0]) (by simp [results, Tryz.results34, go_sem, k5, k6, z2]) rfl ⟨by rw [HV.out], ?_⟩
    exact ((HB.out.setCell (by simp) _).setCell (by simp) _).alloc (by simp; omega) _
end Go.Proofs.YtidokamfppdnaaaGreatDoor
