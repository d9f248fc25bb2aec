/- Calls through Store; keyOf. -/
import Derived.Test.YthefmfjlinpepaaL0
import Derived.Deep.QuietTactic
import Derived.BigQuiet
namespace Go.Proofs.Ythefmfjlinpepaa
open Go.RowKit
set_option linter.unusedSimpArgs false
set_option linter.unusedVariables false

theorem mArray (P : Nat) (w : World) : (method 249 23 (MP P) "Array").run Try.prog w = .ok (25, MP P) w := by kernel_rfl
theorem mNodes (P : Nat) (w : World) : (method 249 23 (MP P) "Nodes").run Try.prog w = .ok (26, MP P) w := by kernel_rfl
theorem mSlot (P : Nat) (w : World) : (method 249 23 (MP P) "Slot").run Try.prog w = .ok (27, MP P) w := by kernel_rfl
theorem mSetSlot (P : Nat) (w : World) : (method 249 23 (MP P) "SetSlot").run Try.prog w = .ok (31, MP P) w := by kernel_rfl
theorem mResize (P : Nat) (w : World) : (method 249 23 (MP P) "Resize").run Try.prog w = .ok (32, MP P) w := by kernel_rfl
theorem mHash (P : Nat) (w : World) : (method 249 23 (MP P) "Hash").run Try.prog w = .ok (33, MP P) w := by kernel_rfl

/-- The key whose value lies in a place. -/
def keyAt (a : Nat) (sl : Sl) (i : Int) : Int × Int := if i < (a : Int) then (2, i + 1) else sl (i - 1)

set_option maxRecDepth 20000 in
set_option maxHeartbeats 400000 in
theorem keyOf_any {w : World} {P : Nat} {most : Int} {a n nn : Nat} {sl : Sl} (h : Tb w P most a n nn sl) (i : Int) (h0 : 0 ≤ i) (h1 : i ≤ 1000000) :
    Calls Try.prog 59 #[MI P, .int .i64 i] w fun e w' => e = .returned (iV (keyAt a sl i)) ∧ Below w.heap.size w w' := by
  have hmA := mArray P
  have hmS := mSlot P
  have HT : Hid (Tb (w.alloc (.cells #[.int .i64 0, .int .i64 0] 33)) P most a n nn sl) := h.no ((Kept.refl _ _).alloc _)
  have hlt := h.lt
  clear h
  by_cases hi : i < (a : Int)
  · have HE : Hid (keyAt a sl i = (2, i + 1)) := by show _ = _; unfold keyAt; rw [if_pos hi]
    rw [HE.out]
    go_enter Try.func59, Try.ntmps59
    go_wp2_with (go_at_call 25; refine (Array_any HT.out).mono ?_; rintro e w' ⟨rfl, rfl⟩)
    refine (Int_any _ _).mono ?_
    rintro e w1 ⟨rfl, hb1⟩
    have HB : Hid (Below w.heap.size w w1) := ((Below.refl _ _).alloc (Nat.le_refl _) _).trans (hb1.mono (by simp))
    have hz1 : w1.heap[w.heap.size]? = some (.cells #[.int .i64 0, .int .i64 0] 33 (0, 0)) := (hb1.block _ (by simp)).trans (World.alloc_heap_new w _)
    have c0 : w1.cell? ⟨w.heap.size, 0, none⟩ = some (.int .i64 0) := by rw [cell_of hz1]; rfl
    have c1 : w1.cell? ⟨w.heap.size, 1, none⟩ = some (.int .i64 0) := by rw [cell_of hz1]; rfl
    have f0 : ∀ j, w1.frozen? ⟨w.heap.size, j, none⟩ = false := frozen_of hz1
    clear hb1 hz1
    go_wp2
    exact bodyPost_ret (v := iV (2, i + 1)) (by simp [results, Try.results59, go_sem, c0, c1]) rfl ⟨rfl, (HB.out.setCell (Nat.le_refl _) _).setCell (Nat.le_refl _) _⟩
  · have HE : Hid (keyAt a sl i = sl (i - 1)) := by show _ = _; unfold keyAt; rw [if_neg hi]
    rw [HE.out]
    have HS : Hid (Calls Try.prog 27 #[MP P, .int .i64 (i - 1)] (w.alloc (.cells #[.int .i64 0, .int .i64 0] 33)) fun e w' => e = .returned (iV (sl (i - 1))) ∧ Below (w.alloc (.cells #[.int .i64 0, .int .i64 0] 33)).heap.size (w.alloc (.cells #[.int .i64 0, .int .i64 0] 33)) w') := Slot_any HT.out (i - 1) (wf_of (by omega) (by omega))
    generalize sl (i - 1) = x at HS ⊢
    obtain ⟨x1, x2⟩ := x
    go_enter Try.func59, Try.ntmps59
    go_wp2_with (go_at_call 25; refine (Array_any HT.out).mono ?_; rintro e w' ⟨rfl, rfl⟩)
    refine HS.out.mono ?_
    rintro e w1 ⟨rfl, hb1⟩
    have HB : Hid (Below w.heap.size w w1) := ((Below.refl _ _).alloc (Nat.le_refl _) _).trans (hb1.mono (by simp))
    have hz1 : w1.heap[w.heap.size]? = some (.cells #[.int .i64 0, .int .i64 0] 33 (0, 0)) := (hb1.block _ (by simp)).trans (World.alloc_heap_new w _)
    have c0 : w1.cell? ⟨w.heap.size, 0, none⟩ = some (.int .i64 0) := by rw [cell_of hz1]; rfl
    have c1 : w1.cell? ⟨w.heap.size, 1, none⟩ = some (.int .i64 0) := by rw [cell_of hz1]; rfl
    have f0 : ∀ j, w1.frozen? ⟨w.heap.size, j, none⟩ = false := frozen_of hz1
    clear hb1 hz1
    go_wp2
    exact bodyPost_ret (v := iV (x1, x2)) (by simp [results, Try.results59, go_sem, c0, c1]) rfl ⟨rfl, (HB.out.setCell (Nat.le_refl _) _).setCell (Nat.le_refl _) _⟩
end Go.Proofs.Ythefmfjlinpepaa
