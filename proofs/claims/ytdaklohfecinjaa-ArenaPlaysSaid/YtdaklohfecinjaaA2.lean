/- linkBehind: a block is put into the order of addresses. -/
import Derived.Test.YtdaklohfecinjaaA1
namespace Go.Proofs.Ytdaklohfecinjaa
open Go.RowKit

theorem size_set (w : World) (a : Addr) (v : Value) : (w.setCell a v).heap.size = w.heap.size := by simp [World.setCell]

set_option maxHeartbeats 400000 in
theorem link_last {b x ba bs xa xs : Nat} {bah bbh xp : Option Nat} (w : World) (hb : w.heap[b]? = some (nd ba bs bah bbh)) (hx : w.heap[x]? = some (nd xa xs xp none)) (hne : b ≠ x) :
    Calls Try.prog 64 #[.pointer (some ⟨b, 0, none⟩), .pointer (some ⟨x, 0, none⟩)] w fun e w' => (∃ v, e = .returned v) ∧ w'.heap[b]? = some (nd ba bs (some x) none) ∧ w'.heap[x]? = some (nd xa xs xp (some b)) ∧
      Kept (fun k => k = b ∨ k = x) w w' ∧ w'.heap.size = w.heap.size := by
  have HB : Hid (w.heap[b]? = some (nd ba bs bah bbh)) := hb
  have HX : Hid (w.heap[x]? = some (nd xa xs xp none)) := hx
  obtain ⟨b0, b1, b2, b3⟩ := nd_cells hb
  obtain ⟨x0, x1, x2, x3⟩ := nd_cells hx
  obtain ⟨fb0, fb1, fb2, fb3⟩ := nd_frozen hb
  obtain ⟨fx0, fx1, fx2, fx3⟩ := nd_frozen hx
  rw [pt_none] at x3
  have hne' : x ≠ b := fun e => hne e.symm
  clear hb hx
  go_enter Try.func64, Try.ntmps64
  go_wp2
  go_end0
  refine ⟨⟨_, rfl⟩, ?_, ?_, ?_, ?_⟩
  · simp [hp_set, HB.out, hne, nd, stO, pt]
  · simp [hp_set, HX.out, hne', nd, stO, pt]
  · exact (((Kept.refl _ _).set b 2 _ (.inl (.inl rfl))).set b 3 _ (.inl (.inl rfl))).set x 3 _ (.inl (.inr rfl))
  · simp only [size_set]

set_option maxHeartbeats 400000 in
theorem link_mid {b x y ba bs xa xs ya ys : Nat} {bah bbh xp yp yn : Option Nat} (w : World) (hb : w.heap[b]? = some (nd ba bs bah bbh)) (hx : w.heap[x]? = some (nd xa xs xp (some y))) (hy : w.heap[y]? = some (nd ya ys yp yn)) (hne : b ≠ x) (hby : b ≠ y) (hxy : x ≠ y) :
    Calls Try.prog 64 #[.pointer (some ⟨b, 0, none⟩), .pointer (some ⟨x, 0, none⟩)] w fun e w' => (∃ v, e = .returned v) ∧ w'.heap[b]? = some (nd ba bs (some x) (some y)) ∧ w'.heap[x]? = some (nd xa xs xp (some b)) ∧ w'.heap[y]? = some (nd ya ys (some b) yn) ∧
      Kept (fun k => k = b ∨ k = x ∨ k = y) w w' ∧ w'.heap.size = w.heap.size := by
  have HB : Hid (w.heap[b]? = some (nd ba bs bah bbh)) := hb
  have HX : Hid (w.heap[x]? = some (nd xa xs xp (some y))) := hx
  have HY : Hid (w.heap[y]? = some (nd ya ys yp yn)) := hy
  obtain ⟨b0, b1, b2, b3⟩ := nd_cells hb
  obtain ⟨x0, x1, x2, x3⟩ := nd_cells hx
  obtain ⟨y0, y1, y2, y3⟩ := nd_cells hy
  obtain ⟨fb0, fb1, fb2, fb3⟩ := nd_frozen hb
  obtain ⟨fx0, fx1, fx2, fx3⟩ := nd_frozen hx
  obtain ⟨fy0, fy1, fy2, fy3⟩ := nd_frozen hy
  rw [pt_some] at x3
  have hne' : x ≠ b := fun e => hne e.symm
  have hby' : y ≠ b := fun e => hby e.symm
  have hxy' : y ≠ x := fun e => hxy e.symm
  clear hb hx hy
  go_enter Try.func64, Try.ntmps64
  go_wp2
  go_end0
  refine ⟨⟨_, rfl⟩, ?_, ?_, ?_, ?_, ?_⟩
  · simp [hp_set, HB.out, hne, hby, nd, stO, pt]
  · simp [hp_set, HX.out, hne', hxy, nd, stO, pt]
  · simp [hp_set, HY.out, hby', hxy', nd, stO, pt]
  · exact ((((Kept.refl _ _).set b 2 _ (.inl (.inl rfl))).set b 3 _ (.inl (.inl rfl))).set x 3 _ (.inl (.inr (.inl rfl)))).set y 2 _ (.inl (.inr (.inr rfl)))
  · simp only [size_set]
end Go.Proofs.Ytdaklohfecinjaa
