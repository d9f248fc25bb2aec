/- Scope: trees of the right shape are walked. -/
import Derived.Test.YtgkgpjbbmnfnmaaGreatDoorS13
namespace Go.Proofs.YtgkgpjbbmnfnmaaGreatDoor
open Go.RowKit
set_option linter.unusedSimpArgs false
set_option linter.unusedVariables false

mutual
/-- Nodes have the parts that the walk asks for. -/
def Shp : Tr → Prop
  | .mk k _ _ _ n l _ => ((k = 7 → 1 ≤ l.length) ∧ (k = 21 → ∃ m : Nat, n = (m : Int) ∧ 1 ≤ m ∧ m ≤ l.length) ∧ (k = 26 → 2 ≤ l.length) ∧ (k = 29 → 2 ≤ l.length)) ∧ ShpL l ∧ (k = 7 → ∀ y ∈ l.take (l.length - 1), y.k = 6) ∧ (k = 21 → ∀ y ∈ l.take n.toNat, y.k = 6) ∧ (k = 26 ∨ k = 29 → ∀ y ∈ l.take 1, y.k = 6)
def ShpL : List Tr → Prop
  | [] => True
  | x :: r => Shp x ∧ ShpL r
end
theorem walk_node (k : Int) (t : ByteArray) (vt vn n : Int) (l : List Tr) (a : Int) (hW : ∀ x ∈ l, WalkIs x) (h7 : k = 7 → 1 ≤ l.length) (h21 : k = 21 → ∃ m : Nat, n = (m : Int) ∧ 1 ≤ m ∧ m ≤ l.length) (h26 : k = 26 → 2 ≤ l.length) (h29 : k = 29 → 2 ≤ l.length) : WalkIs (.mk k t vt vn n l a) := by
  rcases Decidable.em (k = 6) with rfl | q6
  · exact walk_6 t vt vn n l a hW
  rcases Decidable.em (k = 7) with rfl | q7
  · exact walk_7 t vt vn n l a (h7 rfl) hW
  rcases Decidable.em (k = 20) with rfl | q20
  · exact walk_20 t vt vn n l a hW
  rcases Decidable.em (k = 21) with rfl | q21
  · obtain ⟨m, rfl, h⟩ := h21 rfl
    exact walk_21 t vt vn l a m h hW
  rcases Decidable.em (k = 26) with rfl | q26
  · exact walk_26 t vt vn n l a (h26 rfl) hW
  rcases Decidable.em (k = 29) with rfl | q29
  · exact walk_29 t vt vn n l a (h29 rfl) hW
  exact walk_d t vt vn n l a k ⟨q6, q7, q20, q21, q26, q29⟩ hW
mutual
theorem walk_is : ∀ x : Tr, Shp x → WalkIs x
  | .mk k t vt vn n l a, h => by
    unfold Shp at h
    exact walk_node k t vt vn n l a (walkL_is l h.2.1) h.1.1 h.1.2.1 h.1.2.2.1 h.1.2.2.2
theorem walkL_is : ∀ l : List Tr, ShpL l → ∀ x ∈ l, WalkIs x
  | [], _, x, hx => by simp at hx
  | y :: r, h, x, hx => by
    unfold ShpL at h
    rcases List.mem_cons.1 hx with e | hx
    · rw [e]; exact walk_is y h.1
    · exact walkL_is r h.2 x hx
end
end Go.Proofs.YtgkgpjbbmnfnmaaGreatDoor
