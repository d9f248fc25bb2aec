/- Texts of scenes, as data: what is printed. -/
import Derived.Test.YtbhmgmbgplkkeaaDoorM2
import Derived.Lib.ItoaNum
namespace Go.Proofs.YtbhmgmbgplkkeaaDoor
open Go.RowKit
set_option linter.unusedSimpArgs false
set_option linter.unusedVariables false

/-- Does a line tell a point? -/
def fitsP (p : V) : Bool := match rowK p.1 with
  | some r => decide (0 ≤ p.2) && decide (p.2 ≤ r.most)
  | none => false
/-- The line of so many. -/
def lineT (p : V) (k : Nat) : List UInt8 :=
  ((rowK p.1).getD r0').word ++ ((if ((rowK p.1).getD r0').num = true then 32 :: Lib.itoa p.2 else []) ++ (if 1 < k then 32 :: 120 :: Lib.itoa (k : Int) else []))
where r0' : Row := ⟨0, [], false, 0⟩
/-- Points behind n that are alike. -/
def bodyR : Nat → List V → List UInt8
  | _, [] => []
  | n, p :: r => if r.head? = some p then bodyR (n + 1) r else lineT p (n + 1) ++ (10 :: bodyR 0 r)
def headT (z n : Int) : List UInt8 := szW ++ (32 :: Lib.itoa z) ++ (10 :: (stW ++ (32 :: Lib.itoa n) ++ [10]))
/-- A scene's text, or why there is none. -/
def printF (x : Sc) : Nat ⊕ List UInt8 :=
  if x.size < 1 ∨ 65536 < x.size ∨ x.steps < 0 ∨ 20000 < x.steps then .inl 7
  else if 4000 < x.pts.length then .inl 4
  else if x.pts.all fitsP = false then .inl 6
  else if 8192 < x.src.length then .inl 3
  else .inr (headT x.size x.steps ++ bodyR 0 x.pts ++ (srW ++ (10 :: x.src)))

/-- How many are alike at the beginning. -/
def aliF : List V → Nat
  | [] => 0
  | p :: r => if r.head? = some p then aliF r + 1 else 1
theorem aliF_pos (p : V) (r : List V) : 1 ≤ aliF (p :: r) := by unfold aliF; split <;> omega
theorem aliF_le : ∀ l : List V, aliF l ≤ l.length
  | [] => Nat.le_refl _
  | p :: r => by
    have := aliF_le r
    unfold aliF
    split <;> simp <;> omega
theorem bodyR_ali : ∀ (l : List V) (p : V) (n : Nat), l.head? = some p → bodyR n l = lineT p (n + aliF l) ++ (10 :: bodyR 0 (l.drop (aliF l)))
  | [], _, _, h => by cases h
  | q :: r, p, n, h => by
    injection h with h
    subst h
    have e1 : bodyR n (q :: r) = if r.head? = some q then bodyR (n + 1) r else lineT q (n + 1) ++ (10 :: bodyR 0 r) := rfl
    have e2 : aliF (q :: r) = if r.head? = some q then aliF r + 1 else 1 := rfl
    rw [e1, e2]
    by_cases hr : r.head? = some q
    · rw [if_pos hr, if_pos hr, bodyR_ali r q (n + 1) hr, List.drop_succ_cons, show n + 1 + aliF r = n + (aliF r + 1) by omega]
    · rw [if_neg hr, if_neg hr]; rfl
/-- .. by places. -/
theorem aliF_at : ∀ (l : List V) (i : Nat), i < aliF l → l[i]? = l.head?
  | [], i, h => by simp [aliF] at h
  | p :: r, 0, _ => rfl
  | p :: r, i + 1, h => by
    unfold aliF at h
    by_cases hr : r.head? = some p
    · rw [if_pos hr] at h
      rw [List.getElem?_cons_succ, aliF_at r i (by omega), hr]; rfl
    · rw [if_neg hr] at h; omega
theorem aliF_end : ∀ (l : List V), aliF l < l.length → l[aliF l]? ≠ l.head?
  | [], h => by simp at h
  | p :: r, h => by
    unfold aliF at h ⊢
    by_cases hr : r.head? = some p
    · rw [if_pos hr] at h ⊢
      have := aliF_end r (by simp at h; omega)
      rw [List.getElem?_cons_succ]
      rw [hr] at this
      exact this
    · rw [if_neg hr] at h ⊢
      simp only [List.getElem?_cons_succ, List.head?_cons]
      rw [← List.head?_eq_getElem?]; exact hr
end Go.Proofs.YtbhmgmbgplkkeaaDoor
