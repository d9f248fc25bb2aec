/- What is to be finalised, as the sort sees it: places below n. -/
import Derived.Test.YtnofmpbdfcolfaaX1
import Derived.Shelf.SlSortCmp.Kit1
namespace Go.Proofs.Ytnofmpbdfcolfaa
open Go.RowKit Go.Shelf Go.Sort
set_option linter.unusedSimpArgs false
set_option linter.unusedVariables false

/-- A place as its handle. -/
def encF {n : Nat} (i : Fin n) : Value := .int .i64 ((i.val : Int) + 1)
theorem encF_one {n : Nat} : OneCell (encF (n := n)) := fun _ => rfl
def cfF (T : List Th) (i j : Fin T.length) : Int := cmpF T i.val j.val
theorem cmpF_neg (T : List Th) (i j : Nat) : cmpF T i j < 0 ↔ (thAt T j).fin < (thAt T i).fin ∨ ((thAt T i).fin = (thAt T j).fin ∧ j < i) := by
  unfold cmpF
  generalize (thAt T j).fin = a
  generalize (thAt T i).fin = b
  unfold or2 cmp3
  by_cases h1 : a < b
  · rw [if_pos h1, if_neg (by decide)]; omega
  · rw [if_neg h1]
    by_cases h2 : b < a
    · rw [if_pos h2, if_neg (by decide)]; omega
    · rw [if_neg h2, if_pos rfl]
      by_cases h3 : (j : Int) + 1 < (i : Int) + 1
      · rw [if_pos h3]; omega
      · rw [if_neg h3]
        by_cases h4 : (i : Int) + 1 < (j : Int) + 1
        · rw [if_pos h4]; omega
        · rw [if_neg h4]; omega
theorem ltF (T : List Th) (i j : Fin T.length) : Go.Proofs.ltOf (cfF T) i j = decide ((thAt T j.val).fin < (thAt T i.val).fin ∨ ((thAt T i.val).fin = (thAt T j.val).fin ∧ j.val < i.val)) := by
  unfold Go.Proofs.ltOf cfF
  rw [decide_eq_decide]
  exact cmpF_neg T i.val j.val
theorem swoF (T : List Th) : SWO (Go.Proofs.ltOf (cfF T)) where
  irrefl x := by rw [ltF]; simp
  trans x y z h1 h2 := by rw [ltF] at *; simp at *; omega
  ntrans x y z h1 h2 := by rw [ltF] at *; simp at *; omega
theorem grownF {w : World} {g m off n : Nat} [Inhabited (Fin n)] {os : Array Obj} (d : Array (Fin n)) : w.grownBy (sortWorld encF w g off m d os) (some g) := by
  unfold sortWorld
  refine ⟨rfl, rfl, rfl, by simp, fun k hk hne => ?_⟩
  rw [heap_grow_old _ _ (by simpa using hk)]
  have : g ≠ k := fun e => hne (by rw [e])
  simp [putRow, mapBlock, Sort.ahead, Array.getElem?_modify, this]
theorem keptF {w : World} {g m off n : Nat} [Inhabited (Fin n)] {os : Array Obj} (d : Array (Fin n)) : Kept (fun k => k = g) w (sortWorld encF w g off m d os) :=
  (Kept.refl _ w).grown (grownF d) (fun k e => .inl (by cases e; rfl))

/-- The comparison, in every world of the sort's. -/
theorem cmpLays {w w0 : World} {box g off : Nat} {tv : Value} {T : List Th} [Inhabited (Fin T.length)] (hb : w.heap[box]? = some (.cells #[tv] 22 (0, 0))) (hT : RdT w0 tv T) (hk0 : Kept No w0 w) (hg : w0.heap.size ≤ g) (hbg : box ≠ g) (hn : T.length ≤ 1000000) (size : Nat) :
    Go.Proofs.CmpLays1 Try.prog 48 #[PT box] (encF (n := T.length)) (cfF T) g off size w := by
  intro m os dk _ x y
  have hk : Kept (fun k => k = g) w (sortWorld encF w g off m dk os) := keptF dk
  have hk1 : Kept No w0 (sortWorld encF w g off m dk os) := hk0.trans' hk (fun i e => .inr (by omega))
  refine (fin48_any (hk.heap hb hbg) (hT.no hk1) hn x.isLt y.isLt).mono ?_
  rintro e w' ⟨he, q, o, rfl⟩
  exact ⟨he, q, #[o], alloc_eq_grow _ _⟩
end Go.Proofs.Ytnofmpbdfcolfaa
