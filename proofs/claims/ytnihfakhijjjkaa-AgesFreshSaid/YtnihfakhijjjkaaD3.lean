/- AgesFresh. -/
import Derived.Test.YtnihfakhijjjkaaD4
namespace Go.Proofs.Ytnihfakhijjjkaa
open Go.RowKit
set_option linter.unusedSimpArgs false
set_option linter.unusedVariables false

/-- The objects that are made, the first ones: handles and kinds. -/
def firsts (S : List Sn) (j : Nat) : List (Int × Int) := (List.range j).map fun (i : Nat) => ((i : Int) + 1, (snAt S i).kind)
theorem cell_al1 {W : World} {b o : Nat} {v : Value} (h : W.cell? ⟨b, o, none⟩ = some v) (x : Obj) : (W.alloc x).cell? ⟨b, o, none⟩ = some v :=
  (World.cell?_of_block (Below.heap_alloc W x b (cell_blk h).1)).trans h
theorem firsts_succ {S : List Sn} {j : Nat} (hj : j < S.length) : firsts S (j + 1) = firsts S j ++ [((j : Int) + 1, S[j].kind)] := by
  unfold firsts
  rw [List.range_succ, List.map_append, List.map_cons, List.map_nil, snAt_eq hj]

end Go.Proofs.Ytnihfakhijjjkaa
