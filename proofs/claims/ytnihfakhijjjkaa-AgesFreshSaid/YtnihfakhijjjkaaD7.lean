/- AgesFresh, in either mode. -/
import Derived.Test.YtnihfakhijjjkaaD5
import Derived.Test.YtnihfakhijjjkaaD6
namespace Go.Proofs.Ytnihfakhijjjkaa
open Go.RowKit
theorem AgesFresh_any {w : World} {md ph wh : Int} {so go ao po : Option Addr} {sc gn gc an ac pn pc : Nat} {S : List Sn} (gen : Bool) (hS : RdS w (.slice so S.length sc) S) (hn : S.length ≤ 140737488355328) (han : an ≤ 140737488355328) (hs : ∀ s ∈ S, s.sl.length ≤ 140737488355328) (hw : ∀ s ∈ S, wf s.kind ∧ ∀ q ∈ s.sl, wf q.1 ∧ wf q.2) :
    Calls Try.prog 5 #[AW md ph wh so S.length sc go gn gc ao an ac po pn pc, .bool gen] w fun e w' => e = .returned (.bool true) ∧ Kept No w w' := by
  cases gen
  · exact AgesFresh_inc hS hn han hs hw
  · exact AgesFresh_gen hS hn han hs hw
end Go.Proofs.Ytnihfakhijjjkaa
