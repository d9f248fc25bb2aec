/- What the rows lean on. -/
import Derived.Test.YtnihfakhijjjkaaA2
import Derived.ProofKit
import Derived.SizedLaws
namespace Go.Proofs.Ytnihfakhijjjkaa
theorem row_own : ownKnob Try.prog.godebug = none := by kernel_rfl
theorem reach_le {n : Nat} (h : n ≤ reachBytes) : n ≤ 140737488355328 := by unfold reachBytes at h; omega
end Go.Proofs.Ytnihfakhijjjkaa
