/- bits.Len64 of numbers up to 65535. -/
import Derived.Test.YthefmfjlinpepaaP1
import Derived.Lib.Small
import Derived.Lib.Walk
import Derived.Lib.BitFns
namespace Go.Proofs.Ythefmfjlinpepaa
open Go.RowKit Go.Shelf
set_option linter.unusedSimpArgs false
set_option linter.unusedVariables false
attribute [local go_sem] Oper.semAt_some

set_option maxRecDepth 100000 in
set_option maxHeartbeats 4000000 in
theorem Len64_two (x : Int) (w : World) (h0 : 256 ≤ x) (h1 : x ≤ 65535) :
    Calls Try.prog 90 #[.int .u64 x] w fun e w' => e = .returned (.int .i64 (Lib.bitLen x.toNat)) ∧ w = w' := by
  have q0 : 0 ≤ x / 256 := by omega
  have q1 : x / 256 ≤ 255 := by omega
  have l1 := Lib.len8_of (x / 256) q0 q1
  have l2 := Lib.bitLen_le8' (x / 256) q0 q1
  have HS : Hid (Lib.bitLen x.toNat = 8 + Lib.bitLen (x / 256).toNat) := by
    have := Lib.bitLen_shift8 x.toNat (by omega) (by omega)
    rw [show x.toNat / 256 = (x / 256).toNat by omega] at this
    exact this
  generalize Lib.bitLen (x / 256).toNat = b at l1 l2 HS
  go_enter Try.func90, Try.ntmps90
  go_wp2
  all_goals go_ret
  all_goals refine ⟨congrArg Ending.returned (congrArg (Value.int IntKind.i64) ?_), rfl⟩
  all_goals rw [HS.out]
  all_goals (first | omega | (go_num; done))
theorem Len64_one (x : Int) (w : World) (h0 : 0 ≤ x) (h1 : x ≤ 255) :
    Calls Try.prog 90 #[.int .u64 x] w fun e w' => e = .returned (.int .i64 (Lib.bitLen x.toNat)) ∧ w = w' := by
  have l1 := Lib.len8_of x h0 h1
  have l2 := Lib.bitLen_le8' x h0 h1
  generalize Lib.bitLen x.toNat = b at l1 l2 ⊢
  go_enter Try.func90, Try.ntmps90
  go_wp2
  all_goals go_ret
  all_goals refine ⟨congrArg Ending.returned (congrArg (Value.int IntKind.i64) ?_), rfl⟩
  all_goals (first | omega | (go_num; done) | rfl)
end Go.Proofs.Ythefmfjlinpepaa
