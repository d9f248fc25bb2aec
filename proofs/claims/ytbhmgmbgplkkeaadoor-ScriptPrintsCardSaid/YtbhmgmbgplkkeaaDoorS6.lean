/- Two scenes that are alike. -/
import Derived.Test.YtbhmgmbgplkkeaaDoorS2
namespace Go.Proofs.YtbhmgmbgplkkeaaDoor
open Go.RowKit
set_option linter.unusedSimpArgs false
set_option linter.unusedVariables false

set_option maxRecDepth 20000 in
set_option maxHeartbeats 2000000 in
theorem Same_eq {w : World} {z n : Int} {av bv : Value} {src : ByteArray} {L : List V} (hA : RdV w av L) (hB : RdV w bv L) (hn : L.length ≤ 1000000) :
    Calls Tryd.prog 12 #[.agg #[.int .i64 z, .int .i64 n, av, .string src], .agg #[.int .i64 z, .int .i64 n, bv, .string src]] w fun e w' => e = .returned (.bool true) ∧ Kept No w w' := by
  obtain ⟨ao, ac, ha⟩ : ∃ ao ac, av = .slice ao L.length ac := ⟨_, _, hA.choose_spec.choose_spec.1⟩
  obtain ⟨bo, bc, hb⟩ : ∃ bo bc, bv = .slice bo L.length bc := ⟨_, _, hB.choose_spec.choose_spec.1⟩
  subst ha hb
  obtain ⟨W, HW⟩ : ∃ W, Hid (W = (w.alloc (.cells #[.int .i64 z, .int .i64 n, .slice ao L.length ac, .string src] 25)).alloc (.cells #[.int .i64 z, .int .i64 n, .slice bo L.length bc, .string src] 25)) := ⟨_, rfl⟩
  have HK : Hid (Kept No w W) := by show Kept _ _ _; rw [HW.out]; exact ((Kept.refl _ _).alloc _).alloc _
  have HP : Hid (Calls Tryd.prog 17 #[.slice ao L.length ac, .slice bo L.length bc] W fun e w' => e = .returned (.bool true) ∧ Kept No W w') := by
    have := RPoints_any (hA.no HK.out) (hB.no HK.out) hn hn
    rwa [show decide (L = L) = true from decide_eq_true rfl] at this
  have hss : (src.toList == src.toList) = true := beq_self_eq_true _
  clear hA hB
  go_enter Tryd.func12, Tryd.ntmps12
  go_wp2_with fail
  rw [← HW.out]
  refine Calls.mono HP.out ?_
  rintro e w1 ⟨rfl, hk⟩
  have HK1 : Hid (Kept No w w1) := HK.out.trans hk
  clear hk
  go_wp2
  go_ret
  exact ⟨rfl, HK1.out⟩
end Go.Proofs.YtbhmgmbgplkkeaaDoor
