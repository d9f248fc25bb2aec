/- ScriptShrinks. -/
import Derived.Test.YtbhmgmbgplkkeaaDoorS3
import Derived.Test.YtbhmgmbgplkkeaaDoorS4
import Derived.Test.YtbhmgmbgplkkeaaDoorP12
import Derived.Test.YtbhmgmbgplkkeaaDoorA2
namespace Go.Proofs.YtbhmgmbgplkkeaaDoor
open Go.RowKit
set_option linter.unusedSimpArgs false
set_option linter.unusedVariables false

theorem grown_kept {w W w' : World} {row : Option Nat} (hk : Kept No w W) (h : w' = W ∨ W.grownBy w' row) (hr : ∀ k, row = some k → w.heap.size ≤ k) : Kept No w w' := by
  rcases h with rfl | h
  · exact hk
  · exact Kept.grown hk h (fun k e => .inr (hr k e))

set_option maxRecDepth 20000 in
set_option maxHeartbeats 4000000 in
theorem ScriptShrinks_any {w : World} {lv : Value} {L : List V} (hL : RdV w lv L) (hnil : lv = .slice none 0 0 ∨ ∃ ad n c, lv = .slice (some ad) n c) (hm : MaxIs w) (hr : RowsIs w) :
    Calls Tryd.prog 5 #[lv] w fun e w' => e = .returned (.bool true) ∧ Kept No w w' := by
  obtain ⟨ao, cap, hlv⟩ : ∃ ao cap, lv = .slice ao L.length cap := ⟨_, _, hL.choose_spec.choose_spec.1⟩
  subst hlv
  have HL : Hid (RdV w (.slice ao L.length cap) L) := hL
  have HNl : Hid (Value.slice ao L.length cap = .slice none 0 0 ∨ ∃ ad n c, Value.slice ao L.length cap = .slice (some ad) n c) := hnil
  have HA : Hid (∀ X, Kept No w X → Calls Tryd.prog 9 #[] X fun e w' => e = .returned (.bool true) ∧ Kept No X w') := fun X hX => alive_any X (hm.no hX) (hr.no hX)
  clear hL hnil hm hr
  by_cases hlong : 5000 < L.length
  · have i1 : (5000 : Int) < (L.length : Int) := by omega
    go_enter Tryd.func5, Tryd.ntmps5
    go_wp2_with fail
    refine Calls.mono (HA.out w (Kept.refl _ _)) ?_
    rintro e w1 ⟨rfl, hk⟩
    have HK : Hid (Kept No w w1) := hk
    clear hk
    go_wp2
    go_ret
    exact ⟨rfl, HK.out⟩
  have i1 : ¬ (5000 : Int) < (L.length : Int) := by omega
  have HSh : Hid (∀ X v (M : List V), RdV X v M → M.length ≤ 5000 → Calls Tryd.prog 18 #[v] X fun e w' => ∃ v, e = .returned v ∧ VRow w' X.heap.size v (shr M) ∧ Kept No X w') := fun X v M h hM => Shrink_any h (by omega)
  have HRS : Hid (∀ X v (M : List V), RdV X v M → M.length ≤ 5000 → Calls Tryd.prog 19 #[v] X fun e w' => ∃ v, e = .returned v ∧ VRow w' X.heap.size v (shr M) ∧ Kept No X w') := fun X v M h hM => RShrink_any h (by omega)
  have HPt : Hid (∀ X av bv (A B : List V), RdV X av A → RdV X bv B → A.length ≤ 5000 → B.length ≤ 5000 → Calls Tryd.prog 17 #[av, bv] X fun e w' => e = .returned (.bool (decide (A = B))) ∧ Kept No X w') := fun X av bv A B h1 h2 h3 h4 => RPoints_any h1 h2 (by omega) (by omega)
  have hsl := shr_le L
  have hsl2 : (shr L).length ≤ 5000 := by omega
  have hL5 : L.length ≤ 5000 := by omega
  obtain ⟨W, HW⟩ : ∃ W, Hid (W = w.alloc (.cells #[] 45)) := ⟨_, rfl⟩
  have HK : Hid (Kept No w W) := by show Kept _ _ _; rw [HW.out]; exact (Kept.refl _ _).alloc _
  have HRow : Hid (VRow W w.heap.size (.slice (some ⟨w.heap.size, 0, none⟩) 0 0) []) := by show VRow _ _ _ _; rw [HW.out]; exact VRow.empty w _ (Nat.le_refl _)
  go_enter Tryd.func5, Tryd.ntmps5
  go_wp2_with (refine app_all rfl (.tmp 9) (.tmp 10) rfl w.heap.size (.slice (some ⟨w.heap.size, 0, none⟩) 0 0) (.slice ao L.length cap) [] L rfl (VRow.empty w _ (Nat.le_refl _)) rfl (HL.out.no ((Kept.refl _ _).alloc _)) HNl.out (by simp; omega) (by simp) ?_)
  intro v1 w1 hv1 hg1
  have HK1 : Hid (Kept No w w1) := by
    rw [← HW.out] at hg1
    refine grown_kept (row := some w.heap.size) HK.out (hg1.out.imp (fun e => e.1) id) (fun k e => by injection e with e; omega)
  obtain ⟨ao1, cp1, rfl⟩ := hv1.out.form
  have HV1 : Hid (VRow w1 w.heap.size (.slice ao1 ([] ++ L).length cp1) L) := hv1.out
  clear hv1 hg1
  go_wp2_with fail
  refine Calls.mono (HSh.out w1 _ L (HL.out.no HK1.out) hL5) ?_
  rintro e w2 ⟨v2, rfl, h1, h2⟩
  obtain ⟨ao2, cp2, rfl⟩ := h1.form
  have HV2 : Hid (VRow w2 w1.heap.size (.slice ao2 (shr L).length cp2) (shr L)) := h1
  have HK2 : Hid (Kept No w1 w2) := h2
  clear h1 h2
  go_wp2_with fail
  refine Calls.mono (HRS.out w2 _ L (HL.out.no (HK1.out.trans HK2.out)) hL5) ?_
  rintro e w3 ⟨v3, rfl, h1, h2⟩
  obtain ⟨ao3, cp3, rfl⟩ := h1.form
  have HV3 : Hid (VRow w3 w2.heap.size (.slice ao3 (shr L).length cp3) (shr L)) := h1
  have HK3 : Hid (Kept No w2 w3) := h2
  clear h1 h2
  go_wp2_with fail
  refine Calls.mono (HPt.out w3 _ _ _ _ (HV2.out.rd.no HK3.out) HV3.out.rd hsl2 hsl2) ?_
  rintro e w4 ⟨rfl, h1⟩
  rw [show decide (shr L = shr L) = true from decide_eq_true rfl]
  have HK4 : Hid (Kept No w2 w4) := HK3.out.trans h1
  clear h1
  go_wp2_with fail
  refine Calls.mono (HSh.out w4 _ (shr L) (HV2.out.rd.no HK4.out) hsl2) ?_
  rintro e w5 ⟨v5, rfl, h1, h2⟩
  rw [shr_twice] at h1
  obtain ⟨ao5, cp5, rfl⟩ := h1.form
  have HV5 : Hid (VRow w5 w4.heap.size (.slice ao5 (shr L).length cp5) (shr L)) := h1
  have HK5 : Hid (Kept No w2 w5) := HK4.out.trans h2
  clear h1 h2
  go_wp2_with fail
  refine Calls.mono (HPt.out w5 _ _ _ _ HV5.out.rd (HV2.out.rd.no HK5.out) hsl2 hsl2) ?_
  rintro e w6 ⟨rfl, h1⟩
  rw [show decide (shr L = shr L) = true from decide_eq_true rfl]
  have HK6 : Hid (Kept No w2 w6) := HK5.out.trans h1
  have HKw6 : Hid (Kept No w w6) := (HK1.out.trans HK2.out).trans HK6.out
  clear h1
  go_wp2_with fail
  refine Calls.mono (HPt.out w6 _ _ _ _ (HV1.out.rd.no (HK2.out.trans HK6.out)) (HL.out.no HKw6.out) hL5 hL5) ?_
  rintro e w7 ⟨rfl, h1⟩
  rw [show decide (L = L) = true from decide_eq_true rfl]
  have HK7 : Hid (Kept No w w7) := HKw6.out.trans h1
  clear h1
  go_wp2_with fail
  refine Calls.mono (HA.out w7 HK7.out) ?_
  rintro e w8 ⟨rfl, h1⟩
  have HK8 : Hid (Kept No w w8) := HK7.out.trans h1
  clear h1
  go_wp2
  go_ret
  exact ⟨rfl, HK8.out⟩
end Go.Proofs.YtbhmgmbgplkkeaaDoor
