/- ScriptPrints. -/
import Derived.Test.YtbhmgmbgplkkeaaDoorV2
import Derived.Test.YtbhmgmbgplkkeaaDoorS5
namespace Go.Proofs.YtbhmgmbgplkkeaaDoor
open Go.RowKit
set_option linter.unusedSimpArgs false
set_option linter.unusedVariables false

theorem prV_form (P : Nat ⊕ List UInt8) : ∃ (sv : ByteArray) (c : Int), prV P = .tuple #[.string sv, .int .i64 c] := by
  cases P with
  | inl c => exact ⟨_, _, rfl⟩
  | inr t => exact ⟨_, _, rfl⟩

set_option maxRecDepth 20000 in
set_option maxHeartbeats 1000000 in
theorem ScriptPrints_any {z n : Int} {pv : Value} {src : ByteArray} {L : List V} {w : World} (hL : RdV w pv L) (hnil : pv = .slice none 0 0 ∨ ∃ ad n c, pv = .slice (some ad) n c) (hn : L.length ≤ 140737488355328) (hsrc : src.size ≤ 140737488355328) (hm : MaxIs w) (hr : RowsIs w) (ht : TenIs w) :
    Calls Tryd.prog 4 #[SC z n pv src] w fun e w' => e = .returned (.bool true) ∧ Kept No w w' := by
  have HL0 : Hid (RdV w pv L) := hL
  obtain ⟨ao, cap, rfl, hcap, hC⟩ := hL
  have HNl : Hid (Value.slice ao L.length cap = .slice none 0 0 ∨ ∃ ad n c, Value.slice ao L.length cap = .slice (some ad) n c) := hnil
  obtain ⟨W, HW⟩ : ∃ W, Hid (W = w.alloc (.cells #[.int .i64 z, .int .i64 n, .slice ao L.length cap, .string src] 25)) := ⟨_, rfl⟩
  have HK : Hid (Kept No w W) := by show Kept _ _ _; rw [HW.out]; exact (Kept.refl No w).alloc _
  obtain ⟨R, HR⟩ : ∃ R, Hid (w.heap.size = R) := ⟨_, rfl⟩
  have HB : Hid (W.heap[R]? = some (.cells #[.int .i64 z, .int .i64 n, .slice ao L.length cap, .string src] 25 (0, 0))) := by show _ = _; rw [HW.out, ← HR.out]; exact World.alloc_heap_new w _
  have HX : Hid (∀ X, Kept No W X → X.cell? ⟨R, 0, none⟩ = some (.int .i64 z) ∧ X.cell? ⟨R, 1, none⟩ = some (.int .i64 n) ∧ X.cell? ⟨R, 2, none⟩ = some (.slice ao L.length cap) ∧ X.cell? ⟨R, 3, none⟩ = some (.string src)) := fun X hX => by
    have hb := hX.heap HB.out id
    exact ⟨by rw [cell_of hb]; rfl, by rw [cell_of hb]; rfl, by rw [cell_of hb]; rfl, by rw [cell_of hb]; rfl⟩
  obtain ⟨b0, b1, b2, b3⟩ := HX.out W (Kept.refl _ _)
  have hm := hm.no HK.out
  have hr := hr.no HK.out
  have ht := ht.no HK.out
  have HLW : Hid (RdV W (.slice ao L.length cap) L) := HL0.out.no HK.out
  have HA : Hid (∀ X, Kept No W X → Calls Tryd.prog 9 #[] X fun e w' => e = .returned (.bool true) ∧ Kept No X w') := fun X hX => alive_any X (hm.no hX) (hr.no hX)
  have HV : Hid (∀ X, Calls Tryd.prog 14 #[SC z n (.slice ao L.length cap) src] X fun e w' => e = .returned (.bool (decide (5000 < L.length) || decide (20000 < src.size))) ∧ Kept No X w') := fun X => vast_any L.length X
  clear hC HL0 hnil
  by_cases hv : (decide (5000 < L.length) || decide (20000 < src.size)) = true
  · rw [hv] at HV
    clear hm hr ht
    go_enter Tryd.func4, Tryd.ntmps4
    go_wp2_with (first | rw [← HW.out, HR.out])
    refine Calls.mono (HV.out _) ?_
    rintro e w1 ⟨rfl, hk1⟩
    have HK1 : Hid (Kept No W w1) := hk1
    clear hk1
    go_wp2_with fail
    refine Calls.mono (HA.out w1 HK1.out) ?_
    rintro e w2 ⟨rfl, hk2⟩
    have HK2 : Hid (Kept No W w2) := HK1.out.trans hk2
    clear hk2
    go_wp2
    go_ret
    exact ⟨rfl, HK.out.trans HK2.out⟩
  have hv' : (decide (5000 < L.length) || decide (20000 < src.size)) = false := by simpa using hv
  rw [hv'] at HV
  have hL5 : L.length ≤ 5000 := by
    rw [Bool.or_eq_false_iff, decide_eq_false_iff_not] at hv'; omega
  clear hv hv'
  obtain ⟨sv, c, hpv⟩ := prV_form (printF ⟨z, n, L, bl src⟩)
  have HPr : Hid (∀ X, Kept No W X → Calls Tryd.prog 15 #[SC z n (.slice ao L.length cap) src] X fun e w' => e = .returned (.tuple #[.string sv, .int .i64 c]) ∧ Kept No X w') := fun X hX => by
    rw [← hpv]; exact Print_any (HLW.out.no hX) hn hsrc (hr.no hX) (ht.no hX)
  have HRr : Hid (∀ X, Kept No W X → Calls Tryd.prog 16 #[SC z n (.slice ao L.length cap) src] X fun e w' => e = .returned (.tuple #[.string sv, .int .i64 c]) ∧ Kept No X w') := fun X hX => by
    rw [← hpv]; exact RPrint_any (HLW.out.no hX) hn hsrc
  have HPt : Hid (∀ X av bv (A B : List V), RdV X av A → RdV X bv B → A.length ≤ 5000 → B.length ≤ 5000 → Calls Tryd.prog 17 #[av, bv] X fun e w' => e = .returned (.bool (decide (A = B))) ∧ Kept No X w') := fun X av bv A B h1 h2 h3 h4 => RPoints_any h1 h2 (by omega) (by omega)
  have hss : (sv.toList == sv.toList) = true := beq_self_eq_true _
  clear hm hr ht hpv
  go_enter Tryd.func4, Tryd.ntmps4
  go_wp2_with (first | rw [← HW.out, HR.out])
  refine Calls.mono (HV.out _) ?_
  rintro e w1 ⟨rfl, hk1⟩
  have HK1 : Hid (Kept No W w1) := hk1
  obtain ⟨b0, b1, b2, b3⟩ := HX.out w1 HK1.out
  have q2 : ∀ o, (w1.alloc o).cell? ⟨R, 2, none⟩ = some (.slice ao L.length cap) := fun o => (HX.out _ (HK1.out.alloc o)).2.2.1
  clear hk1
  obtain ⟨W2, HW2⟩ : ∃ W2, Hid (W2 = w1.alloc (.cells #[] 45)) := ⟨_, rfl⟩
  have HK2 : Hid (Kept No W W2) := by show Kept _ _ _; rw [HW2.out]; exact HK1.out.alloc _
  go_wp2_with (refine app_all rfl (.tmp 11) (.tmp 13) rfl w1.heap.size (.slice (some ⟨w1.heap.size, 0, none⟩) 0 0) (.slice ao L.length cap) [] L rfl (VRow.empty w1 _ (Nat.le_refl _)) rfl (HLW.out.no (HK1.out.alloc _)) HNl.out (by simp; omega) (by simp) ?_)
  intro v1 w2 hv1 hg1
  have HK3 : Hid (Kept No W w2) := by
    rw [← HW2.out] at hg1
    have h := grown_kept (w := w1) (row := some w1.heap.size) (by rw [HW2.out]; exact (Kept.refl _ _).alloc _) (hg1.out.imp (fun e => e.1) id) (fun k e => by injection e with e; omega)
    exact HK1.out.trans h
  obtain ⟨ao1, cp1, rfl⟩ := hv1.out.form
  have HV1 : Hid (VRow w2 w1.heap.size (.slice ao1 ([] ++ L).length cp1) L) := hv1.out
  obtain ⟨b0, b1, b2, b3⟩ := HX.out w2 HK3.out
  clear hv1 hg1 q2
  go_wp2_with fail
  refine Calls.mono (HPr.out w2 HK3.out) ?_
  rintro e w3 ⟨rfl, hk3⟩
  have HK4 : Hid (Kept No W w3 ∧ Kept No w2 w3) := ⟨HK3.out.trans hk3, hk3⟩
  obtain ⟨b0, b1, b2, b3⟩ := HX.out w3 HK4.out.1
  clear hk3
  go_wp2_with fail
  refine Calls.mono (HRr.out w3 HK4.out.1) ?_
  rintro e w4 ⟨rfl, hk4⟩
  have HK5 : Hid (Kept No W w4 ∧ Kept No w2 w4) := ⟨HK4.out.1.trans hk4, HK4.out.2.trans hk4⟩
  obtain ⟨b0, b1, b2, b3⟩ := HX.out w4 HK5.out.1
  clear hk4
  go_wp2_with fail
  refine Calls.mono (no_any _ _) ?_
  rintro e w9 ⟨rfl, rfl⟩
  go_wp2_with fail
  refine Calls.mono (HPt.out w4 _ _ _ _ (HV1.out.rd.no HK5.out.2) (HLW.out.no HK5.out.1) hL5 hL5) ?_
  rintro e w5 ⟨rfl, hk5⟩
  rw [show decide (L = L) = true from decide_eq_true rfl]
  have HK6 : Hid (Kept No W w5) := HK5.out.1.trans hk5
  clear hk5
  go_wp2_with fail
  refine Calls.mono (HA.out w5 HK6.out) ?_
  rintro e w6 ⟨rfl, hk6⟩
  have HK7 : Hid (Kept No w w6) := HK.out.trans (HK6.out.trans hk6)
  clear hk6
  go_wp2
  go_ret
  exact ⟨rfl, HK7.out⟩
end Go.Proofs.YtbhmgmbgplkkeaaDoor
