/- ScriptParses. -/
import Derived.Test.YtbhmgmbgplkkeaaDoorS6
import Derived.Test.YtbhmgmbgplkkeaaDoorT2
import Derived.Test.YtbhmgmbgplkkeaaDoorP12
namespace Go.Proofs.YtbhmgmbgplkkeaaDoor
open Go.RowKit
set_option linter.unusedSimpArgs false
set_option linter.unusedVariables false

set_option maxRecDepth 20000 in
set_option maxHeartbeats 4000000 in
theorem ScriptParses_any (s : ByteArray) (hs : s.size ≤ 140737488355328) {w : World} (hm : MaxIs w) (hr : RowsIs w) :
    Calls Tryd.prog 3 #[.string s] w fun e w' => e = .returned (.bool true) ∧ Kept No w w' := by
  have HA : Hid (∀ X, Kept No w X → Calls Tryd.prog 9 #[] X fun e w' => e = .returned (.bool true) ∧ Kept No X w') := fun X hX => alive_any X (hm.no hX) (hr.no hX)
  by_cases hlong : 80000 < s.size
  · have i1 : (80000 : Int) < (s.size : Int) := by omega
    clear hm hr
    go_enter Tryd.func3, Tryd.ntmps3
    go_wp2_with fail
    refine Calls.mono (HA.out w (Kept.refl _ _)) ?_
    rintro e w1 ⟨rfl, hk⟩
    have HK : Hid (Kept No w w1) := hk
    clear hk
    go_wp2
    go_ret
    exact ⟨rfl, HK.out⟩
  have i1 : ¬ (80000 : Int) < (s.size : Int) := by omega
  have HP : Hid (Calls Tryd.prog 10 #[.string s] w fun e w' => ParsePost w.heap.size (parseF (bl s)) e w' ∧ Kept No w w') := Parse_any s (by omega) w hm hr
  have HR : Hid (∀ X, Calls Tryd.prog 11 #[.string s] X fun e w' => ParsePost X.heap.size (parseF (bl s)) e w' ∧ Kept No X w') := fun X => RParse_any s (by omega) X
  have HSm : Hid (∀ X z n av bv src (L : List V), RdV X av L → RdV X bv L → L.length ≤ 4000 → Calls Tryd.prog 12 #[.agg #[.int .i64 z, .int .i64 n, av, .string src], .agg #[.int .i64 z, .int .i64 n, bv, .string src]] X fun e w' => e = .returned (.bool true) ∧ Kept No X w') := fun X z n av bv src L h1 h2 h3 => Same_eq h1 h2 (by omega)
  clear hm hr
  generalize parseF (bl s) = O at HP HR
  obtain ⟨z, n, src, L, a, er, hL4, hpost⟩ : ∃ (z n : Int) (src : ByteArray) (L : List V) (a er : Nat), L.length ≤ 4000 ∧ ∀ B e w', ParsePost B O e w' → ∃ pv, e = .returned (.tuple #[.agg #[.int .i64 z, .int .i64 n, pv, .string src], .int .i64 (a : Int), .int .i64 (er : Int)]) ∧ RdV w' pv L := by
    cases O with
    | err a er => exact ⟨0, 0, ⟨#[]⟩, [], a, er, by simp, fun B e w' h => ⟨_, h.2 a er rfl, ⟨none, 0, rfl, Nat.le_refl _, fun j hj => by simp at hj⟩⟩⟩
    | ok x =>
      by_cases hx : x.pts.length ≤ 4000
      · refine ⟨x.size, x.steps, mk x.src, x.pts, 0, 0, hx, fun B e w' h => ?_⟩
        obtain ⟨pv, h1, h2, _⟩ := h.1 x rfl
        exact ⟨pv, h1, h2.rd⟩
      · refine ⟨0, 0, mk [], [], 0, 0, by simp, fun B e w' h => ?_⟩
        obtain ⟨pv, h1, h2, h3⟩ := h.1 x rfl
        exact absurd h3 hx
  have HPo : Hid (∀ B e w', ParsePost B O e w' → ∃ pv, e = .returned (.tuple #[.agg #[.int .i64 z, .int .i64 n, pv, .string src], .int .i64 (a : Int), .int .i64 (er : Int)]) ∧ RdV w' pv L) := hpost
  clear hpost
  go_enter Tryd.func3, Tryd.ntmps3
  go_wp2_with fail
  refine Calls.mono HP.out ?_
  rintro e w1 ⟨hp1, hk1⟩
  obtain ⟨pv1, rfl, hrd1⟩ := HPo.out _ _ _ hp1
  obtain ⟨ao1, c1, e1⟩ : ∃ ao ac, pv1 = .slice ao L.length ac := ⟨_, _, hrd1.choose_spec.choose_spec.1⟩
  subst e1
  have H1 : Hid (RdV w1 (.slice ao1 L.length c1) L ∧ Kept No w w1) := ⟨hrd1, hk1⟩
  clear hp1 hk1 hrd1
  obtain ⟨W1, HW1⟩ : ∃ W1, Hid (W1 = w1.alloc (.cells #[.int .i64 z, .int .i64 n, .slice ao1 L.length c1, .string src] 25)) := ⟨_, rfl⟩
  have HKW1 : Hid (Kept No w1 W1) := by show Kept _ _ _; rw [HW1.out]; exact (Kept.refl _ _).alloc _
  have HB1 : Hid (W1.heap[w1.heap.size]? = some (.cells #[.int .i64 z, .int .i64 n, .slice ao1 L.length c1, .string src] 25 (0, 0))) := by show _ = _; rw [HW1.out]; exact World.alloc_heap_new w1 _
  obtain ⟨b1, hb1⟩ : ∃ b1, Hid (b1 = w1.heap.size) := ⟨_, rfl⟩
  go_wp2_with fail
  rw [← HW1.out, ← hb1.out]
  refine Calls.mono (HR.out W1) ?_
  rintro e w2 ⟨hp2, hk2⟩
  obtain ⟨pv2, rfl, hrd2⟩ := HPo.out _ _ _ hp2
  obtain ⟨ao2, c2, e2⟩ : ∃ ao ac, pv2 = .slice ao L.length ac := ⟨_, _, hrd2.choose_spec.choose_spec.1⟩
  subst e2
  have H2 : Hid (RdV w2 (.slice ao2 L.length c2) L ∧ Kept No W1 w2) := ⟨hrd2, hk2⟩
  clear hp2 hk2 hrd2
  have hB1 : w2.heap[b1]? = some (.cells #[.int .i64 z, .int .i64 n, .slice ao1 L.length c1, .string src] 25 (0, 0)) := by rw [hb1.out]; exact H2.out.2.heap HB1.out id
  obtain ⟨W2, HW2⟩ : ∃ W2, Hid (W2 = w2.alloc (.cells #[.int .i64 z, .int .i64 n, .slice ao2 L.length c2, .string src] 25)) := ⟨_, rfl⟩
  have HKW2 : Hid (Kept No w2 W2) := by show Kept _ _ _; rw [HW2.out]; exact (Kept.refl _ _).alloc _
  have HKt : Hid (Kept No w1 W2 ∧ Kept No w W2) := ⟨(HKW1.out.trans H2.out.2).trans HKW2.out, H1.out.2.trans ((HKW1.out.trans H2.out.2).trans HKW2.out)⟩
  have hl1 : b1 < w2.heap.size := hp_lt hB1
  have q0 : ∀ o, (w2.alloc o).cell? ⟨b1, 0, none⟩ = some (.int .i64 z) := fun o => by rw [cell_alloc_old _ _ _ _ hl1, cell_of hB1]; rfl
  have q1 : ∀ o, (w2.alloc o).cell? ⟨b1, 1, none⟩ = some (.int .i64 n) := fun o => by rw [cell_alloc_old _ _ _ _ hl1, cell_of hB1]; rfl
  have q2 : ∀ o, (w2.alloc o).cell? ⟨b1, 2, none⟩ = some (.slice ao1 L.length c1) := fun o => by rw [cell_alloc_old _ _ _ _ hl1, cell_of hB1]; rfl
  have q3 : ∀ o, (w2.alloc o).cell? ⟨b1, 3, none⟩ = some (.string src) := fun o => by rw [cell_alloc_old _ _ _ _ hl1, cell_of hB1]; rfl
  clear hB1 HB1
  go_wp2_with fail
  rw [← HW2.out]
  refine Calls.mono (HSm.out W2 z n _ _ src L (H1.out.1.no HKt.out.1) (H2.out.1.no HKW2.out) hL4) ?_
  rintro e w3 ⟨rfl, hk3⟩
  have HK3 : Hid (Kept No w w3) := HKt.out.2.trans hk3
  clear hk3
  go_wp2_with fail
  refine Calls.mono (no_any _ _) ?_
  rintro e w9 ⟨rfl, rfl⟩
  go_wp2_with fail
  refine Calls.mono (HA.out w3 HK3.out) ?_
  rintro e w4 ⟨rfl, hk4⟩
  have HK4 : Hid (Kept No w w4) := HK3.out.trans hk4
  clear hk4
  go_wp2
  go_ret
  exact ⟨rfl, HK4.out⟩
end Go.Proofs.YtbhmgmbgplkkeaaDoor
