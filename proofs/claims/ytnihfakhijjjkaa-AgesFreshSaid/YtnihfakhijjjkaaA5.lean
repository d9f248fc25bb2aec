/- The rules of a view: ModeGen and ModeInc in the pause. -/
import Derived.Test.YtnihfakhijjjkaaA4
import Derived.Laws.EntriesVeiled
namespace Go.Proofs.Ytnihfakhijjjkaa
open Go.RowKit
set_option linter.unusedSimpArgs false
set_option linter.unusedVariables false

theorem strange_any (w : World) : Calls Try.prog 26 #[] w fun e w' => e = .returned (.agg #[Fc 34 #[], Fc 35 #[], Fc 36 #[]]) ∧ Kept No w w' := by
  have HK : Hid (∀ o, Kept No w (w.alloc o)) := fun o => (Kept.refl _ _).alloc _
  go_enter Try.func26, Try.ntmps26
  go_wp2
  refine bodyPost_ret (v := .agg #[Fc 34 #[], Fc 35 #[], Fc 36 #[]]) (by simp [results, Try.results26, go_sem]) rfl ⟨rfl, ?_⟩
  first | exact HK.out _ | (repeat refine Kept.set ?_ _ _ _ (.inr (Nat.le_refl _)); exact HK.out _)

theorem MapJ.cells {w : World} {M n b : Nat} {sl : Int → Int} {c : Array Value} {e : TypeId} {f : Nat × Nat} (h : MapJ w M n sl) (hb : w.heap[b]? = some (.cells c e f)) : M ≠ b := by
  obtain ⟨D, ⟨es, cc, hm, r⟩, hD⟩ := h
  rintro rfl
  rw [hm] at hb; cases hb
theorem keep5 (W : World) (a b : Nat) (v0 v1 v2 v3 v4 : Value) : Kept (fun k => k = a ∨ k = b) W (((((W.setCell ⟨a, 0, none⟩ v0).setCell ⟨a, 2, none⟩ v1).setCell ⟨b, 0, none⟩ v2).setCell ⟨b, 1, none⟩ v3).setCell ⟨b, 2, none⟩ v4) := by
  refine Kept.set ?_ _ _ _ (.inl (.inr rfl))
  refine Kept.set ?_ _ _ _ (.inl (.inr rfl))
  refine Kept.set ?_ _ _ _ (.inl (.inr rfl))
  refine Kept.set ?_ _ _ _ (.inl (.inl rfl))
  refine Kept.set ?_ _ _ _ (.inl (.inl rfl))
  exact Kept.refl _ _
theorem keep4 (W : World) (a b : Nat) (v0 v2 v3 v4 : Value) : Kept (fun k => k = a ∨ k = b) W ((((W.setCell ⟨a, 0, none⟩ v0).setCell ⟨b, 0, none⟩ v2).setCell ⟨b, 1, none⟩ v3).setCell ⟨b, 2, none⟩ v4) := by
  refine Kept.set ?_ _ _ _ (.inl (.inr rfl))
  refine Kept.set ?_ _ _ _ (.inl (.inr rfl))
  refine Kept.set ?_ _ _ _ (.inl (.inr rfl))
  refine Kept.set ?_ _ _ _ (.inl (.inl rfl))
  exact Kept.refl _ _
theorem keep3 (W : World) (b : Nat) (v2 v3 v4 : Value) : Kept (fun k => k = b) W (((W.setCell ⟨b, 0, none⟩ v2).setCell ⟨b, 1, none⟩ v3).setCell ⟨b, 2, none⟩ v4) := by
  refine Kept.set ?_ _ _ _ (.inl rfl)
  refine Kept.set ?_ _ _ _ (.inl rfl)
  refine Kept.set ?_ _ _ _ (.inl rfl)
  exact Kept.refl _ _

/-- A view as an argument. -/
abbrev AW (md ph wh : Int) (so : Option Addr) (sn sc : Nat) (go : Option Addr) (gn gc : Nat) (ao : Option Addr) (an ac : Nat) (po : Option Addr) (pn pc : Nat) : Value :=
  .agg #[.int .i64 md, .int .i64 ph, .int .i64 wh, .slice so sn sc, .slice go gn gc, .slice ao an ac, .slice po pn pc]

set_option maxRecDepth 20000 in
set_option maxHeartbeats 4000000 in
theorem genRules_any {w : World} {wh : Int} {so go ao po : Option Addr} {sn sc gn gc an ac pn pc : Nat} {L : List Int} (hL : RdI w (.slice ao an ac) L) (hn : L.length ≤ 1000000) (hw : ∀ h ∈ L, wf h) :
    Calls Try.prog 25 #[AW 1 0 wh so sn sc go gn gc ao an ac po pn pc] w fun e w' => ∃ vb tb M n, e = .returned (.agg #[Fc 30 #[PT vb, PT tb], Fc 35 #[], Fc 32 #[]]) ∧
      w'.heap[vb]? = some (BV 1 0 wh (.slice so sn sc) (.slice go gn gc) (.slice ao an ac) (.slice po pn pc)) ∧ w'.heap[tb]? = some (.cells #[.map (some M)] 56) ∧ MapJ w' M n (cnt L L.length) ∧ Kept No w w' := by
  have HL : Hid (RdI w (.slice ao an ac) L) := hL
  have HWf : Hid (∀ h ∈ L, wf h) := hw
  have HS : Hid (∀ W, Calls Try.prog 26 #[] W fun e w' => e = .returned (.agg #[Fc 34 #[], Fc 35 #[], Fc 36 #[]]) ∧ Kept No W w') := fun W => strange_any W
  obtain ⟨W, HWd⟩ : ∃ W, Hid (W = (w.alloc (BV 1 0 wh (.slice so sn sc) (.slice go gn gc) (.slice ao an ac) (.slice po pn pc))).alloc (.cells #[.nilFunc, .nilFunc, .nilFunc] 47)) := ⟨_, rfl⟩
  have hkW : Kept No w W := by rw [HWd.out]; exact ((Kept.refl _ _).alloc _).alloc _
  have hv : W.heap[w.heap.size]? = some (BV 1 0 wh (.slice so sn sc) (.slice go gn gc) (.slice ao an ac) (.slice po pn pc)) := by rw [HWd.out]; exact (Below.heap_alloc _ _ _ (by simp)).trans (World.alloc_heap_new w _)
  have hr : W.heap[w.heap.size + 1]? = some (.cells #[.nilFunc, .nilFunc, .nilFunc] 47 (0, 0)) := by
    rw [HWd.out]; have := World.alloc_heap_new (w.alloc (BV 1 0 wh (.slice so sn sc) (.slice go gn gc) (.slice ao an ac) (.slice po pn pc))) (.cells #[.nilFunc, .nilFunc, .nilFunc] 47); rwa [World.size_alloc] at this
  have HKW : Hid (Kept No w W) := hkW
  have HV : Hid _ := hv
  have HRr : Hid _ := hr
  clear hL hw hkW hv hr
  go_enter Try.func25, Try.ntmps25
  go_wp2_with (first | rw [← HWd.out])
  refine Calls.mono (HS.out _) ?_
  rintro e w1 ⟨rfl, hk1⟩
  obtain ⟨W2, HW2⟩ : ∃ W2, Hid (W2 = w1.alloc (.cells #[Fc 34 #[], Fc 35 #[], Fc 36 #[]] 47)) := ⟨_, rfl⟩
  have hk2 : Kept No w1 W2 := by rw [HW2.out]; exact (Kept.refl _ _).alloc _
  have hb2 : W2.heap[w1.heap.size]? = some (.cells #[Fc 34 #[], Fc 35 #[], Fc 36 #[]] 47 (0, 0)) := by rw [HW2.out]; exact World.alloc_heap_new w1 _
  have hv2 := (hk1.trans hk2).heap HV.out id
  have hr2 := (hk1.trans hk2).heap HRr.out id
  have c1 : W2.cell? ⟨w.heap.size, 1, none⟩ = some (.int .i64 0) := by rw [cell_of hv2]; rfl
  have c5 : W2.cell? ⟨w.heap.size, 5, none⟩ = some (.slice ao an ac) := by rw [cell_of hv2]; rfl
  have HK2 : Hid (Kept No w W2) := HKW.out.trans (hk1.trans hk2)
  have HB2 : Hid _ := hb2
  have HV2 : Hid _ := hv2
  have HR2 : Hid _ := hr2
  have hlt : w.heap.size + 1 < w1.heap.size := hp_lt (hk1.heap HRr.out id)
  clear hk1 hk2 hb2 hv2 hr2 HV HRr
  go_wp2_with (first | rw [← HW2.out])
  refine Calls.mono (timesOf_any (HL.out.no HK2.out) hn HWf.out) ?_
  rintro e w3 ⟨M, rfl, ⟨n, hM⟩, hk3⟩
  obtain ⟨W4, HW4⟩ : ∃ W4, Hid (W4 = w3.alloc (.cells #[.map (some M)] 56)) := ⟨_, rfl⟩
  have hk4 : Kept No w3 W4 := by rw [HW4.out]; exact (Kept.refl _ _).alloc _
  have hb4 : W4.heap[w3.heap.size]? = some (.cells #[.map (some M)] 56 (0, 0)) := by rw [HW4.out]; exact World.alloc_heap_new w3 _
  have hv4 := (hk3.trans hk4).heap HV2.out id
  have hr4 := (hk3.trans hk4).heap HR2.out id
  have hx4 := (hk3.trans hk4).heap HB2.out id
  have HK4 : Hid (Kept No w W4) := HK2.out.trans (hk3.trans hk4)
  have HM4 : Hid (MapJ W4 M n (cnt L L.length)) := hM.kept hk4 id
  have h34 : w1.heap.size < w3.heap.size := hp_lt (hk3.heap HB2.out id)
  have HF : Hid (W4.heap[w.heap.size]? = some (BV 1 0 wh (.slice so sn sc) (.slice go gn gc) (.slice ao an ac) (.slice po pn pc)) ∧ W4.heap[w3.heap.size]? = some (.cells #[.map (some M)] 56 (0, 0))) := ⟨hv4, hb4⟩
  generalize w1.heap.size = rb at hlt h34 hx4 ⊢
  have x0 : W4.cell? ⟨rb, 0, none⟩ = some (Fc 34 #[]) := by rw [cell_of hx4]; rfl
  have x1 : W4.cell? ⟨rb, 1, none⟩ = some (Fc 35 #[]) := by rw [cell_of hx4]; rfl
  have x2 : W4.cell? ⟨rb, 2, none⟩ = some (Fc 36 #[]) := by rw [cell_of hx4]; rfl
  have y0 : W4.cell? ⟨w.heap.size + 1, 0, none⟩ = some .nilFunc := by rw [cell_of hr4]; rfl
  have y1 : W4.cell? ⟨w.heap.size + 1, 1, none⟩ = some .nilFunc := by rw [cell_of hr4]; rfl
  have y2 : W4.cell? ⟨w.heap.size + 1, 2, none⟩ = some .nilFunc := by rw [cell_of hr4]; rfl
  have z0 : W4.frozen? ⟨rb, 0, none⟩ = false := frozen_of hx4 _
  have z2 : W4.frozen? ⟨rb, 2, none⟩ = false := frozen_of hx4 _
  have q0 : W4.frozen? ⟨w.heap.size + 1, 0, none⟩ = false := frozen_of hr4 _
  have q1 : W4.frozen? ⟨w.heap.size + 1, 1, none⟩ = false := frozen_of hr4 _
  have q2 : W4.frozen? ⟨w.heap.size + 1, 2, none⟩ = false := frozen_of hr4 _
  have n1 : rb ≠ w.heap.size + 1 := by omega
  have n2 : w.heap.size + 1 ≠ rb := by omega
  have HN : Hid (w.heap.size + 1 < rb ∧ rb < w3.heap.size ∧ M ≠ rb ∧ M ≠ w.heap.size + 1) := ⟨hlt, h34, HM4.out.cells hx4, HM4.out.cells hr4⟩
  clear hM hk3 hk4 hb4 hv4 hr4 hx4 hlt h34 HK2 HV2 HB2 HR2 HW2 HWd HKW c1 c5
  go_wp2_with (first | rw [← HW4.out])
  refine bodyPost_ret (v := .agg #[Fc 30 #[PT w.heap.size, PT w3.heap.size], Fc 35 #[], Fc 32 #[]]) (by simp [results, Try.results25, go_sem, n1, n2, y0, y1, y2]) rfl ?_
  have hkk := keep5 W4 rb (w.heap.size + 1) (Fc 30 #[PT w.heap.size, PT w3.heap.size]) (Fc 32 #[]) (Fc 30 #[PT w.heap.size, PT w3.heap.size]) (Fc 35 #[]) (Fc 32 #[])
  obtain ⟨l1, l2, l3, l4⟩ := HN.out
  exact ⟨w.heap.size, w3.heap.size, M, n, rfl, hkk.heap HF.out.1 (by omega), hkk.heap HF.out.2 (by omega), HM4.out.kept hkk (by omega), HK4.out.trans' hkk (fun i hi => .inr (by omega))⟩

set_option maxRecDepth 20000 in
set_option maxHeartbeats 4000000 in
theorem phaseRules_any {w : World} {md wh : Int} {so go ao po : Option Addr} {sn sc gn gc an ac pn pc : Nat} :
    Calls Try.prog 27 #[AW md 0 wh so sn sc go gn gc ao an ac po pn pc] w fun e w' => ∃ vb, e = .returned (.agg #[Fc 37 #[PT vb], Fc 35 #[], Fc 36 #[]]) ∧
      w'.heap[vb]? = some (BV md 0 wh (.slice so sn sc) (.slice go gn gc) (.slice ao an ac) (.slice po pn pc)) ∧ Kept No w w' := by
  have HS : Hid (∀ W, Calls Try.prog 26 #[] W fun e w' => e = .returned (.agg #[Fc 34 #[], Fc 35 #[], Fc 36 #[]]) ∧ Kept No W w') := fun W => strange_any W
  obtain ⟨W, HWd⟩ : ∃ W, Hid (W = (w.alloc (BV md 0 wh (.slice so sn sc) (.slice go gn gc) (.slice ao an ac) (.slice po pn pc))).alloc (.cells #[.nilFunc, .nilFunc, .nilFunc] 47)) := ⟨_, rfl⟩
  have hkW : Kept No w W := by rw [HWd.out]; exact ((Kept.refl _ _).alloc _).alloc _
  have hv : W.heap[w.heap.size]? = some (BV md 0 wh (.slice so sn sc) (.slice go gn gc) (.slice ao an ac) (.slice po pn pc)) := by rw [HWd.out]; exact (Below.heap_alloc _ _ _ (by simp)).trans (World.alloc_heap_new w _)
  have hr : W.heap[w.heap.size + 1]? = some (.cells #[.nilFunc, .nilFunc, .nilFunc] 47 (0, 0)) := by
    rw [HWd.out]; have := World.alloc_heap_new (w.alloc (BV md 0 wh (.slice so sn sc) (.slice go gn gc) (.slice ao an ac) (.slice po pn pc))) (.cells #[.nilFunc, .nilFunc, .nilFunc] 47); rwa [World.size_alloc] at this
  have HKW : Hid (Kept No w W) := hkW
  have HV : Hid _ := hv
  have HRr : Hid _ := hr
  clear hkW hv hr
  go_enter Try.func27, Try.ntmps27
  go_wp2_with (first | rw [← HWd.out])
  refine Calls.mono (HS.out _) ?_
  rintro e w1 ⟨rfl, hk1⟩
  obtain ⟨W2, HW2⟩ : ∃ W2, Hid (W2 = w1.alloc (.cells #[Fc 34 #[], Fc 35 #[], Fc 36 #[]] 47)) := ⟨_, rfl⟩
  have hk2 : Kept No w1 W2 := by rw [HW2.out]; exact (Kept.refl _ _).alloc _
  have hb2 : W2.heap[w1.heap.size]? = some (.cells #[Fc 34 #[], Fc 35 #[], Fc 36 #[]] 47 (0, 0)) := by rw [HW2.out]; exact World.alloc_heap_new w1 _
  have hv2 := (hk1.trans hk2).heap HV.out id
  have hr2 := (hk1.trans hk2).heap HRr.out id
  have c1 : W2.cell? ⟨w.heap.size, 1, none⟩ = some (.int .i64 0) := by rw [cell_of hv2]; rfl
  have HK2 : Hid (Kept No w W2) := HKW.out.trans (hk1.trans hk2)
  have hlt : w.heap.size + 1 < w1.heap.size := hp_lt (hk1.heap HRr.out id)
  have HF : Hid (W2.heap[w.heap.size]? = some (BV md 0 wh (.slice so sn sc) (.slice go gn gc) (.slice ao an ac) (.slice po pn pc))) := hv2
  have x0 : W2.cell? ⟨w1.heap.size, 0, none⟩ = some (Fc 34 #[]) := by rw [cell_of hb2]; rfl
  have x1 : W2.cell? ⟨w1.heap.size, 1, none⟩ = some (Fc 35 #[]) := by rw [cell_of hb2]; rfl
  have x2 : W2.cell? ⟨w1.heap.size, 2, none⟩ = some (Fc 36 #[]) := by rw [cell_of hb2]; rfl
  have y0 : W2.cell? ⟨w.heap.size + 1, 0, none⟩ = some .nilFunc := by rw [cell_of hr2]; rfl
  have y1 : W2.cell? ⟨w.heap.size + 1, 1, none⟩ = some .nilFunc := by rw [cell_of hr2]; rfl
  have y2 : W2.cell? ⟨w.heap.size + 1, 2, none⟩ = some .nilFunc := by rw [cell_of hr2]; rfl
  have z0 : W2.frozen? ⟨w1.heap.size, 0, none⟩ = false := frozen_of hb2 _
  have q0 : W2.frozen? ⟨w.heap.size + 1, 0, none⟩ = false := frozen_of hr2 _
  have q1 : W2.frozen? ⟨w.heap.size + 1, 1, none⟩ = false := frozen_of hr2 _
  have q2 : W2.frozen? ⟨w.heap.size + 1, 2, none⟩ = false := frozen_of hr2 _
  have n1 : w1.heap.size ≠ w.heap.size + 1 := by omega
  have n2 : w.heap.size + 1 ≠ w1.heap.size := by omega
  have HN : Hid (w.heap.size + 1 < w1.heap.size) := hlt
  clear hk1 hk2 hb2 hv2 hr2 HV HRr hlt HWd HKW
  go_wp2_with (first | rw [← HW2.out])
  refine bodyPost_ret (v := .agg #[Fc 37 #[PT w.heap.size], Fc 35 #[], Fc 36 #[]]) (by simp [results, Try.results27, go_sem, n1, n2, y0, y1, y2]) rfl ?_
  have hkk := keep4 W2 w1.heap.size (w.heap.size + 1) (Fc 37 #[PT w.heap.size]) (Fc 37 #[PT w.heap.size]) (Fc 35 #[]) (Fc 36 #[])
  have l1 := HN.out
  exact ⟨w.heap.size, rfl, hkk.heap HF.out (by omega), HK2.out.trans' hkk (fun i hi => .inr (by omega))⟩

set_option maxRecDepth 20000 in
set_option maxHeartbeats 4000000 in
theorem incRules_any {w : World} {md wh : Int} {so go ao po : Option Addr} {sn sc gn gc an ac pn pc : Nat} :
    Calls Try.prog 24 #[AW md 0 wh so sn sc go gn gc ao an ac po pn pc] w fun e w' => ∃ vb fb, e = .returned (.agg #[Fc 28 #[PT fb], Fc 35 #[], Fc 36 #[]]) ∧
      w'.heap[vb]? = some (BV md 0 wh (.slice so sn sc) (.slice go gn gc) (.slice ao an ac) (.slice po pn pc)) ∧ w'.heap[fb]? = some (.cells #[Fc 37 #[PT vb]] 44) ∧ Kept No w w' := by
  have HP : Hid (∀ W, Calls Try.prog 27 #[AW md 0 wh so sn sc go gn gc ao an ac po pn pc] W fun e w' => ∃ vb, e = .returned (.agg #[Fc 37 #[PT vb], Fc 35 #[], Fc 36 #[]]) ∧
      w'.heap[vb]? = some (BV md 0 wh (.slice so sn sc) (.slice go gn gc) (.slice ao an ac) (.slice po pn pc)) ∧ Kept No W w') := fun W => phaseRules_any
  obtain ⟨W, HWd⟩ : ∃ W, Hid (W = (w.alloc (BV md 0 wh (.slice so sn sc) (.slice go gn gc) (.slice ao an ac) (.slice po pn pc))).alloc (.cells #[.nilFunc, .nilFunc, .nilFunc] 47)) := ⟨_, rfl⟩
  have hkW : Kept No w W := by rw [HWd.out]; exact ((Kept.refl _ _).alloc _).alloc _
  have hv : W.heap[w.heap.size]? = some (BV md 0 wh (.slice so sn sc) (.slice go gn gc) (.slice ao an ac) (.slice po pn pc)) := by rw [HWd.out]; exact (Below.heap_alloc _ _ _ (by simp)).trans (World.alloc_heap_new w _)
  have hr : W.heap[w.heap.size + 1]? = some (.cells #[.nilFunc, .nilFunc, .nilFunc] 47 (0, 0)) := by
    rw [HWd.out]; have := World.alloc_heap_new (w.alloc (BV md 0 wh (.slice so sn sc) (.slice go gn gc) (.slice ao an ac) (.slice po pn pc))) (.cells #[.nilFunc, .nilFunc, .nilFunc] 47); rwa [World.size_alloc] at this
  have HKW : Hid (Kept No w W) := hkW
  have HRr : Hid _ := hr
  clear hkW hr
  have f0 : W.cell? ⟨w.heap.size, 0, none⟩ = some (.int .i64 md) := by rw [cell_of hv]; rfl
  have f1 : W.cell? ⟨w.heap.size, 1, none⟩ = some (.int .i64 0) := by rw [cell_of hv]; rfl
  have f2 : W.cell? ⟨w.heap.size, 2, none⟩ = some (.int .i64 wh) := by rw [cell_of hv]; rfl
  have f3 : W.cell? ⟨w.heap.size, 3, none⟩ = some (.slice so sn sc) := by rw [cell_of hv]; rfl
  have f4 : W.cell? ⟨w.heap.size, 4, none⟩ = some (.slice go gn gc) := by rw [cell_of hv]; rfl
  have f5 : W.cell? ⟨w.heap.size, 5, none⟩ = some (.slice ao an ac) := by rw [cell_of hv]; rfl
  have f6 : W.cell? ⟨w.heap.size, 6, none⟩ = some (.slice po pn pc) := by rw [cell_of hv]; rfl
  clear hv
  go_enter Try.func24, Try.ntmps24
  go_wp2_with (first | rw [← HWd.out])
  refine Calls.mono (HP.out _) ?_
  rintro e w1 ⟨vb, rfl, hvb, hk1⟩
  obtain ⟨W2, HW2⟩ : ∃ W2, Hid (W2 = (w1.alloc (.cells #[Fc 37 #[PT vb], Fc 35 #[], Fc 36 #[]] 47)).alloc (.cells #[Fc 37 #[PT vb]] 44)) := ⟨_, rfl⟩
  have hk2 : Kept No w1 W2 := by rw [HW2.out]; exact ((Kept.refl _ _).alloc _).alloc _
  have hb2 : W2.heap[w1.heap.size]? = some (.cells #[Fc 37 #[PT vb], Fc 35 #[], Fc 36 #[]] 47 (0, 0)) := by rw [HW2.out]; exact (Below.heap_alloc _ _ _ (by simp)).trans (World.alloc_heap_new w1 _)
  have hf2 : W2.heap[w1.heap.size + 1]? = some (.cells #[Fc 37 #[PT vb]] 44 (0, 0)) := by
    rw [HW2.out]; have := World.alloc_heap_new (w1.alloc (.cells #[Fc 37 #[PT vb], Fc 35 #[], Fc 36 #[]] 47)) (.cells #[Fc 37 #[PT vb]] 44); rwa [World.size_alloc] at this
  have hv2 := hk2.heap hvb id
  have hr2 := (hk1.trans hk2).heap HRr.out id
  have HK2 : Hid (Kept No w W2) := HKW.out.trans (hk1.trans hk2)
  have hlt : w.heap.size + 1 < w1.heap.size := hp_lt (hk1.heap HRr.out id)
  have hvr : vb ≠ w.heap.size + 1 := by rintro rfl; rw [hr2] at hv2; cases hv2
  have hvl := hp_lt hvb
  have HF : Hid (W2.heap[vb]? = some (BV md 0 wh (.slice so sn sc) (.slice go gn gc) (.slice ao an ac) (.slice po pn pc)) ∧ W2.heap[w1.heap.size + 1]? = some (.cells #[Fc 37 #[PT vb]] 44 (0, 0))) := ⟨hv2, hf2⟩
  have x0 : W2.cell? ⟨w1.heap.size, 0, none⟩ = some (Fc 37 #[PT vb]) := by rw [cell_of hb2]; rfl
  have x1 : W2.cell? ⟨w1.heap.size, 1, none⟩ = some (Fc 35 #[]) := by rw [cell_of hb2]; rfl
  have x2 : W2.cell? ⟨w1.heap.size, 2, none⟩ = some (Fc 36 #[]) := by rw [cell_of hb2]; rfl
  have y0 : W2.cell? ⟨w.heap.size + 1, 0, none⟩ = some .nilFunc := by rw [cell_of hr2]; rfl
  have y1 : W2.cell? ⟨w.heap.size + 1, 1, none⟩ = some .nilFunc := by rw [cell_of hr2]; rfl
  have y2 : W2.cell? ⟨w.heap.size + 1, 2, none⟩ = some .nilFunc := by rw [cell_of hr2]; rfl
  have z0 : W2.frozen? ⟨w1.heap.size, 0, none⟩ = false := frozen_of hb2 _
  have q0 : W2.frozen? ⟨w.heap.size + 1, 0, none⟩ = false := frozen_of hr2 _
  have q1 : W2.frozen? ⟨w.heap.size + 1, 1, none⟩ = false := frozen_of hr2 _
  have q2 : W2.frozen? ⟨w.heap.size + 1, 2, none⟩ = false := frozen_of hr2 _
  have n1 : w1.heap.size ≠ w.heap.size + 1 := by omega
  have n2 : w.heap.size + 1 ≠ w1.heap.size := by omega
  have HN : Hid (w.heap.size + 1 < w1.heap.size ∧ vb ≠ w.heap.size + 1 ∧ vb < w1.heap.size) := ⟨hlt, hvr, hvl⟩
  clear hk1 hk2 hb2 hv2 hr2 HRr hlt HWd HKW hf2 hvr hvl hvb f0 f1 f2 f3 f4 f5 f6 HP
  go_wp2_with (first | rw [← HW2.out])
  refine bodyPost_ret (v := .agg #[Fc 28 #[PT (w1.heap.size + 1)], Fc 35 #[], Fc 36 #[]]) (by simp [results, Try.results24, go_sem, n1, n2, y0, y1, y2]) rfl ?_
  have hkk := keep4 W2 w1.heap.size (w.heap.size + 1) (Fc 28 #[PT (w1.heap.size + 1)]) (Fc 28 #[PT (w1.heap.size + 1)]) (Fc 35 #[]) (Fc 36 #[])
  obtain ⟨l1, l2, l3⟩ := HN.out
  exact ⟨vb, w1.heap.size + 1, rfl, hkk.heap HF.out.1 (by omega), hkk.heap HF.out.2 (by omega), HK2.out.trans' hkk (fun i hi => .inr (by omega))⟩
end Go.Proofs.Ytnihfakhijjjkaa
