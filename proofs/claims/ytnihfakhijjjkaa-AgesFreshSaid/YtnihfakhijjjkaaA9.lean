/- Audit in the pause: inc. -/
import Derived.Test.YtnihfakhijjjkaaA8p
namespace Go.Proofs.Ytnihfakhijjjkaa
open Go.RowKit
set_option linter.unusedSimpArgs false
set_option linter.unusedVariables false

set_option maxRecDepth 20000 in
set_option maxHeartbeats 8000000 in
theorem Audit_inc {w : World} {wh : Int} {so go ao po : Option Addr} {sn sc gn gc an ac pn pc : Nat} {S : List Sn} (hS : RdS w (.slice so sn sc) S) (hn : S.length ≤ 60) (hl : ∀ s ∈ S, s.sl.length ≤ 600) (hws : ∀ s ∈ S, (wf s.kind ∧ wf s.h) ∧ ∀ v ∈ s.sl, wf v.1 ∧ wf v.2) :
    Calls Try.prog 17 #[AW 0 0 wh so sn sc go gn gc ao an ac po pn pc] w fun e w' => ∃ v, e = .returned v ∧ VRow w' w.heap.size v (audTo S (brI wh) (mnI) S.length) ∧ Kept No w w' := by
  obtain ⟨br, HBr⟩ : ∃ br : Sn → Bool, Hid (br = (brI wh)) := ⟨_, rfl⟩
  obtain ⟨mn, HMn⟩ : ∃ mn : Sn → Sn → Bool, Hid (mn = (mnI)) := ⟨_, rfl⟩
  rw [← HBr.out, ← HMn.out]
  have HS : Hid (RdS w (.slice so sn sc) S) := hS
  have HLe : Hid (∀ s ∈ S, s.sl.length ≤ 600) := hl
  have HWs : Hid (∀ s ∈ S, (wf s.kind ∧ wf s.h) ∧ ∀ v ∈ s.sl, wf v.1 ∧ wf v.2) := hws
  obtain ⟨ao', cap', e, _⟩ := hS
  injection e with e1 e2 e3
  subst e1 e2 e3
  have HLen : Hid (∀ j, (audTo S br mn j).length ≤ j * 601) := audTo_len S br mn HLe.out
  obtain ⟨W, HWd⟩ : ∃ W, Hid (W = w.alloc (BV 0 0 wh (.slice so S.length sc) (.slice go gn gc) (.slice ao an ac) (.slice po pn pc))) := ⟨_, rfl⟩
  have hkW : Kept No w W := by rw [HWd.out]; exact (Kept.refl _ _).alloc _
  have hv : W.heap[w.heap.size]? = some (BV 0 0 wh (.slice so S.length sc) (.slice go gn gc) (.slice ao an ac) (.slice po pn pc)) := by rw [HWd.out]; exact World.alloc_heap_new w _
  have HKW : Hid (Kept No w W) := hkW
  have HV : Hid _ := hv
  have HFc : Hid (∀ X, Kept No W X → X.cell? ⟨w.heap.size, 0, none⟩ = some (.int .i64 0) ∧ X.cell? ⟨w.heap.size, 1, none⟩ = some (.int .i64 0) ∧ X.cell? ⟨w.heap.size, 2, none⟩ = some (.int .i64 wh) ∧ X.cell? ⟨w.heap.size, 3, none⟩ = some (.slice so S.length sc) ∧ X.cell? ⟨w.heap.size, 4, none⟩ = some (.slice go gn gc) ∧ X.cell? ⟨w.heap.size, 5, none⟩ = some (.slice ao an ac) ∧ X.cell? ⟨w.heap.size, 6, none⟩ = some (.slice po pn pc)) := fun X hX => by
    have hx := hX.heap HV.out id
    exact ⟨by rw [cell_of hx]; rfl, by rw [cell_of hx]; rfl, by rw [cell_of hx]; rfl, by rw [cell_of hx]; rfl, by rw [cell_of hx]; rfl, by rw [cell_of hx]; rfl, by rw [cell_of hx]; rfl⟩
  have HRu : Hid (∀ X, Kept No W X → Calls Try.prog 20 #[AW 0 0 wh so S.length sc go gn gc ao an ac po pn pc] X fun e w' => ∃ r1 r2 r3 r4, e = .returned (.agg #[Fc 28 #[PT r2], Fc 35 #[], Fc 36 #[]]) ∧ (RuI (.slice so S.length sc) (.slice go gn gc) (.slice ao an ac) (.slice po pn pc) wh) w' r1 r2 r3 r4 ∧ Kept No X w') := fun X hX => rulesOf_inc.mono (fun e w' ⟨r1, r2, h1, h2, h3, h4⟩ => ⟨r1, r2, 0, 0, h1, ⟨h2, h3⟩, h4⟩)
  have HFo : Hid (∀ X, Kept No W X → Calls Try.prog 21 #[.slice so S.length sc] X fun e w' => ∃ Mf, e = .returned (.map (some Mf)) ∧ (∃ nf, MapN w' Mf nf (fst1 S)) ∧ Kept No X w') := fun X hX => firstOnes_any (HS.out.no (HKW.out.trans hX)) (by omega) (fun s hs => (HWs.out s hs).1)
  clear hkW hv hl hws
  go_enter Try.func17, Try.ntmps17
  go_wp2_with (first | rw [← HWd.out])
  refine wp_region_held_drew (S := fun X => Kept No W X) mixed (Kept.refl _ _).drew (fun hSS => ?_)
  generalize W.drew = X0 at hSS ⊢
  refine wpAnyH_take (i := 0) (v := AW 0 0 wh so S.length sc go gn gc ao an ac po pn pc) rfl (by kernel_rfl) (by kernel_rfl) (by kernel_rfl) (fun _ _ _ h => h) (Or.inl ⟨by rfl, by intro w' hw; obtain ⟨q0, q1, q2, q3, q4, q5, q6⟩ := HFc.out w' hw; go_simp⟩) hSS ?_
  try simp only [Act.put, List.setIfInBounds_toArray, List.set_cons_zero, List.set_cons_succ, List.getElem_toArray, List.getElem_cons_zero, List.getElem_cons_succ]
  refine wpAnyH_take (i := 2) (v := .pointer (some ⟨w.heap.size, 3, none⟩)) rfl (by kernel_rfl) (by kernel_rfl) (by kernel_rfl) (fun _ _ _ h => h) (Or.inl ⟨by rfl, by intro w' hw; go_simp⟩) hSS ?_
  try simp only [Act.put, List.setIfInBounds_toArray, List.set_cons_zero, List.set_cons_succ, List.getElem_toArray, List.getElem_cons_zero, List.getElem_cons_succ]
  refine wpAnyH_take (i := 3) (v := .slice so S.length sc) rfl (by kernel_rfl) (by kernel_rfl) (by kernel_rfl) (fun _ _ _ h => h) (Or.inl ⟨by rfl, by intro w' hw; obtain ⟨q0, q1, q2, q3, q4, q5, q6⟩ := HFc.out w' hw; go_simp⟩) hSS ?_
  try simp only [Act.put, List.setIfInBounds_toArray, List.set_cons_zero, List.set_cons_succ, List.getElem_toArray, List.getElem_cons_zero, List.getElem_cons_succ]
  refine (fun (key145 : ∀ (a0 : Nat) (X : World) (r1 r2 r3 r4 Mf nf : Nat), Hid (Kept No W X ∧ X.heap[a0]? = some (.cells #[.nilFunc, .nilFunc, .nilFunc] 47 (0, 0)) ∧ W.heap.size ≤ a0 ∧ (RuI (.slice so S.length sc) (.slice go gn gc) (.slice ao an ac) (.slice po pn pc) wh) X r1 r2 r3 r4 ∧ MapN X Mf nf (fst1 S)) → (?P145 : Nat → World → Nat → Nat → Nat → Prop) a0 X r1 r2 Mf) => ?body) ?tail
  case body =>
    refine (fun (key15 : ∀ (a0 : Nat) (X : World) (r1 r2 r3 r4 : Nat), Hid (Kept No W X ∧ X.heap[a0]? = some (.cells #[.nilFunc, .nilFunc, .nilFunc] 47 (0, 0)) ∧ W.heap.size ≤ a0 ∧ (RuI (.slice so S.length sc) (.slice go gn gc) (.slice ao an ac) (.slice po pn pc) wh) X r1 r2 r3 r4) → (?P15 : Nat → World → Nat → Nat → Prop) a0 X r1 r2) => ?body2) ?tail2
    case body2 =>
      refine wpAnyH_ready (rs := [1, 5]) (by kernel_rfl) (by simp) ?_
      refine AllReadyH.cons rfl (fun K hK => ?_) (AllReadyH.cons rfl (fun K hK => ?_) AllReadyH.nil)
      · go_simp
        refine Calls.mono (HRu.out _ hSS) ?_
        rintro e X2 ⟨r1, r2, r3, r4, rfl, hru, hk2⟩
        refine hK.out _ _ (hSS.trans hk2) (fun hSS2 => ?_)
        clear hK K
        try simp only [Act.put, List.setIfInBounds_toArray, List.set_cons_zero, List.set_cons_succ, List.getElem_toArray, List.getElem_cons_zero, List.getElem_cons_succ]
        refine wpAnyH_ready (rs := [4, 5]) (by kernel_rfl) (by simp) ?_
        refine AllReadyH.cons rfl (fun K hK => ?_) (AllReadyH.cons rfl (fun K hK => ?_) AllReadyH.nil)
        · go_simp
          refine Calls.mono (HFo.out _ hSS2) ?_
          rintro e X3 ⟨Mf, rfl, ⟨nf, hMf⟩, hk3⟩
          refine hK.out _ _ (hSS2.trans hk3) (fun hSS3 => ?_)
          clear hK K
          try simp only [Act.put, List.setIfInBounds_toArray, List.set_cons_zero, List.set_cons_succ, List.getElem_toArray, List.getElem_cons_zero, List.getElem_cons_succ]
          refine wpAnyH_ready (rs := [5]) (by kernel_rfl) (by simp) ?_
          refine AllReadyH.cons rfl (fun K hK => ?_) AllReadyH.nil
          go_simp
          refine hK.out _ _ (hSS3.alloc _) (fun hSS4 => ?_)
          clear hK K
          have HX : Hid (Kept No W (X3.alloc (.cells #[.nilFunc, .nilFunc, .nilFunc] 47)) ∧ (X3.alloc (.cells #[.nilFunc, .nilFunc, .nilFunc] 47)).heap[X3.heap.size]? = some (.cells #[.nilFunc, .nilFunc, .nilFunc] 47 (0, 0)) ∧ W.heap.size ≤ X3.heap.size ∧ (RuI (.slice so S.length sc) (.slice go gn gc) (.slice ao an ac) (.slice po pn pc) wh) (X3.alloc (.cells #[.nilFunc, .nilFunc, .nilFunc] 47)) r1 r2 r3 r4 ∧ MapN (X3.alloc (.cells #[.nilFunc, .nilFunc, .nilFunc] 47)) Mf nf (fst1 S)) := ⟨hSS4, World.alloc_heap_new _ _, hSS3.size, (hru.no hk3).no ((Kept.refl _ _).alloc _), hMf.kept ((Kept.refl No _).alloc _) id⟩
          try simp only [Act.put, List.setIfInBounds_toArray, List.set_cons_zero, List.set_cons_succ, List.getElem_toArray, List.getElem_cons_zero, List.getElem_cons_succ]
          generalize X3.heap.size = a0 at HX ⊢
          generalize X3.alloc (.cells #[.nilFunc, .nilFunc, .nilFunc] 47) = X at HX ⊢
          exact key145 a0 X r1 r2 r3 r4 Mf nf HX
        · go_simp
          refine hK.out _ _ (hSS2.alloc _) (fun hSS4 => ?_)
          clear hK K
          have HX : Hid (Kept No W (X2.alloc (.cells #[.nilFunc, .nilFunc, .nilFunc] 47)) ∧ (X2.alloc (.cells #[.nilFunc, .nilFunc, .nilFunc] 47)).heap[X2.heap.size]? = some (.cells #[.nilFunc, .nilFunc, .nilFunc] 47 (0, 0)) ∧ W.heap.size ≤ X2.heap.size ∧ (RuI (.slice so S.length sc) (.slice go gn gc) (.slice ao an ac) (.slice po pn pc) wh) (X2.alloc (.cells #[.nilFunc, .nilFunc, .nilFunc] 47)) r1 r2 r3 r4) := ⟨hSS4, World.alloc_heap_new _ _, hSS2.size, hru.no ((Kept.refl _ _).alloc _)⟩
          try simp only [Act.put, List.setIfInBounds_toArray, List.set_cons_zero, List.set_cons_succ, List.getElem_toArray, List.getElem_cons_zero, List.getElem_cons_succ]
          generalize X2.heap.size = a0 at HX ⊢
          generalize X2.alloc (.cells #[.nilFunc, .nilFunc, .nilFunc] 47) = X at HX ⊢
          exact key15 a0 X r1 r2 r3 r4 HX
      · go_simp
        refine hK.out _ _ (hSS.alloc _) (fun hSS4 => ?_)
        clear hK K
        try simp only [Act.put, List.setIfInBounds_toArray, List.set_cons_zero, List.set_cons_succ, List.getElem_toArray, List.getElem_cons_zero, List.getElem_cons_succ]
        refine wpAnyH_ready (rs := [1]) (by kernel_rfl) (by simp) ?_
        refine AllReadyH.cons rfl (fun K hK => ?_) AllReadyH.nil
        go_simp
        refine Calls.mono (HRu.out _ hSS4) ?_
        rintro e X2 ⟨r1, r2, r3, r4, rfl, hru, hk2⟩
        refine hK.out _ _ (hSS4.trans hk2) (fun hSS2 => ?_)
        clear hK K
        have HX : Hid (Kept No W X2 ∧ X2.heap[X0.heap.size]? = some (.cells #[.nilFunc, .nilFunc, .nilFunc] 47 (0, 0)) ∧ W.heap.size ≤ X0.heap.size ∧ (RuI (.slice so S.length sc) (.slice go gn gc) (.slice ao an ac) (.slice po pn pc) wh) X2 r1 r2 r3 r4) := ⟨hSS2, hk2.heap (World.alloc_heap_new _ _) id, hSS.size, hru⟩
        try simp only [Act.put, List.setIfInBounds_toArray, List.set_cons_zero, List.set_cons_succ, List.getElem_toArray, List.getElem_cons_zero, List.getElem_cons_succ]
        generalize X0.heap.size = a0 at HX ⊢
        exact key15 a0 X2 r1 r2 r3 r4 HX
    case tail2 =>
      intro a0 X r1 r2 r3 r4 HX
      refine wpAnyH_ready (rs := [4]) (by kernel_rfl) (by simp) ?_
      refine AllReadyH.cons rfl (fun K hK => ?_) AllReadyH.nil
      go_simp
      refine Calls.mono (HFo.out _ HX.out.1) ?_
      rintro e X3 ⟨Mf, rfl, ⟨nf, hMf⟩, hk3⟩
      refine hK.out _ _ (HX.out.1.trans hk3) (fun hSS3 => ?_)
      clear hK K
      try simp only [Act.put, List.setIfInBounds_toArray, List.set_cons_zero, List.set_cons_succ, List.getElem_toArray, List.getElem_cons_zero, List.getElem_cons_succ]
      exact key145 a0 X3 r1 r2 r3 r4 Mf nf ⟨hSS3, hk3.heap HX.out.2.1 id, HX.out.2.2.1, HX.out.2.2.2.no hk3, hMf⟩
  case tail =>
  intro a0 X r1 r2 r3 r4 Mf nf HX
  clear hSS X0
  have hx := HX.out.2.1
  have x0 : X.cell? ⟨a0, 0, none⟩ = some .nilFunc := by rw [cell_of hx]; rfl
  have x1 : X.cell? ⟨a0, 1, none⟩ = some .nilFunc := by rw [cell_of hx]; rfl
  have x2 : X.cell? ⟨a0, 2, none⟩ = some .nilFunc := by rw [cell_of hx]; rfl
  have y0 : X.frozen? ⟨a0, 0, none⟩ = false := frozen_of hx _
  have y1 : X.frozen? ⟨a0, 1, none⟩ = false := frozen_of hx _
  have y2 : X.frozen? ⟨a0, 2, none⟩ = false := frozen_of hx _
  obtain ⟨X1, HX1⟩ : ∃ X1, Hid (X1 = ((X.setCell ⟨a0, 0, none⟩ (Fc 28 #[PT r2])).setCell ⟨a0, 1, none⟩ (Fc 35 #[])).setCell ⟨a0, 2, none⟩ (Fc 36 #[])) := ⟨_, rfl⟩
  have hk1 : Kept (fun k => k = a0) X X1 := by rw [HX1.out]; exact keep3 X a0 _ _ _
  have HK1 : Hid (Kept No W X1) := HX.out.1.trans' hk1 (fun i e => .inr (by rw [e]; exact HX.out.2.2.1))
  have HA0 : Hid (X1.heap[a0]? = some (.cells #[Fc 28 #[PT r2], Fc 35 #[], Fc 36 #[]] 47 (0, 0))) := by
    show _ = _
    rw [HX1.out]; exact hp_set_same (hp_set_same (hp_set_same hx 0 _) 1 _) 2 _
  have HRU : Hid ((RuI (.slice so S.length sc) (.slice go gn gc) (.slice ao an ac) (.slice po pn pc) wh) X1 r1 r2 r3 r4) := HX.out.2.2.2.1.other hk1 hx
  have HMf : Hid (MapN X1 Mf nf (fst1 S)) := HX.out.2.2.2.2.kept hk1 (HX.out.2.2.2.2.cells hx)
  clear hk1 hx HX
  refine wpAnyH_ready (rs := [6]) (by kernel_rfl) (by simp) ?_
  refine AllReadyH.cons rfl (fun K hK => ?_) AllReadyH.nil
  go_simp
  rw [← HX1.out]
  refine hK.out _ _ HK1.out (fun hSS => ?_)
  clear hK K x0 x1 x2 y0 y1 y2 HX1
  try simp only [Act.put, List.setIfInBounds_toArray, List.set_cons_zero, List.set_cons_succ, List.getElem_toArray, List.getElem_cons_zero, List.getElem_cons_succ]
  refine wpAnyH_ready (rs := [7]) (by kernel_rfl) (by simp) ?_
  refine AllReadyH.cons rfl (fun K hK => ?_) AllReadyH.nil
  go_simp
  refine hK.out _ _ HK1.out (fun hSS => ?_)
  clear hK K
  try simp only [Act.put, List.setIfInBounds_toArray, List.set_cons_zero, List.set_cons_succ, List.getElem_toArray, List.getElem_cons_zero, List.getElem_cons_succ]
  refine wpAnyH_done (by kernel_rfl) ?_ _
  clear hSS
  have HSX : Hid (RdS X1 (.slice so S.length sc) S) := HS.out.no (HKW.out.trans HK1.out)
  have f3 := (HFc.out X1 HK1.out).2.2.2.1
  go_wp2_with fail
  clear f3
  have HR : Hid (∀ j (hj : j < S.length), ∃ b off sa sc', so = some ⟨b, off, none⟩ ∧ ∀ W', Kept No X1 W' → (W'.cell? ⟨b, off + j * 8, none⟩ = some (.int .i64 S[j].h) ∧ W'.cell? ⟨b, off + j * 8 + 1, none⟩ = some (.int .i64 S[j].kind) ∧
    W'.cell? ⟨b, off + j * 8 + 2, none⟩ = some (.int .i64 S[j].weak) ∧ W'.cell? ⟨b, off + j * 8 + 3, none⟩ = some (.int .i64 S[j].arr) ∧ W'.cell? ⟨b, off + j * 8 + 4, none⟩ = some (.slice sa S[j].sl.length sc') ∧ W'.cell? ⟨b, off + j * 8 + 5, none⟩ = some (.int .i64 S[j].fin) ∧
    W'.cell? ⟨b, off + j * 8 + 6, none⟩ = some (.int .i64 S[j].col) ∧ W'.cell? ⟨b, off + j * 8 + 7, none⟩ = some (.int .i64 S[j].age)) ∧ RdV W' (.slice sa S[j].sl.length sc') S[j].sl) := fun j hj => by
    obtain ⟨ao', cap', e, h⟩ := HSX.out
    injection e with e1 e2 e3
    subst e1
    obtain ⟨b, off, sv, e1, h0, h1, h2, h3, h4, h5, h6, h7, h8⟩ := h j hj
    obtain ⟨sa, sc', rfl, h9⟩ := h8
    refine ⟨b, off, sa, sc', e1, fun W' hk => ?_⟩
    have e3 : ∀ o, W'.cell? ⟨b, o, none⟩ = X1.cell? ⟨b, o, none⟩ := fun o => World.cell?_of_block (hk.block b (cell_blk h0).1 id)
    exact ⟨⟨by rw [e3]; exact h0, by rw [e3]; exact h1, by rw [e3]; exact h2, by rw [e3]; exact h3, by rw [e3]; exact h4, by rw [e3]; exact h5, by rw [e3]; exact h6, by rw [e3]; exact h7⟩, RdV.no ⟨sa, sc', rfl, h9⟩ hk⟩
  go_loopw [20, 5, 7, 8, 9, 10, 11, 21, 22, 23, 24, 25, 26, 27, 28, 29, 30, 31, 32, 33, 34, 35, 36, 37, 38, 39, 40, 41, 42, 43, 44, 45, 46, 47, 48, 49, 50, 51, 52, 53, 54, 55, 56, 57, 58, 59, 60, 61, 62, 63, 64, 65, 66, 67, 68, 69, 70, 71, 72, 73, 74, 75, 76, 77, 78, 79, 80, 81, 82, 83] (fun i v _ _ _ _ _ _ _ _ _ _ _ _ _ _ _ _ _ _ _ _ _ _ _ _ _ _ _ _ _ _ _ _ _ _ _ _ _ _ _ _ _ _ _ _ _ _ _ _ _ _ _ _ _ _ _ _ _ _ _ _ _ _ _ _ _ _ _ _ wr => ∃ (j : Nat) (vo : Option Addr) (vc : Nat), j ≤ S.length ∧ i = .int .i64 j ∧ v = .slice vo (audTo S br mn j).length vc ∧ Hid (Kept No X1 wr ∧ VRow wr X1.heap.size (.slice vo (audTo S br mn j).length vc) (audTo S br mn j))) (fun i _ _ _ _ _ _ _ _ _ _ _ _ _ _ _ _ _ _ _ _ _ _ _ _ _ _ _ _ _ _ _ _ _ _ _ _ _ _ _ _ _ _ _ _ _ _ _ _ _ _ _ _ _ _ _ _ _ _ _ _ _ _ _ _ _ _ _ _ _ _ => S.length - (intOf i).toNat)
  case atStart => exact ⟨0, none, 0, by omega, rfl, rfl, Kept.refl _ _, VRow.nil _ _⟩
  case round =>
  obtain ⟨j, vo, vc, hj, rfl, rfl, HJ⟩ := hrel
  by_cases hlt : j < S.length
  case neg =>
    have k1 : ¬ (j : Int) < (S.length : Int) := by omega
    obtain rfl : j = S.length := by omega
    go_wp2
    go_ret
    exact ⟨_, rfl, VRow.down HJ.out.2 (by have := HKW.out.size; have := HK1.out.size; omega), (HKW.out.trans HK1.out).trans HJ.out.1⟩
  case pos =>
  have k1 : (j : Int) < (S.length : Int) := by omega
  have hsn := snAt_eq hlt
  obtain ⟨b, off, sa, sc', rfl, hall⟩ := HR.out j hlt
  obtain ⟨⟨r0', r1', r2', r3', r4', r5', r6', r7'⟩, _⟩ := hall wr HJ.out.1
  have HWj := HWs.out S[j] (List.getElem_mem hlt)
  have hle := HLe.out S[j] (List.getElem_mem hlt)
  have HAu : Hid (audTo S br mn (j + 1) = audTo S br mn j ++ (if br S[j] = true then [(S[j].h, -1)] else []) ++ slotsTo S mn S[j] S[j].sl.length) := by
    show audTo S br mn j ++ (if br (snAt S j) = true then [((snAt S j).h, -1)] else []) ++ slotsTo S mn (snAt S j) (snAt S j).sl.length = _
    rw [hsn]
  have HJL : Hid ((audTo S br mn j).length ≤ 60 * 601) := Nat.le_trans (HLen.out j) (Nat.mul_le_mul_right _ (by omega))
  have HSlo : Hid (∀ W', Kept No X1 W' → ∀ k, k < S[j].sl.length → ∃ b2 off2, sa = some ⟨b2, off2, none⟩ ∧ W'.cell? ⟨b2, off2 + k * 2, none⟩ = some (.int .i64 (S[j].sl.getD k (0, 0)).1) ∧ W'.cell? ⟨b2, off2 + k * 2 + 1, none⟩ = some (.int .i64 (S[j].sl.getD k (0, 0)).2)) := fun W' hk' k hk => by
    obtain ⟨_, ao9, cap9, e9, h9⟩ := hall W' hk'
    injection e9 with e9
    subst e9
    have : S[j].sl.getD k (0, 0) = S[j].sl[k] := by simp [List.getD, hk]
    rw [this]; exact h9 k hk
  clear hsn hall
  have hwv : ∀ k (hk : k < S[j].sl.length), wf (S[j].sl.getD k (0, 0)).1 ∧ wf (S[j].sl.getD k (0, 0)).2 := fun k hk => by
    have : S[j].sl.getD k (0, 0) = S[j].sl[k] := by simp [List.getD, hk]
    rw [this]; exact HWj.2 _ (List.getElem_mem hk)
  have hwh := HWj.1.2
  have HCb : Hid _ := fun (X : World) (hX : Kept No X1 X) (sb : Option Addr) (n1 n2 : Nat) => RuI.brk (HRU.out.no hX) HBr.out S[j] sb n1 n2 hwh
  generalize S[j] = s at r0' r1' r2' r3' r4' r5' r6' r7' hle HAu HSlo hwv hwh HCb
  obtain ⟨sh, sk, sw, sr, ssl, sf, scol, sage⟩ := s
  dsimp only at r0' r1' r2' r3' r4' r5' r6' r7' hle HAu HSlo hwv hwh HCb
  obtain ⟨ln, HLn⟩ : ∃ ln, Hid (ssl.length = ln) := ⟨_, rfl⟩
  rw [HLn.out] at r4' hle HAu HSlo hwv
  have HWv : Hid _ := hwv
  have HSl : Hid _ := HSlo.out
  clear hwv HSlo HLn
  obtain ⟨W5, HW5⟩ : ∃ W5, Hid (W5 = wr.alloc (BS ⟨sh, sk, sw, sr, ssl, sf, scol, sage⟩ (.slice sa ln sc'))) := ⟨_, rfl⟩
  have hk5 : Kept No wr W5 := by rw [HW5.out]; exact (Kept.refl _ _).alloc _
  have hbx : W5.heap[wr.heap.size]? = some (BS ⟨sh, sk, sw, sr, ssl, sf, scol, sage⟩ (.slice sa ln sc')) := by rw [HW5.out]; exact World.alloc_heap_new wr _
  have s0 : W5.cell? ⟨wr.heap.size, 0, none⟩ = some (.int .i64 sh) := by rw [cell_of hbx]; rfl
  have s1 : W5.cell? ⟨wr.heap.size, 1, none⟩ = some (.int .i64 sk) := by rw [cell_of hbx]; rfl
  have s2 : W5.cell? ⟨wr.heap.size, 2, none⟩ = some (.int .i64 sw) := by rw [cell_of hbx]; rfl
  have s3 : W5.cell? ⟨wr.heap.size, 3, none⟩ = some (.int .i64 sr) := by rw [cell_of hbx]; rfl
  have s4 : W5.cell? ⟨wr.heap.size, 4, none⟩ = some (.slice sa ln sc') := by rw [cell_of hbx]; rfl
  have s5 : W5.cell? ⟨wr.heap.size, 5, none⟩ = some (.int .i64 sf) := by rw [cell_of hbx]; rfl
  have s6 : W5.cell? ⟨wr.heap.size, 6, none⟩ = some (.int .i64 scol) := by rw [cell_of hbx]; rfl
  have s7 : W5.cell? ⟨wr.heap.size, 7, none⟩ = some (.int .i64 sage) := by rw [cell_of hbx]; rfl
  have HK5 : Hid (Kept No X1 W5) := HJ.out.1.trans hk5
  have e0 : W5.cell? ⟨a0, 0, none⟩ = some (Fc 28 #[PT r2]) := by rw [cell_of (HK5.out.heap HA0.out id)]; rfl
  have HC5 : Hid _ := HCb.out W5 HK5.out sa ln sc'
  obtain ⟨bb, HBb⟩ : ∃ bb, Hid (br ⟨sh, sk, sw, sr, ssl, sf, scol, sage⟩ = bb) := ⟨_, rfl⟩
  rw [HBb.out] at HC5
  have HB5 : Hid _ := hbx
  have HR5 : Hid (VRow W5 X1.heap.size (.slice vo (audTo S br mn j).length vc) (audTo S br mn j)) := HJ.out.2.no hk5
  clear hk5 hbx HCb hwh
  go_wp2_with (first | rw [← HW5.out])
  go_at_call 28
  refine Calls.mono HC5.out ?_
  rintro e w6 ⟨rfl, hk6⟩
  have HB6 : Hid (w6.heap[wr.heap.size]? = some (BS ⟨sh, sk, sw, sr, ssl, sf, scol, sage⟩ (.slice sa ln sc'))) := hk6.heap HB5.out id
  have HK6 : Hid (Kept No X1 w6) := HK5.out.trans hk6
  have HR6 : Hid (VRow w6 X1.heap.size (.slice vo (audTo S br mn j).length vc) (audTo S br mn j)) := HR5.out.no hk6
  clear hk6 HB5 HK5 HR5 HC5 s0 s1 s2 s3 s4 s5 s6 s7 e0 r0' r1' r2' r3' r4' r5' r6' r7' HJ HW5
  generalize wr.heap.size = sb at HB6 ⊢
  cases bb
  · have HA1 : Hid (audTo S br mn (j + 1) = audTo S br mn j ++ slotsTo S mn ⟨sh, sk, sw, sr, ssl, sf, scol, sage⟩ ln) := by show _ = _; rw [HAu.out, HBb.out]; simp
    have HLB : Hid (∀ k, k ≤ ln → (audTo S br mn j ++ slotsTo S mn ⟨sh, sk, sw, sr, ssl, sf, scol, sage⟩ k).length + 1 ≤ 1000000) := fun k hk => by
      have := slotsTo_len S mn ⟨sh, sk, sw, sr, ssl, sf, scol, sage⟩ k
      have := HJL.out
      simp only [List.length_append]; omega
    have HK7 := HK6
    have HB7 := HB6
    have HR7 := HR6
    clear HBb HAu HK6 HB6 HR6
    generalize audTo S br mn j = A at HA1 HLB HR7 ⊢
    obtain ⟨w7, vo7, vc7, rfl, rfl, rfl⟩ : ∃ w7 vo7 vc7, w7 = w6 ∧ vo7 = vo ∧ vc7 = vc := ⟨_, _, _, rfl, rfl, rfl⟩
    have hbx := HB7.out
    have s0 : w7.cell? ⟨sb, 0, none⟩ = some (.int .i64 sh) := by rw [cell_of hbx]; rfl
    have s1 : w7.cell? ⟨sb, 1, none⟩ = some (.int .i64 sk) := by rw [cell_of hbx]; rfl
    have s2 : w7.cell? ⟨sb, 2, none⟩ = some (.int .i64 sw) := by rw [cell_of hbx]; rfl
    have s3 : w7.cell? ⟨sb, 3, none⟩ = some (.int .i64 sr) := by rw [cell_of hbx]; rfl
    have s4 : w7.cell? ⟨sb, 4, none⟩ = some (.slice sa ln sc') := by rw [cell_of hbx]; rfl
    have s5 : w7.cell? ⟨sb, 5, none⟩ = some (.int .i64 sf) := by rw [cell_of hbx]; rfl
    have s6 : w7.cell? ⟨sb, 6, none⟩ = some (.int .i64 scol) := by rw [cell_of hbx]; rfl
    have s7 : w7.cell? ⟨sb, 7, none⟩ = some (.int .i64 sage) := by rw [cell_of hbx]; rfl
    have e1 : w7.cell? ⟨a0, 1, none⟩ = some (Fc 35 #[]) := by rw [cell_of (HK7.out.heap HA0.out id)]; rfl
    have HL1 : Hid _ := str1_any ⟨sh, sk, sw, sr, ssl, sf, scol, sage⟩ sa ln sc' w7
    clear hbx
    go_wp2_with fail
    go_at_call 35
    refine Calls.mono HL1.out ?_
    rintro e w9 ⟨rfl, hk9⟩
    have hb9 := hk9.heap HB7.out id
    have HB9 : Hid _ := hb9
    have HK9 : Hid (Kept No X1 w9) := HK7.out.trans hk9
    have HR9 : Hid (VRow w9 X1.heap.size (.slice vo7 A.length vc7) A) := HR7.out.no hk9
    have t4 : w9.cell? ⟨sb, 4, none⟩ = some (.slice sa ln sc') := by rw [cell_of hb9]; rfl
    clear hk9 hb9 HL1 s0 s1 s2 s3 s4 s5 s6 s7 e1
    go_wp2_with fail
    go_loopw [43, 5, 8, 9, 10, 11, 44, 45, 46, 47, 48, 49, 50, 51, 52, 53, 54, 55, 56, 57, 58, 59, 60, 61, 62, 63, 64, 65, 66, 67, 68, 69, 70, 71, 72, 73, 74, 75, 76, 77, 78, 79, 80, 81, 82] (fun i v _ _ _ _ _ _ _ _ _ _ _ _ _ _ _ _ _ _ _ _ _ _ _ _ _ _ _ _ _ _ _ _ _ _ _ _ _ _ _ _ _ _ _ wr => ∃ (k : Nat) (vo : Option Addr) (vc : Nat) (Lk : List V), k ≤ ln ∧ i = .int .i64 k ∧ v = .slice vo Lk.length vc ∧ Hid (Kept No X1 wr ∧ wr.heap[sb]? = some (BS ⟨sh, sk, sw, sr, ssl, sf, scol, sage⟩ (.slice sa ln sc')) ∧ VRow wr X1.heap.size (.slice vo Lk.length vc) Lk ∧ Lk = A ++ slotsTo S mn ⟨sh, sk, sw, sr, ssl, sf, scol, sage⟩ k)) (fun i _ _ _ _ _ _ _ _ _ _ _ _ _ _ _ _ _ _ _ _ _ _ _ _ _ _ _ _ _ _ _ _ _ _ _ _ _ _ _ _ _ _ _ _ _ => ln - (intOf i).toNat)
    case atStart => exact ⟨0, vo7, vc7, A, by omega, rfl, rfl, HK9.out, HB9.out, HR9.out, by simp [slotsTo]⟩
    case round =>
      obtain ⟨k, vo, vc, Lk, hk, rfl, rfl, HJ⟩ := hrel
      have HLk : Hid (Lk = A ++ slotsTo S mn ⟨sh, sk, sw, sr, ssl, sf, scol, sage⟩ k) := HJ.out.2.2.2
      by_cases hlt : k < ln
      · have k1 : (k : Int) < (ln : Int) := by omega
        obtain ⟨vb2, voff, rfl, v0, v1⟩ := HSl.out wr HJ.out.1 k hlt
        obtain ⟨t, HTv⟩ : ∃ t, Hid (ssl.getD k (0, 0) = t) := ⟨_, rfl⟩
        obtain ⟨hwt, hwn⟩ := HWv.out k hlt
        have HNx : Hid (∀ {bb : Bool}, slotB S mn ⟨sh, sk, sw, sr, ssl, sf, scol, sage⟩ t = bb → slotsTo S mn ⟨sh, sk, sw, sr, ssl, sf, scol, sage⟩ (k + 1) = slotsTo S mn ⟨sh, sk, sw, sr, ssl, sf, scol, sage⟩ k ++ (if bb = true then [(sh, (k : Int))] else [])) := fun {bb} e => by
          show slotsTo S mn ⟨sh, sk, sw, sr, ssl, sf, scol, sage⟩ k ++ (if slotB S mn ⟨sh, sk, sw, sr, ssl, sf, scol, sage⟩ (ssl.getD k (0, 0)) = true then [(sh, (k : Int))] else []) = _
          rw [HTv.out, e]
        rw [HTv.out] at hwt hwn v0 v1
        obtain ⟨t1, t2⟩ := t
        dsimp only at hwt hwn v0 v1
        obtain ⟨W6, HW6⟩ : ∃ W6, Hid (W6 = wr.alloc (.cells #[.int .i64 t1, .int .i64 t2] 38)) := ⟨_, rfl⟩
        have hk6 : Kept No wr W6 := by rw [HW6.out]; exact (Kept.refl _ _).alloc _
        have hb6 : W6.heap[wr.heap.size]? = some (.cells #[.int .i64 t1, .int .i64 t2] 38 (0, 0)) := by rw [HW6.out]; exact World.alloc_heap_new wr _
        have u0 : W6.cell? ⟨wr.heap.size, 0, none⟩ = some (.int .i64 t1) := by rw [cell_of hb6]; rfl
        have u1 : W6.cell? ⟨wr.heap.size, 1, none⟩ = some (.int .i64 t2) := by rw [cell_of hb6]; rfl
        have HK6 : Hid (Kept No X1 W6 ∧ W6.heap[sb]? = some (BS ⟨sh, sk, sw, sr, ssl, sf, scol, sage⟩ (.slice (some ⟨vb2, voff, none⟩) ln sc')) ∧ VRow W6 X1.heap.size (.slice vo Lk.length vc) Lk) := ⟨HJ.out.1.trans hk6, hk6.heap HJ.out.2.1 id, HJ.out.2.2.1.no hk6⟩
        obtain ⟨ob, hob⟩ : ∃ ob, oT t1 = ob := ⟨_, rfl⟩
        have HO : Hid (∀ W, Calls Try.prog 22 #[.int .i64 t1] W fun e w' => e = .returned (.bool ob) ∧ W = w') := fun W => by rw [← hob]; exact objectType_any t1 W
        have HOb : Hid (oT t1 = ob) := hob
        have HLB2 : Hid (Lk.length + 1 ≤ 1000000) := by show _ ≤ _; rw [HLk.out]; exact HLB.out k (by omega)
        clear hob hk6 hb6 HTv
        cases ob
        · have hslot : slotB S mn ⟨sh, sk, sw, sr, ssl, sf, scol, sage⟩ (t1, t2) = false := by unfold slotB; simp [HOb.out]
          have HKN : Hid (Kept No X1 W6) := HK6.out.1
          have HBN : Hid (W6.heap[sb]? = _) := HK6.out.2.1
          have HRN : Hid (VRow W6 X1.heap.size (.slice vo Lk.length vc) Lk) := HK6.out.2.2
          have HS0 : Hid _ := HNx.out hslot
          have HT8 : Hid (Lk = A ++ slotsTo S mn ⟨sh, sk, sw, sr, ssl, sf, scol, sage⟩ (k + 1)) := by show _ = _; rw [HS0.out, HLk.out]; simp
          clear hslot HNx HS0 HK6
          go_wp2_with (first | rw [← HW6.out] | (go_at_call 22; refine Calls.mono (HO.out _) ?_; rintro e w' ⟨rfl, rfl⟩))
          go_roundw
          case rel => exact ⟨k + 1, vo, vc, Lk, by omega, by go_num, rfl, HKN.out, HBN.out, HRN.out, HT8.out⟩
          case measure => simp [intOf]; omega
        · go_wp2_with (first | rw [← HW6.out] | (go_at_call 22; refine Calls.mono (HO.out _) ?_; rintro e w' ⟨rfl, rfl⟩))
          go_at_call 23
          refine Calls.mono (nameOf_any t1 t2 W6) ?_
          rintro e X7 ⟨rfl, hk7⟩
          have HKN : Hid (Kept No X1 X7) := HK6.out.1.trans hk7
          have HBN : Hid (X7.heap[sb]? = some (BS ⟨sh, sk, sw, sr, ssl, sf, scol, sage⟩ (.slice (some ⟨vb2, voff, none⟩) ln sc'))) := hk7.heap HK6.out.2.1 id
          have HRN : Hid (VRow X7 X1.heap.size (.slice vo Lk.length vc) Lk) := HK6.out.2.2.no hk7
          have hlk := (HMf.out.kept HKN.out id).look hwt hwn
          clear hk7 HK6
          have hbx := HBN.out
          have s0 : X7.cell? ⟨sb, 0, none⟩ = some (.int .i64 sh) := by rw [cell_of hbx]; rfl
          have HFi : Hid (fst1 S t1 t2 = fst1 S t1 t2) := rfl
          cases hf : fst1 S t1 t2 with
          | none =>
            rw [hf] at hlk
            dsimp only [Option.isSome, Option.getD] at hlk
            have hslot : slotB S mn ⟨sh, sk, sw, sr, ssl, sf, scol, sage⟩ (t1, t2) = true := by unfold slotB; simp [HOb.out, hf]
            have HS0 : Hid (slotsTo S mn ⟨sh, sk, sw, sr, ssl, sf, scol, sage⟩ (k + 1) = slotsTo S mn ⟨sh, sk, sw, sr, ssl, sf, scol, sage⟩ k ++ [(sh, (k : Int))]) := HNx.out hslot
            clear hf hslot hbx v0 v1
            go_wp2_with fail
            go_quiet (fail)
            have HKN' : Hid (Kept No X1 (X7.drewN nq)) := HKN.out.drewN nq
            have HBN' : Hid ((X7.drewN nq).heap[sb]? = some (BS ⟨sh, sk, sw, sr, ssl, sf, scol, sage⟩ (.slice (some ⟨vb2, voff, none⟩) ln sc'))) := HBN.out
            have HRN' : Hid (VRow (X7.drewN nq) X1.heap.size (.slice vo Lk.length vc) Lk) := HRN.out.no ((Kept.refl No _).drewN nq)
            have s0' : (X7.drewN nq).cell? ⟨sb, 0, none⟩ = some (.int .i64 sh) := by rw [cell_of HBN'.out]; rfl
            clear HKN HBN HRN s0 hlk
            generalize X7.drewN nq = X8 at HKN' HBN' HRN' s0' ⊢
            have HKN := HKN'; have HBN := HBN'; have HRN := HRN'; have s0 := s0'; clear HKN' HBN' HRN' s0'
            go_wp2_with (refine app_wr rfl (.tmp 75) (.tmp 80) rfl X1.heap.size _ Lk rfl (World.ownsRow.alloc HRN.out _) X8.heap.size (sh, (k : Int)) rfl (World.alloc_heap_new X8 _) HLB2.out (by rw [World.size_alloc]; have := HKN.out.size; omega) ?_)
            intro v' w8 HR8 HG8
            obtain ⟨vo8, vc8, rfl⟩ := HR8.out.form
            have HK8 : Hid (Kept No X1 w8 ∧ w8.heap[sb]? = some (BS ⟨sh, sk, sw, sr, ssl, sf, scol, sage⟩ (.slice (some ⟨vb2, voff, none⟩) ln sc'))) := ⟨(HKN.out.alloc _).grown HG8.out (fun kk e => .inr (HRN.out.block e).1), keep_row HRN.out HG8.out HBN.out⟩
            have HT8 : Hid (Lk ++ [(sh, (k : Int))] = A ++ slotsTo S mn ⟨sh, sk, sw, sr, ssl, sf, scol, sage⟩ (k + 1)) := by show _ = _; rw [HS0.out, HLk.out]; simp
            clear HRN HBN HKN HG8 HLB2 HNx s0
            generalize Lk ++ [(sh, (k : Int))] = L8 at HR8 HT8 ⊢
            go_wp2_with fail
            go_roundw
            case rel => exact ⟨k + 1, vo8, vc8, L8, by omega, by go_num, rfl, HK8.out.1, HK8.out.2, HR8.out, HT8.out⟩
            case measure => simp [intOf]; omega
          | some ix =>
            rw [hf] at hlk
            dsimp only [Option.isSome, Option.getD] at hlk
            have hil := fst1_lt hf
            obtain ⟨b5, off5, ta, tc, e5, hall5⟩ := HR.out ix hil
            injection e5 with e5
            injection e5 with e51 e52
            subst e51 e52
            obtain ⟨mb, HMb⟩ : ∃ mb, Hid (mn ⟨sh, sk, sw, sr, ssl, sf, scol, sage⟩ S[ix] = mb) := ⟨mn ⟨sh, sk, sw, sr, ssl, sf, scol, sage⟩ S[ix], rfl⟩
            have hslot : slotB S mn ⟨sh, sk, sw, sr, ssl, sf, scol, sage⟩ (t1, t2) = mb := by unfold slotB; simp [HOb.out, hf, snAt_eq hil, HMb.out]
            have HS0 : Hid (slotsTo S mn ⟨sh, sk, sw, sr, ssl, sf, scol, sage⟩ (k + 1) = slotsTo S mn ⟨sh, sk, sw, sr, ssl, sf, scol, sage⟩ k ++ (if mb = true then [(sh, (k : Int))] else [])) := HNx.out hslot
            have HMc : Hid (∀ (W1 : World), Kept No X7 W1 → Calls Try.prog 36 #[AS ⟨sh, sk, sw, sr, ssl, sf, scol, sage⟩ (.slice (some ⟨vb2, voff, none⟩) ln sc'), AS S[ix] (.slice ta S[ix].sl.length tc)] W1 fun e w' => e = .returned (.bool mb) ∧ Kept No X7 w') := fun W1 h1 => by
              have := RuI.led HMn.out ⟨sh, sk, sw, sr, ssl, sf, scol, sage⟩ S[ix] (some ⟨vb2, voff, none⟩) ln sc' ta S[ix].sl.length tc W1
              rw [HMb.out] at this
              exact this.mono (fun e w' ⟨h2, h3⟩ => ⟨h2, h1.trans h3⟩)
            have HC : Hid (∀ W1, Kept No X7 W1 → W1.cell? ⟨a0, 2, none⟩ = some (Fc 36 #[]) ∧ (W1.cell? ⟨sb, 0, none⟩ = some (.int .i64 sh) ∧ W1.cell? ⟨sb, 1, none⟩ = some (.int .i64 sk) ∧ W1.cell? ⟨sb, 2, none⟩ = some (.int .i64 sw) ∧ W1.cell? ⟨sb, 3, none⟩ = some (.int .i64 sr) ∧ W1.cell? ⟨sb, 4, none⟩ = some (.slice (some ⟨vb2, voff, none⟩) ln sc') ∧ W1.cell? ⟨sb, 5, none⟩ = some (.int .i64 sf) ∧ W1.cell? ⟨sb, 6, none⟩ = some (.int .i64 scol) ∧ W1.cell? ⟨sb, 7, none⟩ = some (.int .i64 sage)) ∧ W1.cell? ⟨w.heap.size, 3, none⟩ = some (.slice (some ⟨b, off, none⟩) S.length sc) ∧
                (W1.cell? ⟨b, off + ix * 8, none⟩ = some (.int .i64 S[ix].h) ∧ W1.cell? ⟨b, off + ix * 8 + 1, none⟩ = some (.int .i64 S[ix].kind) ∧ W1.cell? ⟨b, off + ix * 8 + 2, none⟩ = some (.int .i64 S[ix].weak) ∧ W1.cell? ⟨b, off + ix * 8 + 3, none⟩ = some (.int .i64 S[ix].arr) ∧ W1.cell? ⟨b, off + ix * 8 + 4, none⟩ = some (.slice ta S[ix].sl.length tc) ∧ W1.cell? ⟨b, off + ix * 8 + 5, none⟩ = some (.int .i64 S[ix].fin) ∧ W1.cell? ⟨b, off + ix * 8 + 6, none⟩ = some (.int .i64 S[ix].col) ∧ W1.cell? ⟨b, off + ix * 8 + 7, none⟩ = some (.int .i64 S[ix].age))) := fun W1 h1 => by
              have hx := h1.heap HBN.out id
              exact ⟨by rw [cell_of (h1.heap (HKN.out.heap HA0.out id) id)]; rfl, ⟨by rw [cell_of hx]; rfl, by rw [cell_of hx]; rfl, by rw [cell_of hx]; rfl, by rw [cell_of hx]; rfl, by rw [cell_of hx]; rfl, by rw [cell_of hx]; rfl, by rw [cell_of hx]; rfl, by rw [cell_of hx]; rfl⟩, (HFc.out W1 (HK1.out.trans (HKN.out.trans h1))).2.2.2.1, (hall5 W1 (HKN.out.trans h1)).1⟩
            have hix : (ix : Int) < (S.length : Int) := by omega
            generalize S[ix] = tq at HMc HC
            obtain ⟨th, tk, tw, tr, tsl, tf, tcol, tage⟩ := tq
            dsimp only at HMc HC
            generalize tsl.length = tn at HMc HC
            clear hf hslot hbx v0 v1 hall5 HMb hil
            go_wp2_with fail
            refine region_quiet_class (C := fun w' => Kept No X7 w') mixed (by kernel_rfl) (Kept.refl _ _).drew ?_
            refine q_op (.bool true) (by kernel_rfl) (fun W1 hW1 => by simp [go_sem]) ?_
            try simp only [Act.put, List.setIfInBounds_toArray, List.set_cons_zero, List.set_cons_succ, List.getElem_toArray, List.getElem_cons_zero, List.getElem_cons_succ]
            refine q_op (.bool false) (by kernel_rfl) (fun W1 hW1 => by simp [go_sem]) ?_
            try simp only [Act.put, List.setIfInBounds_toArray, List.set_cons_zero, List.set_cons_succ, List.getElem_toArray, List.getElem_cons_zero, List.getElem_cons_succ]
            refine q_op (.bool false) (by kernel_rfl) (fun W1 hW1 => by simp [go_sem]) ?_
            try simp only [Act.put, List.setIfInBounds_toArray, List.set_cons_zero, List.set_cons_succ, List.getElem_toArray, List.getElem_cons_zero, List.getElem_cons_succ]
            refine q_op (.pointer (some ⟨a0, 2, none⟩)) (by kernel_rfl) (fun W1 hW1 => by simp [go_sem]) ?_
            try simp only [Act.put, List.setIfInBounds_toArray, List.set_cons_zero, List.set_cons_succ, List.getElem_toArray, List.getElem_cons_zero, List.getElem_cons_succ]
            refine q_op (Fc 36 #[]) (by kernel_rfl) (fun W1 hW1 => by obtain ⟨p0, p1, p2, p3⟩ := HC.out W1 hW1; simp [go_sem, p0]) ?_
            try simp only [Act.put, List.setIfInBounds_toArray, List.set_cons_zero, List.set_cons_succ, List.getElem_toArray, List.getElem_cons_zero, List.getElem_cons_succ]
            refine q_op (AS ⟨sh, sk, sw, sr, ssl, sf, scol, sage⟩ (.slice (some ⟨vb2, voff, none⟩) ln sc')) (by kernel_rfl) (fun W1 hW1 => by obtain ⟨p0, ⟨p10, p11, p12, p13, p14, p15, p16, p17⟩, p2, p3⟩ := HC.out W1 hW1; simp [go_sem, p10, p11, p12, p13, p14, p15, p16, p17]) ?_
            try simp only [Act.put, List.setIfInBounds_toArray, List.set_cons_zero, List.set_cons_succ, List.getElem_toArray, List.getElem_cons_zero, List.getElem_cons_succ]
            refine q_op (.pointer (some ⟨w.heap.size, 3, none⟩)) (by kernel_rfl) (fun W1 hW1 => by simp [go_sem]) ?_
            try simp only [Act.put, List.setIfInBounds_toArray, List.set_cons_zero, List.set_cons_succ, List.getElem_toArray, List.getElem_cons_zero, List.getElem_cons_succ]
            refine q_op (.slice (some ⟨b, off, none⟩) S.length sc) (by kernel_rfl) (fun W1 hW1 => by obtain ⟨p0, p1, p2, p3⟩ := HC.out W1 hW1; simp [go_sem, p2]) ?_
            try simp only [Act.put, List.setIfInBounds_toArray, List.set_cons_zero, List.set_cons_succ, List.getElem_toArray, List.getElem_cons_zero, List.getElem_cons_succ]
            refine q_op (.int .i64 (ix : Int)) (by kernel_rfl) (fun W1 hW1 => by simp [go_sem]) ?_
            try simp only [Act.put, List.setIfInBounds_toArray, List.set_cons_zero, List.set_cons_succ, List.getElem_toArray, List.getElem_cons_zero, List.getElem_cons_succ]
            refine q_op (.pointer (some ⟨b, off + ix * 8, none⟩)) (by kernel_rfl) (fun W1 hW1 => by simp [go_sem, hix]) ?_
            try simp only [Act.put, List.setIfInBounds_toArray, List.set_cons_zero, List.set_cons_succ, List.getElem_toArray, List.getElem_cons_zero, List.getElem_cons_succ]
            refine q_op (AS ⟨th, tk, tw, tr, tsl, tf, tcol, tage⟩ (.slice ta tn tc)) (by kernel_rfl) (fun W1 hW1 => by obtain ⟨p0, p1, p2, ⟨p30, p31, p32, p33, p34, p35, p36, p37⟩⟩ := HC.out W1 hW1; simp [go_sem, p30, p31, p32, p33, p34, p35, p36, p37]) ?_
            try simp only [Act.put, List.setIfInBounds_toArray, List.set_cons_zero, List.set_cons_succ, List.getElem_toArray, List.getElem_cons_zero, List.getElem_cons_succ]
            refine q_call 36 #[AS ⟨sh, sk, sw, sr, ssl, sf, scol, sage⟩ (.slice (some ⟨vb2, voff, none⟩) ln sc'), AS ⟨th, tk, tw, tr, tsl, tf, tcol, tage⟩ (.slice ta tn tc)] (.bool mb) (by kernel_rfl) (fun W1 hW1 => by simp [go_sem]) (fun W1 hW1 => HMc.out W1 hW1) ?_
            try simp only [Act.put, List.setIfInBounds_toArray, List.set_cons_zero, List.set_cons_succ, List.getElem_toArray, List.getElem_cons_zero, List.getElem_cons_succ]
            refine q_op (.bool mb) (by kernel_rfl) (fun W1 hW1 => by simp [go_sem]) ?_
            try simp only [Act.put, List.setIfInBounds_toArray, List.set_cons_zero, List.set_cons_succ, List.getElem_toArray, List.getElem_cons_zero, List.getElem_cons_succ]
            refine wpQuiet_nil ?_
            intro X8 h8
            have HKN' : Hid (Kept No X1 X8) := HKN.out.trans h8
            have HBN' : Hid (X8.heap[sb]? = some (BS ⟨sh, sk, sw, sr, ssl, sf, scol, sage⟩ (.slice (some ⟨vb2, voff, none⟩) ln sc'))) := h8.heap HBN.out id
            have HRN' : Hid (VRow X8 X1.heap.size (.slice vo Lk.length vc) Lk) := HRN.out.no h8
            have s0' : X8.cell? ⟨sb, 0, none⟩ = some (.int .i64 sh) := by rw [cell_of HBN'.out]; rfl
            clear HKN HBN HRN s0 hlk h8 HC HMc
            have HKN := HKN'; have HBN := HBN'; have HRN := HRN'; have s0 := s0'; clear HKN' HBN' HRN' s0'
            cases mb
            · rw [if_neg (by decide)] at HS0
              have HT8 : Hid (Lk = A ++ slotsTo S mn ⟨sh, sk, sw, sr, ssl, sf, scol, sage⟩ (k + 1)) := by show _ = _; rw [HS0.out, HLk.out]; simp
              clear HNx s0 HLB2
              go_wp2_with fail
              go_roundw
              case rel => exact ⟨k + 1, vo, vc, Lk, by omega, by go_num, rfl, HKN.out, HBN.out, HRN.out, HT8.out⟩
              case measure => simp [intOf]; omega
            · rw [if_pos rfl] at HS0
              go_wp2_with (refine app_wr rfl (.tmp 75) (.tmp 80) rfl X1.heap.size _ Lk rfl (World.ownsRow.alloc HRN.out _) X8.heap.size (sh, (k : Int)) rfl (World.alloc_heap_new X8 _) HLB2.out (by rw [World.size_alloc]; have := HKN.out.size; omega) ?_)
              intro v' w8 HR8 HG8
              obtain ⟨vo8, vc8, rfl⟩ := HR8.out.form
              have HK8 : Hid (Kept No X1 w8 ∧ w8.heap[sb]? = some (BS ⟨sh, sk, sw, sr, ssl, sf, scol, sage⟩ (.slice (some ⟨vb2, voff, none⟩) ln sc'))) := ⟨(HKN.out.alloc _).grown HG8.out (fun kk e => .inr (HRN.out.block e).1), keep_row HRN.out HG8.out HBN.out⟩
              have HT8 : Hid (Lk ++ [(sh, (k : Int))] = A ++ slotsTo S mn ⟨sh, sk, sw, sr, ssl, sf, scol, sage⟩ (k + 1)) := by show _ = _; rw [HS0.out, HLk.out]; simp
              clear HRN HBN HKN HG8 HLB2 HNx s0
              generalize Lk ++ [(sh, (k : Int))] = L8 at HR8 HT8 ⊢
              go_wp2_with fail
              go_roundw
              case rel => exact ⟨k + 1, vo8, vc8, L8, by omega, by go_num, rfl, HK8.out.1, HK8.out.2, HR8.out, HT8.out⟩
              case measure => simp [intOf]; omega
      · have k1 : ¬ (k : Int) < (ln : Int) := by omega
        obtain rfl : k = ln := by omega
        go_wp2_with fail
        go_roundw
        case rel => exact ⟨j + 1, vo, vc, by omega, by go_num, by rw [HA1.out, ← HLk.out], HJ.out.1, by rw [HA1.out, ← HLk.out]; exact HJ.out.2.2.1⟩
        case measure => simp [intOf]; omega
  · have HJ1 : Hid ((audTo S br mn j).length + 1 ≤ 1000000) := by have := HJL.out; show _ ≤ _; omega
    have s0 : w6.cell? ⟨sb, 0, none⟩ = some (.int .i64 sh) := by rw [cell_of HB6.out]; rfl
    go_wp2_with (refine app_wr rfl (.tmp 28) (.tmp 32) rfl X1.heap.size _ (audTo S br mn j) rfl (World.ownsRow.alloc HR6.out _) w6.heap.size (sh, -1) rfl (World.alloc_heap_new w6 _) HJ1.out (by rw [World.size_alloc]; have := HK6.out.size; omega) ?_)
    intro v' w7 HR7 HG7
    obtain ⟨vo7, vc7, rfl⟩ := HR7.out.form
    have HK7 : Hid (Kept No X1 w7) := (HK6.out.alloc _).grown HG7.out (fun kk e => .inr (HR6.out.block e).1)
    have HB7 : Hid (w7.heap[sb]? = some (BS ⟨sh, sk, sw, sr, ssl, sf, scol, sage⟩ (.slice sa ln sc'))) := keep_row HR6.out HG7.out HB6.out
    have HA1 : Hid (audTo S br mn (j + 1) = (audTo S br mn j ++ [(sh, -1)]) ++ slotsTo S mn ⟨sh, sk, sw, sr, ssl, sf, scol, sage⟩ ln) := by show _ = _; rw [HAu.out, HBb.out]; simp
    have HLB : Hid (∀ k, k ≤ ln → ((audTo S br mn j ++ [(sh, -1)]) ++ slotsTo S mn ⟨sh, sk, sw, sr, ssl, sf, scol, sage⟩ k).length + 1 ≤ 1000000) := fun k hk => by
      have := slotsTo_len S mn ⟨sh, sk, sw, sr, ssl, sf, scol, sage⟩ k
      have := HJL.out
      simp only [List.length_append, List.length_cons, List.length_nil]; omega
    clear HBb HAu HK6 HB6 HR6 HG7 HJ1 s0
    generalize audTo S br mn j ++ [(sh, -1)] = A at HA1 HLB HR7 ⊢
    have hbx := HB7.out
    have s0 : w7.cell? ⟨sb, 0, none⟩ = some (.int .i64 sh) := by rw [cell_of hbx]; rfl
    have s1 : w7.cell? ⟨sb, 1, none⟩ = some (.int .i64 sk) := by rw [cell_of hbx]; rfl
    have s2 : w7.cell? ⟨sb, 2, none⟩ = some (.int .i64 sw) := by rw [cell_of hbx]; rfl
    have s3 : w7.cell? ⟨sb, 3, none⟩ = some (.int .i64 sr) := by rw [cell_of hbx]; rfl
    have s4 : w7.cell? ⟨sb, 4, none⟩ = some (.slice sa ln sc') := by rw [cell_of hbx]; rfl
    have s5 : w7.cell? ⟨sb, 5, none⟩ = some (.int .i64 sf) := by rw [cell_of hbx]; rfl
    have s6 : w7.cell? ⟨sb, 6, none⟩ = some (.int .i64 scol) := by rw [cell_of hbx]; rfl
    have s7 : w7.cell? ⟨sb, 7, none⟩ = some (.int .i64 sage) := by rw [cell_of hbx]; rfl
    have e1 : w7.cell? ⟨a0, 1, none⟩ = some (Fc 35 #[]) := by rw [cell_of (HK7.out.heap HA0.out id)]; rfl
    have HL1 : Hid _ := str1_any ⟨sh, sk, sw, sr, ssl, sf, scol, sage⟩ sa ln sc' w7
    clear hbx
    go_wp2_with fail
    go_at_call 35
    refine Calls.mono HL1.out ?_
    rintro e w9 ⟨rfl, hk9⟩
    have hb9 := hk9.heap HB7.out id
    have HB9 : Hid _ := hb9
    have HK9 : Hid (Kept No X1 w9) := HK7.out.trans hk9
    have HR9 : Hid (VRow w9 X1.heap.size (.slice vo7 A.length vc7) A) := HR7.out.no hk9
    have t4 : w9.cell? ⟨sb, 4, none⟩ = some (.slice sa ln sc') := by rw [cell_of hb9]; rfl
    clear hk9 hb9 HL1 s0 s1 s2 s3 s4 s5 s6 s7 e1
    go_wp2_with fail
    go_loopw [43, 5, 8, 9, 10, 11, 44, 45, 46, 47, 48, 49, 50, 51, 52, 53, 54, 55, 56, 57, 58, 59, 60, 61, 62, 63, 64, 65, 66, 67, 68, 69, 70, 71, 72, 73, 74, 75, 76, 77, 78, 79, 80, 81, 82] (fun i v _ _ _ _ _ _ _ _ _ _ _ _ _ _ _ _ _ _ _ _ _ _ _ _ _ _ _ _ _ _ _ _ _ _ _ _ _ _ _ _ _ _ _ wr => ∃ (k : Nat) (vo : Option Addr) (vc : Nat) (Lk : List V), k ≤ ln ∧ i = .int .i64 k ∧ v = .slice vo Lk.length vc ∧ Hid (Kept No X1 wr ∧ wr.heap[sb]? = some (BS ⟨sh, sk, sw, sr, ssl, sf, scol, sage⟩ (.slice sa ln sc')) ∧ VRow wr X1.heap.size (.slice vo Lk.length vc) Lk ∧ Lk = A ++ slotsTo S mn ⟨sh, sk, sw, sr, ssl, sf, scol, sage⟩ k)) (fun i _ _ _ _ _ _ _ _ _ _ _ _ _ _ _ _ _ _ _ _ _ _ _ _ _ _ _ _ _ _ _ _ _ _ _ _ _ _ _ _ _ _ _ _ _ => ln - (intOf i).toNat)
    case atStart => exact ⟨0, vo7, vc7, A, by omega, rfl, rfl, HK9.out, HB9.out, HR9.out, by simp [slotsTo]⟩
    case round =>
      obtain ⟨k, vo, vc, Lk, hk, rfl, rfl, HJ⟩ := hrel
      have HLk : Hid (Lk = A ++ slotsTo S mn ⟨sh, sk, sw, sr, ssl, sf, scol, sage⟩ k) := HJ.out.2.2.2
      by_cases hlt : k < ln
      · have k1 : (k : Int) < (ln : Int) := by omega
        obtain ⟨vb2, voff, rfl, v0, v1⟩ := HSl.out wr HJ.out.1 k hlt
        obtain ⟨t, HTv⟩ : ∃ t, Hid (ssl.getD k (0, 0) = t) := ⟨_, rfl⟩
        obtain ⟨hwt, hwn⟩ := HWv.out k hlt
        have HNx : Hid (∀ {bb : Bool}, slotB S mn ⟨sh, sk, sw, sr, ssl, sf, scol, sage⟩ t = bb → slotsTo S mn ⟨sh, sk, sw, sr, ssl, sf, scol, sage⟩ (k + 1) = slotsTo S mn ⟨sh, sk, sw, sr, ssl, sf, scol, sage⟩ k ++ (if bb = true then [(sh, (k : Int))] else [])) := fun {bb} e => by
          show slotsTo S mn ⟨sh, sk, sw, sr, ssl, sf, scol, sage⟩ k ++ (if slotB S mn ⟨sh, sk, sw, sr, ssl, sf, scol, sage⟩ (ssl.getD k (0, 0)) = true then [(sh, (k : Int))] else []) = _
          rw [HTv.out, e]
        rw [HTv.out] at hwt hwn v0 v1
        obtain ⟨t1, t2⟩ := t
        dsimp only at hwt hwn v0 v1
        obtain ⟨W6, HW6⟩ : ∃ W6, Hid (W6 = wr.alloc (.cells #[.int .i64 t1, .int .i64 t2] 38)) := ⟨_, rfl⟩
        have hk6 : Kept No wr W6 := by rw [HW6.out]; exact (Kept.refl _ _).alloc _
        have hb6 : W6.heap[wr.heap.size]? = some (.cells #[.int .i64 t1, .int .i64 t2] 38 (0, 0)) := by rw [HW6.out]; exact World.alloc_heap_new wr _
        have u0 : W6.cell? ⟨wr.heap.size, 0, none⟩ = some (.int .i64 t1) := by rw [cell_of hb6]; rfl
        have u1 : W6.cell? ⟨wr.heap.size, 1, none⟩ = some (.int .i64 t2) := by rw [cell_of hb6]; rfl
        have HK6 : Hid (Kept No X1 W6 ∧ W6.heap[sb]? = some (BS ⟨sh, sk, sw, sr, ssl, sf, scol, sage⟩ (.slice (some ⟨vb2, voff, none⟩) ln sc')) ∧ VRow W6 X1.heap.size (.slice vo Lk.length vc) Lk) := ⟨HJ.out.1.trans hk6, hk6.heap HJ.out.2.1 id, HJ.out.2.2.1.no hk6⟩
        obtain ⟨ob, hob⟩ : ∃ ob, oT t1 = ob := ⟨_, rfl⟩
        have HO : Hid (∀ W, Calls Try.prog 22 #[.int .i64 t1] W fun e w' => e = .returned (.bool ob) ∧ W = w') := fun W => by rw [← hob]; exact objectType_any t1 W
        have HOb : Hid (oT t1 = ob) := hob
        have HLB2 : Hid (Lk.length + 1 ≤ 1000000) := by show _ ≤ _; rw [HLk.out]; exact HLB.out k (by omega)
        clear hob hk6 hb6 HTv
        cases ob
        · have hslot : slotB S mn ⟨sh, sk, sw, sr, ssl, sf, scol, sage⟩ (t1, t2) = false := by unfold slotB; simp [HOb.out]
          have HKN : Hid (Kept No X1 W6) := HK6.out.1
          have HBN : Hid (W6.heap[sb]? = _) := HK6.out.2.1
          have HRN : Hid (VRow W6 X1.heap.size (.slice vo Lk.length vc) Lk) := HK6.out.2.2
          have HS0 : Hid _ := HNx.out hslot
          have HT8 : Hid (Lk = A ++ slotsTo S mn ⟨sh, sk, sw, sr, ssl, sf, scol, sage⟩ (k + 1)) := by show _ = _; rw [HS0.out, HLk.out]; simp
          clear hslot HNx HS0 HK6
          go_wp2_with (first | rw [← HW6.out] | (go_at_call 22; refine Calls.mono (HO.out _) ?_; rintro e w' ⟨rfl, rfl⟩))
          go_roundw
          case rel => exact ⟨k + 1, vo, vc, Lk, by omega, by go_num, rfl, HKN.out, HBN.out, HRN.out, HT8.out⟩
          case measure => simp [intOf]; omega
        · go_wp2_with (first | rw [← HW6.out] | (go_at_call 22; refine Calls.mono (HO.out _) ?_; rintro e w' ⟨rfl, rfl⟩))
          go_at_call 23
          refine Calls.mono (nameOf_any t1 t2 W6) ?_
          rintro e X7 ⟨rfl, hk7⟩
          have HKN : Hid (Kept No X1 X7) := HK6.out.1.trans hk7
          have HBN : Hid (X7.heap[sb]? = some (BS ⟨sh, sk, sw, sr, ssl, sf, scol, sage⟩ (.slice (some ⟨vb2, voff, none⟩) ln sc'))) := hk7.heap HK6.out.2.1 id
          have HRN : Hid (VRow X7 X1.heap.size (.slice vo Lk.length vc) Lk) := HK6.out.2.2.no hk7
          have hlk := (HMf.out.kept HKN.out id).look hwt hwn
          clear hk7 HK6
          have hbx := HBN.out
          have s0 : X7.cell? ⟨sb, 0, none⟩ = some (.int .i64 sh) := by rw [cell_of hbx]; rfl
          have HFi : Hid (fst1 S t1 t2 = fst1 S t1 t2) := rfl
          cases hf : fst1 S t1 t2 with
          | none =>
            rw [hf] at hlk
            dsimp only [Option.isSome, Option.getD] at hlk
            have hslot : slotB S mn ⟨sh, sk, sw, sr, ssl, sf, scol, sage⟩ (t1, t2) = true := by unfold slotB; simp [HOb.out, hf]
            have HS0 : Hid (slotsTo S mn ⟨sh, sk, sw, sr, ssl, sf, scol, sage⟩ (k + 1) = slotsTo S mn ⟨sh, sk, sw, sr, ssl, sf, scol, sage⟩ k ++ [(sh, (k : Int))]) := HNx.out hslot
            clear hf hslot hbx v0 v1
            go_wp2_with fail
            go_quiet (fail)
            have HKN' : Hid (Kept No X1 (X7.drewN nq)) := HKN.out.drewN nq
            have HBN' : Hid ((X7.drewN nq).heap[sb]? = some (BS ⟨sh, sk, sw, sr, ssl, sf, scol, sage⟩ (.slice (some ⟨vb2, voff, none⟩) ln sc'))) := HBN.out
            have HRN' : Hid (VRow (X7.drewN nq) X1.heap.size (.slice vo Lk.length vc) Lk) := HRN.out.no ((Kept.refl No _).drewN nq)
            have s0' : (X7.drewN nq).cell? ⟨sb, 0, none⟩ = some (.int .i64 sh) := by rw [cell_of HBN'.out]; rfl
            clear HKN HBN HRN s0 hlk
            generalize X7.drewN nq = X8 at HKN' HBN' HRN' s0' ⊢
            have HKN := HKN'; have HBN := HBN'; have HRN := HRN'; have s0 := s0'; clear HKN' HBN' HRN' s0'
            go_wp2_with (refine app_wr rfl (.tmp 75) (.tmp 80) rfl X1.heap.size _ Lk rfl (World.ownsRow.alloc HRN.out _) X8.heap.size (sh, (k : Int)) rfl (World.alloc_heap_new X8 _) HLB2.out (by rw [World.size_alloc]; have := HKN.out.size; omega) ?_)
            intro v' w8 HR8 HG8
            obtain ⟨vo8, vc8, rfl⟩ := HR8.out.form
            have HK8 : Hid (Kept No X1 w8 ∧ w8.heap[sb]? = some (BS ⟨sh, sk, sw, sr, ssl, sf, scol, sage⟩ (.slice (some ⟨vb2, voff, none⟩) ln sc'))) := ⟨(HKN.out.alloc _).grown HG8.out (fun kk e => .inr (HRN.out.block e).1), keep_row HRN.out HG8.out HBN.out⟩
            have HT8 : Hid (Lk ++ [(sh, (k : Int))] = A ++ slotsTo S mn ⟨sh, sk, sw, sr, ssl, sf, scol, sage⟩ (k + 1)) := by show _ = _; rw [HS0.out, HLk.out]; simp
            clear HRN HBN HKN HG8 HLB2 HNx s0
            generalize Lk ++ [(sh, (k : Int))] = L8 at HR8 HT8 ⊢
            go_wp2_with fail
            go_roundw
            case rel => exact ⟨k + 1, vo8, vc8, L8, by omega, by go_num, rfl, HK8.out.1, HK8.out.2, HR8.out, HT8.out⟩
            case measure => simp [intOf]; omega
          | some ix =>
            rw [hf] at hlk
            dsimp only [Option.isSome, Option.getD] at hlk
            have hil := fst1_lt hf
            obtain ⟨b5, off5, ta, tc, e5, hall5⟩ := HR.out ix hil
            injection e5 with e5
            injection e5 with e51 e52
            subst e51 e52
            obtain ⟨mb, HMb⟩ : ∃ mb, Hid (mn ⟨sh, sk, sw, sr, ssl, sf, scol, sage⟩ S[ix] = mb) := ⟨mn ⟨sh, sk, sw, sr, ssl, sf, scol, sage⟩ S[ix], rfl⟩
            have hslot : slotB S mn ⟨sh, sk, sw, sr, ssl, sf, scol, sage⟩ (t1, t2) = mb := by unfold slotB; simp [HOb.out, hf, snAt_eq hil, HMb.out]
            have HS0 : Hid (slotsTo S mn ⟨sh, sk, sw, sr, ssl, sf, scol, sage⟩ (k + 1) = slotsTo S mn ⟨sh, sk, sw, sr, ssl, sf, scol, sage⟩ k ++ (if mb = true then [(sh, (k : Int))] else [])) := HNx.out hslot
            have HMc : Hid (∀ (W1 : World), Kept No X7 W1 → Calls Try.prog 36 #[AS ⟨sh, sk, sw, sr, ssl, sf, scol, sage⟩ (.slice (some ⟨vb2, voff, none⟩) ln sc'), AS S[ix] (.slice ta S[ix].sl.length tc)] W1 fun e w' => e = .returned (.bool mb) ∧ Kept No X7 w') := fun W1 h1 => by
              have := RuI.led HMn.out ⟨sh, sk, sw, sr, ssl, sf, scol, sage⟩ S[ix] (some ⟨vb2, voff, none⟩) ln sc' ta S[ix].sl.length tc W1
              rw [HMb.out] at this
              exact this.mono (fun e w' ⟨h2, h3⟩ => ⟨h2, h1.trans h3⟩)
            have HC : Hid (∀ W1, Kept No X7 W1 → W1.cell? ⟨a0, 2, none⟩ = some (Fc 36 #[]) ∧ (W1.cell? ⟨sb, 0, none⟩ = some (.int .i64 sh) ∧ W1.cell? ⟨sb, 1, none⟩ = some (.int .i64 sk) ∧ W1.cell? ⟨sb, 2, none⟩ = some (.int .i64 sw) ∧ W1.cell? ⟨sb, 3, none⟩ = some (.int .i64 sr) ∧ W1.cell? ⟨sb, 4, none⟩ = some (.slice (some ⟨vb2, voff, none⟩) ln sc') ∧ W1.cell? ⟨sb, 5, none⟩ = some (.int .i64 sf) ∧ W1.cell? ⟨sb, 6, none⟩ = some (.int .i64 scol) ∧ W1.cell? ⟨sb, 7, none⟩ = some (.int .i64 sage)) ∧ W1.cell? ⟨w.heap.size, 3, none⟩ = some (.slice (some ⟨b, off, none⟩) S.length sc) ∧
                (W1.cell? ⟨b, off + ix * 8, none⟩ = some (.int .i64 S[ix].h) ∧ W1.cell? ⟨b, off + ix * 8 + 1, none⟩ = some (.int .i64 S[ix].kind) ∧ W1.cell? ⟨b, off + ix * 8 + 2, none⟩ = some (.int .i64 S[ix].weak) ∧ W1.cell? ⟨b, off + ix * 8 + 3, none⟩ = some (.int .i64 S[ix].arr) ∧ W1.cell? ⟨b, off + ix * 8 + 4, none⟩ = some (.slice ta S[ix].sl.length tc) ∧ W1.cell? ⟨b, off + ix * 8 + 5, none⟩ = some (.int .i64 S[ix].fin) ∧ W1.cell? ⟨b, off + ix * 8 + 6, none⟩ = some (.int .i64 S[ix].col) ∧ W1.cell? ⟨b, off + ix * 8 + 7, none⟩ = some (.int .i64 S[ix].age))) := fun W1 h1 => by
              have hx := h1.heap HBN.out id
              exact ⟨by rw [cell_of (h1.heap (HKN.out.heap HA0.out id) id)]; rfl, ⟨by rw [cell_of hx]; rfl, by rw [cell_of hx]; rfl, by rw [cell_of hx]; rfl, by rw [cell_of hx]; rfl, by rw [cell_of hx]; rfl, by rw [cell_of hx]; rfl, by rw [cell_of hx]; rfl, by rw [cell_of hx]; rfl⟩, (HFc.out W1 (HK1.out.trans (HKN.out.trans h1))).2.2.2.1, (hall5 W1 (HKN.out.trans h1)).1⟩
            have hix : (ix : Int) < (S.length : Int) := by omega
            generalize S[ix] = tq at HMc HC
            obtain ⟨th, tk, tw, tr, tsl, tf, tcol, tage⟩ := tq
            dsimp only at HMc HC
            generalize tsl.length = tn at HMc HC
            clear hf hslot hbx v0 v1 hall5 HMb hil
            go_wp2_with fail
            refine region_quiet_class (C := fun w' => Kept No X7 w') mixed (by kernel_rfl) (Kept.refl _ _).drew ?_
            refine q_op (.bool true) (by kernel_rfl) (fun W1 hW1 => by simp [go_sem]) ?_
            try simp only [Act.put, List.setIfInBounds_toArray, List.set_cons_zero, List.set_cons_succ, List.getElem_toArray, List.getElem_cons_zero, List.getElem_cons_succ]
            refine q_op (.bool false) (by kernel_rfl) (fun W1 hW1 => by simp [go_sem]) ?_
            try simp only [Act.put, List.setIfInBounds_toArray, List.set_cons_zero, List.set_cons_succ, List.getElem_toArray, List.getElem_cons_zero, List.getElem_cons_succ]
            refine q_op (.bool false) (by kernel_rfl) (fun W1 hW1 => by simp [go_sem]) ?_
            try simp only [Act.put, List.setIfInBounds_toArray, List.set_cons_zero, List.set_cons_succ, List.getElem_toArray, List.getElem_cons_zero, List.getElem_cons_succ]
            refine q_op (.pointer (some ⟨a0, 2, none⟩)) (by kernel_rfl) (fun W1 hW1 => by simp [go_sem]) ?_
            try simp only [Act.put, List.setIfInBounds_toArray, List.set_cons_zero, List.set_cons_succ, List.getElem_toArray, List.getElem_cons_zero, List.getElem_cons_succ]
            refine q_op (Fc 36 #[]) (by kernel_rfl) (fun W1 hW1 => by obtain ⟨p0, p1, p2, p3⟩ := HC.out W1 hW1; simp [go_sem, p0]) ?_
            try simp only [Act.put, List.setIfInBounds_toArray, List.set_cons_zero, List.set_cons_succ, List.getElem_toArray, List.getElem_cons_zero, List.getElem_cons_succ]
            refine q_op (AS ⟨sh, sk, sw, sr, ssl, sf, scol, sage⟩ (.slice (some ⟨vb2, voff, none⟩) ln sc')) (by kernel_rfl) (fun W1 hW1 => by obtain ⟨p0, ⟨p10, p11, p12, p13, p14, p15, p16, p17⟩, p2, p3⟩ := HC.out W1 hW1; simp [go_sem, p10, p11, p12, p13, p14, p15, p16, p17]) ?_
            try simp only [Act.put, List.setIfInBounds_toArray, List.set_cons_zero, List.set_cons_succ, List.getElem_toArray, List.getElem_cons_zero, List.getElem_cons_succ]
            refine q_op (.pointer (some ⟨w.heap.size, 3, none⟩)) (by kernel_rfl) (fun W1 hW1 => by simp [go_sem]) ?_
            try simp only [Act.put, List.setIfInBounds_toArray, List.set_cons_zero, List.set_cons_succ, List.getElem_toArray, List.getElem_cons_zero, List.getElem_cons_succ]
            refine q_op (.slice (some ⟨b, off, none⟩) S.length sc) (by kernel_rfl) (fun W1 hW1 => by obtain ⟨p0, p1, p2, p3⟩ := HC.out W1 hW1; simp [go_sem, p2]) ?_
            try simp only [Act.put, List.setIfInBounds_toArray, List.set_cons_zero, List.set_cons_succ, List.getElem_toArray, List.getElem_cons_zero, List.getElem_cons_succ]
            refine q_op (.int .i64 (ix : Int)) (by kernel_rfl) (fun W1 hW1 => by simp [go_sem]) ?_
            try simp only [Act.put, List.setIfInBounds_toArray, List.set_cons_zero, List.set_cons_succ, List.getElem_toArray, List.getElem_cons_zero, List.getElem_cons_succ]
            refine q_op (.pointer (some ⟨b, off + ix * 8, none⟩)) (by kernel_rfl) (fun W1 hW1 => by simp [go_sem, hix]) ?_
            try simp only [Act.put, List.setIfInBounds_toArray, List.set_cons_zero, List.set_cons_succ, List.getElem_toArray, List.getElem_cons_zero, List.getElem_cons_succ]
            refine q_op (AS ⟨th, tk, tw, tr, tsl, tf, tcol, tage⟩ (.slice ta tn tc)) (by kernel_rfl) (fun W1 hW1 => by obtain ⟨p0, p1, p2, ⟨p30, p31, p32, p33, p34, p35, p36, p37⟩⟩ := HC.out W1 hW1; simp [go_sem, p30, p31, p32, p33, p34, p35, p36, p37]) ?_
            try simp only [Act.put, List.setIfInBounds_toArray, List.set_cons_zero, List.set_cons_succ, List.getElem_toArray, List.getElem_cons_zero, List.getElem_cons_succ]
            refine q_call 36 #[AS ⟨sh, sk, sw, sr, ssl, sf, scol, sage⟩ (.slice (some ⟨vb2, voff, none⟩) ln sc'), AS ⟨th, tk, tw, tr, tsl, tf, tcol, tage⟩ (.slice ta tn tc)] (.bool mb) (by kernel_rfl) (fun W1 hW1 => by simp [go_sem]) (fun W1 hW1 => HMc.out W1 hW1) ?_
            try simp only [Act.put, List.setIfInBounds_toArray, List.set_cons_zero, List.set_cons_succ, List.getElem_toArray, List.getElem_cons_zero, List.getElem_cons_succ]
            refine q_op (.bool mb) (by kernel_rfl) (fun W1 hW1 => by simp [go_sem]) ?_
            try simp only [Act.put, List.setIfInBounds_toArray, List.set_cons_zero, List.set_cons_succ, List.getElem_toArray, List.getElem_cons_zero, List.getElem_cons_succ]
            refine wpQuiet_nil ?_
            intro X8 h8
            have HKN' : Hid (Kept No X1 X8) := HKN.out.trans h8
            have HBN' : Hid (X8.heap[sb]? = some (BS ⟨sh, sk, sw, sr, ssl, sf, scol, sage⟩ (.slice (some ⟨vb2, voff, none⟩) ln sc'))) := h8.heap HBN.out id
            have HRN' : Hid (VRow X8 X1.heap.size (.slice vo Lk.length vc) Lk) := HRN.out.no h8
            have s0' : X8.cell? ⟨sb, 0, none⟩ = some (.int .i64 sh) := by rw [cell_of HBN'.out]; rfl
            clear HKN HBN HRN s0 hlk h8 HC HMc
            have HKN := HKN'; have HBN := HBN'; have HRN := HRN'; have s0 := s0'; clear HKN' HBN' HRN' s0'
            cases mb
            · rw [if_neg (by decide)] at HS0
              have HT8 : Hid (Lk = A ++ slotsTo S mn ⟨sh, sk, sw, sr, ssl, sf, scol, sage⟩ (k + 1)) := by show _ = _; rw [HS0.out, HLk.out]; simp
              clear HNx s0 HLB2
              go_wp2_with fail
              go_roundw
              case rel => exact ⟨k + 1, vo, vc, Lk, by omega, by go_num, rfl, HKN.out, HBN.out, HRN.out, HT8.out⟩
              case measure => simp [intOf]; omega
            · rw [if_pos rfl] at HS0
              go_wp2_with (refine app_wr rfl (.tmp 75) (.tmp 80) rfl X1.heap.size _ Lk rfl (World.ownsRow.alloc HRN.out _) X8.heap.size (sh, (k : Int)) rfl (World.alloc_heap_new X8 _) HLB2.out (by rw [World.size_alloc]; have := HKN.out.size; omega) ?_)
              intro v' w8 HR8 HG8
              obtain ⟨vo8, vc8, rfl⟩ := HR8.out.form
              have HK8 : Hid (Kept No X1 w8 ∧ w8.heap[sb]? = some (BS ⟨sh, sk, sw, sr, ssl, sf, scol, sage⟩ (.slice (some ⟨vb2, voff, none⟩) ln sc'))) := ⟨(HKN.out.alloc _).grown HG8.out (fun kk e => .inr (HRN.out.block e).1), keep_row HRN.out HG8.out HBN.out⟩
              have HT8 : Hid (Lk ++ [(sh, (k : Int))] = A ++ slotsTo S mn ⟨sh, sk, sw, sr, ssl, sf, scol, sage⟩ (k + 1)) := by show _ = _; rw [HS0.out, HLk.out]; simp
              clear HRN HBN HKN HG8 HLB2 HNx s0
              generalize Lk ++ [(sh, (k : Int))] = L8 at HR8 HT8 ⊢
              go_wp2_with fail
              go_roundw
              case rel => exact ⟨k + 1, vo8, vc8, L8, by omega, by go_num, rfl, HK8.out.1, HK8.out.2, HR8.out, HT8.out⟩
              case measure => simp [intOf]; omega
      · have k1 : ¬ (k : Int) < (ln : Int) := by omega
        obtain rfl : k = ln := by omega
        go_wp2_with fail
        go_roundw
        case rel => exact ⟨j + 1, vo, vc, by omega, by go_num, by rw [HA1.out, ← HLk.out], HJ.out.1, by rw [HA1.out, ← HLk.out]; exact HJ.out.2.2.1⟩
        case measure => simp [intOf]; omega
end Go.Proofs.Ytnihfakhijjjkaa
