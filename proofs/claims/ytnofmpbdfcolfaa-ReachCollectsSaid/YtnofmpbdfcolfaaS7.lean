/- ReachStrong. -/
import Derived.Test.YtnofmpbdfcolfaaS6
namespace Go.Proofs.Ytnofmpbdfcolfaa
open Go.RowKit Go.Shelf
set_option linter.unusedSimpArgs false
set_option linter.unusedVariables false

set_option maxRecDepth 20000 in
set_option maxHeartbeats 8000000 in
theorem ReachStrong_any {w : World} {tv rv mv : Value} {T : List Th} {R : List V} {M : List Int} (hT : RdT w tv T) (hR : RdV w rv R) (hn : T.length ≤ 140737488355328) (hRn : R.length ≤ 140737488355328) (hs : ∀ t ∈ T, t.sl.length ≤ 140737488355328) (hw : ∀ t ∈ T, wf t.fin) (hM : RdI w mv M) (hMn : M.length ≤ 140737488355328) :
    Calls Try.prog 3 #[.agg #[tv, rv], mv] w fun e w' => e = .returned (.bool true) ∧ Kept No w w' := by
  have HT : Hid (RdT w tv T) := hT
  have HR : Hid (RdV w rv R) := hR
  have HM : Hid (RdI w mv M) := hM
  have HWf : Hid (∀ t ∈ T, wf t.fin) := hw
  have HAl : Hid (∀ W, Calls Try.prog 11 #[] W fun e w' => e = .returned (.bool true) ∧ Kept No W w') := fun W => alive_any W
  have HBd : Hid (smallB T R = true → T.length ≤ 60 ∧ R.length ≤ 600 ∧ ∀ t ∈ T, t.sl.length ≤ 600) := small_bd
  have HSm : Hid (∀ X, Kept No w X → Calls Try.prog 10 #[.agg #[tv, rv]] X fun e w' => e = .returned (.bool (smallB T R)) ∧ Kept No X w') := fun X hX => Small_any (hT.no hX) (hR.no hX) hn hRn hs
  obtain ⟨ao, cap, htv, _⟩ := hT
  obtain ⟨ro, rc, hrv, _⟩ := hR
  obtain ⟨ma, mc, hmv, _⟩ := hM
  subst htv hrv hmv
  obtain ⟨W, HWd⟩ : ∃ W, Hid (W = w.alloc (.cells #[.slice ao T.length cap, .slice ro R.length rc] 25)) := ⟨_, rfl⟩
  have HK : Hid (Kept No w W) := by show Kept _ _ _; rw [HWd.out]; exact (Kept.refl _ _).alloc _
  have hg : W.heap[w.heap.size]? = some (.cells #[.slice ao T.length cap, .slice ro R.length rc] 25 (0, 0)) := by rw [HWd.out]; exact World.alloc_heap_new w _
  have HGx : Hid _ := hg
  have g0 : W.cell? ⟨w.heap.size, 0, none⟩ = some (.slice ao T.length cap) := by rw [cell_of hg]; rfl
  have g1 : W.cell? ⟨w.heap.size, 1, none⟩ = some (.slice ro R.length rc) := by rw [cell_of hg]; rfl
  have HC : Hid _ := HSm.out W HK.out
  obtain ⟨sm, HSe⟩ : ∃ sm, Hid (smallB T R = sm) := ⟨_, rfl⟩
  rw [HSe.out] at HC HBd
  clear hg HSm HSe hs hw hn hRn
  go_enter Try.func3, Try.ntmps3
  go_wp2_with (first | rw [← HWd.out])
  refine Calls.mono HC.out ?_
  rintro e w1 ⟨rfl, hk1⟩
  have HK1 : Hid (Kept No w w1) := HK.out.trans hk1
  have HG1 : Hid (w1.heap[w.heap.size]? = some (.cells #[.slice ao T.length cap, .slice ro R.length rc] 25 (0, 0))) := hk1.heap HGx.out id
  clear hk1 HC g0 g1 HWd
  cases sm
  · go_wp2_with fail
    go_at_call 11
    refine Calls.mono (HAl.out _) ?_
    rintro e w3 ⟨rfl, hk3⟩
    have HK3 : Hid (Kept No w w3) := HK1.out.trans hk3
    clear hk3
    go_wp2
    go_ret
    exact ⟨rfl, HK3.out⟩
  · obtain ⟨hn60, hR600, hs600⟩ := HBd.out rfl
    have HSl : Hid (∀ t ∈ T, t.sl.length ≤ 600) := hs600
    clear hs600 HBd
    by_cases hm : 60 < (M.length : Int)
    · go_wp2_with fail
      go_at_call 11
      refine Calls.mono (HAl.out _) ?_
      rintro e w3 ⟨rfl, hk3⟩
      have HK3 : Hid (Kept No w w3) := HK1.out.trans hk3
      clear hk3
      go_wp2
      go_ret
      exact ⟨rfl, HK3.out⟩
    · clear HGx
      have HW1 : Hid (Kept No w w1) := HK1.out
      go_wp2_with fail
      refine wp_region_held_drew (S := fun X => Kept No w1 X) mixed (Kept.refl _ _).drew (fun hSS => ?_)
      have HFc : Hid (∀ X, Kept No w1 X → X.cell? ⟨w.heap.size, 0, none⟩ = some (.slice ao T.length cap) ∧ X.cell? ⟨w.heap.size, 1, none⟩ = some (.slice ro R.length rc)) := fun X hX => by
        have hx := hX.heap HG1.out id
        exact ⟨by rw [cell_of hx]; rfl, by rw [cell_of hx]; rfl⟩
      have HS1 : Hid (∀ X, Kept No w1 X → Calls Try.prog 13 #[AG ao T.length cap ro R.length rc, .slice ma M.length mc] X fun e w' => ∃ nb, e = .returned (SLN nb T.length) ∧ w'.heap[nb]? = some (.cells (bc (strong T R M)).toArray 4 (0, 0)) ∧ Kept No X w') := fun X hX =>
        (Strong_any (HT.out.no (HW1.out.trans hX)) (HR.out.no (HW1.out.trans hX)) (HM.out.no (HW1.out.trans hX)) (by omega) (fun t ht => by have := HSl.out t ht; omega) (by omega) (by omega)).mono (fun e w' ⟨nb, h1, h2, _, h3⟩ => ⟨nb, h1, h2, h3⟩)
      have HS2 : Hid (∀ X, Kept No w1 X → Calls Try.prog 14 #[AG ao T.length cap ro R.length rc, .slice ma M.length mc] X fun e w' => ∃ nb, e = .returned (SLN nb T.length) ∧ w'.heap[nb]? = some (.cells (bc (strong T R M)).toArray 4 (0, 0)) ∧ Kept No X w') := fun X hX =>
        (RStrong_any (HT.out.no (HW1.out.trans hX)) (HR.out.no (HW1.out.trans hX)) (HM.out.no (HW1.out.trans hX)) (by omega) (fun t ht => by have := HSl.out t ht; omega) (by omega) (by omega)).mono (fun e w' ⟨nb, h1, h2, _, h3⟩ => ⟨nb, h1, h2, h3⟩)
      have HR1 : Hid (∀ X, Kept No w1 X → Calls Try.prog 15 #[AG ao T.length cap ro R.length rc] X fun e w' => e = .returned (.bool (rGraph T R)) ∧ Kept No X w') := fun X hX => Right_any (HT.out.no (HW1.out.trans hX)) (HR.out.no (HW1.out.trans hX)) (by omega) (fun t ht => by have := HSl.out t ht; omega) (by omega) HWf.out
      have HR2 : Hid (∀ X, Kept No w1 X → Calls Try.prog 16 #[AG ao T.length cap ro R.length rc] X fun e w' => e = .returned (.bool (rGraph T R)) ∧ Kept No X w') := fun X hX => RRight_any (HT.out.no (HW1.out.trans hX)) (HR.out.no (HW1.out.trans hX)) (by omega) (fun t ht => by have := HSl.out t ht; omega) (by omega)
      obtain ⟨gr, hgr⟩ : ∃ gr, rGraph T R = gr := ⟨_, rfl⟩
      rw [hgr] at HR1 HR2
      clear hgr
      generalize w1.drew = X0 at hSS ⊢
      refine wpAnyH_take (i := 0) (v := AG ao T.length cap ro R.length rc) rfl (by kernel_rfl) (by kernel_rfl) (by kernel_rfl) (fun _ _ _ h => h) (Or.inl ⟨by rfl, by intro w' hw; obtain ⟨a0, a1⟩ := HFc.out w' hw; go_simp⟩) hSS ?_
      try simp only [Act.put, List.setIfInBounds_toArray, List.set_cons_zero, List.set_cons_succ, List.getElem_toArray, List.getElem_cons_zero, List.getElem_cons_succ]
      refine wpAnyH_take (i := 1) (v := .slice ma M.length mc) rfl (by kernel_rfl) (by kernel_rfl) (by kernel_rfl) (fun _ _ _ h => h) (Or.inl ⟨by rfl, by intro w' hw; go_simp⟩) hSS ?_
      try simp only [Act.put, List.setIfInBounds_toArray, List.set_cons_zero, List.set_cons_succ, List.getElem_toArray, List.getElem_cons_zero, List.getElem_cons_succ]
      refine wpAnyH_take (i := 3) (v := AG ao T.length cap ro R.length rc) rfl (by kernel_rfl) (by kernel_rfl) (by kernel_rfl) (fun _ _ _ h => h) (Or.inl ⟨by rfl, by intro w' hw; obtain ⟨a0, a1⟩ := HFc.out w' hw; go_simp⟩) hSS ?_
      try simp only [Act.put, List.setIfInBounds_toArray, List.set_cons_zero, List.set_cons_succ, List.getElem_toArray, List.getElem_cons_zero, List.getElem_cons_succ]
      refine wpAnyH_take (i := 4) (v := .slice ma M.length mc) rfl (by kernel_rfl) (by kernel_rfl) (by kernel_rfl) (fun _ _ _ h => h) (Or.inl ⟨by rfl, by intro w' hw; go_simp⟩) hSS ?_
      try simp only [Act.put, List.setIfInBounds_toArray, List.set_cons_zero, List.set_cons_succ, List.getElem_toArray, List.getElem_cons_zero, List.getElem_cons_succ]
      refine wpAnyH_ready (rs := [2]) (by kernel_rfl) (by simp) ?_
      refine AllReadyH.cons rfl (fun K hK => ?_) AllReadyH.nil
      go_simp
      refine Calls.mono (HS1.out X0 hSS) ?_
      rintro e X1 ⟨n1, rfl, hb1, hk1⟩
      have H1 : Hid (Kept No w1 X1 ∧ X1.heap[n1]? = some (.cells (bc (strong T R M)).toArray 4 (0, 0))) := ⟨hSS.trans hk1, hb1⟩
      refine hK.out _ _ H1.out.1 (fun hSS => ?_)
      clear hb1 hk1
      clear hK K
      try simp only [Act.put, List.setIfInBounds_toArray, List.set_cons_zero, List.set_cons_succ, List.getElem_toArray, List.getElem_cons_zero, List.getElem_cons_succ]
      refine wpAnyH_ready (rs := [5]) (by kernel_rfl) (by simp) ?_
      refine AllReadyH.cons rfl (fun K hK => ?_) AllReadyH.nil
      go_simp
      refine Calls.mono (HS2.out X1 hSS) ?_
      rintro e X2 ⟨n2, rfl, hb2, hk2⟩
      have H2 : Hid (Kept No w1 X2 ∧ X2.heap[n1]? = some (.cells (bc (strong T R M)).toArray 4 (0, 0)) ∧ X2.heap[n2]? = some (.cells (bc (strong T R M)).toArray 4 (0, 0))) := ⟨hSS.trans hk2, hk2.heap H1.out.2 id, hb2⟩
      refine hK.out _ _ H2.out.1 (fun hSS => ?_)
      clear hb2 hk2 H1
      clear hK K
      try simp only [Act.put, List.setIfInBounds_toArray, List.set_cons_zero, List.set_cons_succ, List.getElem_toArray, List.getElem_cons_zero, List.getElem_cons_succ]
      refine wpAnyH_ready (rs := [6]) (by kernel_rfl) (by simp) ?_
      refine AllReadyH.cons rfl (fun K hK => ?_) AllReadyH.nil
      go_simp
      refine Calls.mono (Bools_same (strong_len T R M) (by omega) H2.out.2.1 H2.out.2.2) ?_
      rintro e X3 ⟨rfl, hk3⟩
      have H3 : Hid (Kept No w1 X3) := hSS.trans hk3
      refine hK.out _ _ H3.out (fun hSS => ?_)
      clear hk3 H2
      clear hK K
      try simp only [Act.put, List.setIfInBounds_toArray, List.set_cons_zero, List.set_cons_succ, List.getElem_toArray, List.getElem_cons_zero, List.getElem_cons_succ]
      refine wpAnyH_take (i := 7) (v := .bool true) rfl (by kernel_rfl) (by kernel_rfl) (by kernel_rfl) (fun _ _ _ h => h) (Or.inl ⟨by rfl, by intro w' hw; go_simp⟩) hSS ?_
      try simp only [Act.put, List.setIfInBounds_toArray, List.set_cons_zero, List.set_cons_succ, List.getElem_toArray, List.getElem_cons_zero, List.getElem_cons_succ]
      refine wpAnyH_take (i := 8) (v := AG ao T.length cap ro R.length rc) rfl (by kernel_rfl) (by kernel_rfl) (by kernel_rfl) (fun _ _ _ h => h) (Or.inl ⟨by rfl, by intro w' hw; obtain ⟨a0, a1⟩ := HFc.out w' hw; go_simp⟩) hSS ?_
      try simp only [Act.put, List.setIfInBounds_toArray, List.set_cons_zero, List.set_cons_succ, List.getElem_toArray, List.getElem_cons_zero, List.getElem_cons_succ]
      refine wpAnyH_take (i := 10) (v := AG ao T.length cap ro R.length rc) rfl (by kernel_rfl) (by kernel_rfl) (by kernel_rfl) (fun _ _ _ h => h) (Or.inl ⟨by rfl, by intro w' hw; obtain ⟨a0, a1⟩ := HFc.out w' hw; go_simp⟩) hSS ?_
      try simp only [Act.put, List.setIfInBounds_toArray, List.set_cons_zero, List.set_cons_succ, List.getElem_toArray, List.getElem_cons_zero, List.getElem_cons_succ]
      refine wpAnyH_ready (rs := [9]) (by kernel_rfl) (by simp) ?_
      refine AllReadyH.cons rfl (fun K hK => ?_) AllReadyH.nil
      go_simp
      refine Calls.mono (HR1.out X3 hSS) ?_
      rintro e X4 ⟨rfl, hk4⟩
      have H4 : Hid (Kept No w1 X4) := hSS.trans hk4
      refine hK.out _ _ H4.out (fun hSS => ?_)
      clear hk4 H3
      clear hK K
      try simp only [Act.put, List.setIfInBounds_toArray, List.set_cons_zero, List.set_cons_succ, List.getElem_toArray, List.getElem_cons_zero, List.getElem_cons_succ]
      refine wpAnyH_ready (rs := [11]) (by kernel_rfl) (by simp) ?_
      refine AllReadyH.cons rfl (fun K hK => ?_) AllReadyH.nil
      go_simp
      refine Calls.mono (HR2.out X4 hSS) ?_
      rintro e X5 ⟨rfl, hk5⟩
      have H5 : Hid (Kept No w1 X5) := hSS.trans hk5
      refine hK.out _ _ H5.out (fun hSS => ?_)
      clear hk5 H4
      clear hK K
      try simp only [Act.put, List.setIfInBounds_toArray, List.set_cons_zero, List.set_cons_succ, List.getElem_toArray, List.getElem_cons_zero, List.getElem_cons_succ]
      refine wpAnyH_take (i := 12) (v := .bool true) rfl (by kernel_rfl) (by kernel_rfl) (by kernel_rfl) (fun _ _ _ h => h) (Or.inl ⟨by rfl, by intro w' hw; cases gr <;> go_simp⟩) hSS ?_
      try simp only [Act.put, List.setIfInBounds_toArray, List.set_cons_zero, List.set_cons_succ, List.getElem_toArray, List.getElem_cons_zero, List.getElem_cons_succ]
      refine wpAnyH_take (i := 13) (v := .bool true) rfl (by kernel_rfl) (by kernel_rfl) (by kernel_rfl) (fun _ _ _ h => h) (Or.inl ⟨by rfl, by intro w' hw; go_simp⟩) hSS ?_
      try simp only [Act.put, List.setIfInBounds_toArray, List.set_cons_zero, List.set_cons_succ, List.getElem_toArray, List.getElem_cons_zero, List.getElem_cons_succ]
      refine wpAnyH_take (i := 14) (v := .bool true) rfl (by kernel_rfl) (by kernel_rfl) (by kernel_rfl) (fun _ _ _ h => h) (Or.inl ⟨by rfl, by intro w' hw; go_simp⟩) hSS ?_
      try simp only [Act.put, List.setIfInBounds_toArray, List.set_cons_zero, List.set_cons_succ, List.getElem_toArray, List.getElem_cons_zero, List.getElem_cons_succ]
      refine wpAnyH_ready (rs := [15]) (by kernel_rfl) (by simp) ?_
      refine AllReadyH.cons rfl (fun K hK => ?_) AllReadyH.nil
      go_simp
      refine Calls.mono (HAl.out X5) ?_
      rintro e X6 ⟨rfl, hk6⟩
      have H6 : Hid (Kept No w1 X6) := hSS.trans hk6
      refine hK.out _ _ H6.out (fun hSS => ?_)
      clear hk6 H5
      clear hK K
      try simp only [Act.put, List.setIfInBounds_toArray, List.set_cons_zero, List.set_cons_succ, List.getElem_toArray, List.getElem_cons_zero, List.getElem_cons_succ]
      refine wpAnyH_take (i := 16) (v := .bool true) rfl (by kernel_rfl) (by kernel_rfl) (by kernel_rfl) (fun _ _ _ h => h) (Or.inl ⟨by rfl, by intro w' hw; go_simp⟩) hSS ?_
      try simp only [Act.put, List.setIfInBounds_toArray, List.set_cons_zero, List.set_cons_succ, List.getElem_toArray, List.getElem_cons_zero, List.getElem_cons_succ]
      refine wpAnyH_take (i := 17) (v := .bool true) rfl (by kernel_rfl) (by kernel_rfl) (by kernel_rfl) (fun _ _ _ h => h) (Or.inl ⟨by rfl, by intro w' hw; go_simp⟩) hSS ?_
      try simp only [Act.put, List.setIfInBounds_toArray, List.set_cons_zero, List.set_cons_succ, List.getElem_toArray, List.getElem_cons_zero, List.getElem_cons_succ]
      refine wpAnyH_done (by kernel_rfl) ?_ _
      go_wp2
      go_ret
      exact ⟨rfl, HW1.out.trans H6.out⟩
end Go.Proofs.Ytnofmpbdfcolfaa
