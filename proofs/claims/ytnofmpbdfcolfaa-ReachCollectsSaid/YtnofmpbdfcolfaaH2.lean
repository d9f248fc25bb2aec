/- ReachMore. -/
import Derived.Test.YtnofmpbdfcolfaaH1
namespace Go.Proofs.Ytnofmpbdfcolfaa
open Go.RowKit Go.Shelf
set_option linter.unusedSimpArgs false
set_option linter.unusedVariables false

set_option maxRecDepth 20000 in
/-- A slice of values is appended to a row. -/
theorem app_all {W : World} {B : Nat} {v rv : Value} {L R : List V} (hv : VRow W B v L) (hR : RdV W rv R) (hr : rv = .slice none 0 0 ∨ ∃ a cap, rv = .slice (some a) R.length cap) (hn : L.length + R.length ≤ 1000000) (hB : B ≤ W.heap.size) :
    ∃ v' w', (Builtin.append_ #[23, 23] 23 #[v, rv]).run Try.prog W = .ok v' w' ∧ VRow w' B v' (L ++ R) ∧ W.grownBy w' v.ownBlock := by
  obtain ⟨i0, hi, hz0, hz1, hz2⟩ := info_parts info40
  obtain ⟨ao, cap, rfl, hc⟩ := hR
  rcases hr with hr | ⟨a, cap', hr⟩
  · injection hr with e1 e2 e3
    subst e1 e3
    have : R = [] := List.eq_nil_of_length_eq_zero e2
    subst this
    refine ⟨v, W, ?_, by rw [List.append_nil]; exact hv, ⟨rfl, rfl, rfl, Nat.le_refl _, fun _ _ _ => rfl⟩⟩
    exact run_append_owned_none W B 23 23 40 i0 2 Try.underlying23 hi v L.length (ic (flatV L)) hv
  · injection hr with e1 e2 e3
    subst e1 e3
    obtain ⟨v', w', hrun, h2, h3, _, _⟩ := run_append_own_at (P := Try.prog) W B 23 23 40 i0 (.agg #[.int .i64 0, .int .i64 0]) 2 16 Try.underlying23 hi hz0 hz1 hz2 rfl (by decide) v L.length (ic (flatV L)) hv a R.length cap (ic (flatV R)) (by rw [ic_len, flatV_len])
      (by
        intro j u hu
        have hj : j < R.length * 2 := by
          have := (List.getElem?_eq_some_iff.1 hu).1
          rw [ic_len, flatV_len] at this; exact this
        obtain ⟨q, hq, hj2⟩ : ∃ q, (j = q * 2 ∨ j = q * 2 + 1) ∧ q < R.length := ⟨j / 2, by omega, by omega⟩
        obtain ⟨b, off, e, y0, y1⟩ := hc q hj2
        injection e with e
        subst e
        obtain ⟨g0, g1⟩ := flatV_get R q hj2
        rcases hq with h | h
        · subst h
          rw [g0] at hu
          injection hu with hu
          subst hu
          have : (⟨b, off, none⟩ : Addr).add (q * 2) = ⟨b, off + q * 2, none⟩ := by simp [Addr.add]
          rw [this]; exact y0
        · subst h
          rw [g1] at hu
          injection hu with hu
          subst hu
          have : (⟨b, off, none⟩ : Addr).add (q * 2 + 1) = ⟨b, off + q * 2 + 1, none⟩ := by simp [Addr.add, Nat.add_assoc]
          rw [this]; exact y1) (ic_one _) (by unfold maxLen; omega) (by omega) hB
    refine ⟨v', w', hrun, ?_, h3⟩
    show World.ownsRow _ _ _ _ _ _ _
    rw [List.length_append, flatV_append, ic_append]; exact h2

theorem app_stepO {o : Oper} {a : Act} {K : Act → World → Prop} {Q : Exit → Act → World → Prop} {w : World} (s x : Operand) (ho : o.op = .call { callee := .builtin .append, args := #[s, x], argTypes := #[23, 23] }) (v y v' : Value) (w' : World)
    (hs : a.eval s = v) (hx : a.eval x = y) (hr : (Builtin.append_ #[23, 23] o.type #[v, y]).run Try.prog w = .ok v' w') (h : K (a.put o.dst v') w') : o.wp Try.prog a w K Q := by
  unfold Oper.wp execOp
  simp only [ho, resolve, invoke, builtin, Sem.run_bind, Sem.run_pure, Result.andThen_ok, List.map_toArray, List.map_cons, List.map_nil, hs, hx, hr]
  exact h
theorem VRow.made (w : World) {B : Nat} (hB : B ≤ w.heap.size) : VRow (w.alloc (.cells #[] 40)) B (.slice (some ⟨w.heap.size, 0, none⟩) 0 0) [] := World.ownsRow_made w #[] 0 hB (by decide) rfl
theorem VRow.own {w : World} {B : Nat} {v : Value} {L : List V} (h : VRow w B v L) : ∀ k, v.ownBlock = some k → B ≤ k := fun k hk => (h.block hk).1

set_option maxRecDepth 20000 in
set_option maxHeartbeats 4000000 in
theorem ReachMore_any {w : World} {tv rv : Value} {T : List Th} {R : List V} (v : V) (h : Int) (hT : RdT w tv T) (hR : RdV w rv R) (hrv : rv = .slice none 0 0 ∨ ∃ a cap, rv = .slice (some a) R.length cap) (hn : T.length ≤ 140737488355328) (hRn : R.length ≤ 140737488355328) (hs : ∀ t ∈ T, t.sl.length ≤ 140737488355328) :
    Calls Try.prog 5 #[.agg #[tv, rv], AV v, .int .i64 h] w fun e w' => e = .returned (.bool true) ∧ Kept No w w' := by
  obtain ⟨v1, v2⟩ := v
  have HT : Hid (RdT w tv T) := hT
  have HR : Hid (RdV w rv R) := hR
  have HRv : Hid (rv = .slice none 0 0 ∨ ∃ a cap, rv = .slice (some a) R.length cap) := hrv
  have HSm : Hid (∀ W', Kept No w W' → Calls Try.prog 10 #[.agg #[tv, rv]] W' fun e w' => e = .returned (.bool (smallB T R)) ∧ Kept No W' w') := fun W' hk => Small_any (hT.no hk) (hR.no hk) hn hRn hs
  obtain ⟨ta, tc, rfl, _⟩ := hT
  obtain ⟨ra, rc, rfl, _⟩ := hR
  obtain ⟨W, HWd⟩ : ∃ W, Hid (W = (w.alloc (.cells #[.slice ta T.length tc, .slice ra R.length rc] 25)).alloc (.cells #[.int .i64 v1, .int .i64 v2] 40)) := ⟨_, rfl⟩
  have HK : Hid (Kept No w W) := by show Kept _ _ _; rw [HWd.out]; exact ((Kept.refl _ _).alloc _).alloc _
  have HB0 : Hid (W.heap[w.heap.size]? = some (.cells #[.slice ta T.length tc, .slice ra R.length rc] 25 (0, 0))) := by show _ = _; rw [HWd.out]; exact (Below.heap_alloc _ _ _ (by simp)).trans (World.alloc_heap_new w _)
  have HB1 : Hid (W.heap[w.heap.size + 1]? = some (.cells #[.int .i64 v1, .int .i64 v2] 40 (0, 0))) := by show _ = _; rw [HWd.out]; have := World.alloc_heap_new (w.alloc (.cells #[.slice ta T.length tc, .slice ra R.length rc] 25)) (.cells #[.int .i64 v1, .int .i64 v2] 40); rwa [World.size_alloc] at this
  have HG : Hid (∀ W', Kept No W W' → W'.cell? ⟨w.heap.size, 0, none⟩ = some (.slice ta T.length tc) ∧ W'.cell? ⟨w.heap.size, 1, none⟩ = some (.slice ra R.length rc)) := fun W' hk => by
    have := hk.heap HB0.out id
    exact ⟨by rw [cell_of this]; rfl, by rw [cell_of this]; rfl⟩
  obtain ⟨g0, g1⟩ := HG.out W (Kept.refl _ _)
  clear hs hrv hn hRn
  go_enter Try.func5, Try.ntmps5
  go_wp2_with (first | rw [← HWd.out])
  refine Calls.mono (HSm.out W HK.out) ?_
  rintro e W1 ⟨rfl, hk1⟩
  have HK1 : Hid (Kept No W W1) := hk1
  obtain ⟨g2, g3⟩ := HG.out W1 hk1
  obtain ⟨sm, HSb⟩ : ∃ sm, Hid (smallB T R = sm) := ⟨_, rfl⟩
  rw [HSb.out]
  clear hk1 g0 g1 HSm HWd
  cases sm
  case false =>
    go_wp2_with fail
    refine Calls.mono (alive_any _) ?_
    rintro e W2 ⟨rfl, hk2⟩
    have HK2 : Hid (Kept No w W2) := HK.out.trans (HK1.out.trans hk2)
    clear hk2
    go_wp2
    go_ret
    exact ⟨rfl, HK2.out⟩
  case true =>
    obtain ⟨b1, b2, b3⟩ := small_bd HSb.out
    have HS : Hid (∀ t ∈ T, t.sl.length ≤ 1000) := fun t ht => Nat.le_trans (b3 t ht) (by omega)
    have hN : ∀ W, RdI W (.slice none 0 0) [] := fun W => ⟨none, 0, rfl, fun j hj => by simp at hj⟩
    have HSt : Hid (∀ W', Kept No W W' → ∀ rv' R' mv M, RdV W' rv' R' → RdI W' mv M → R'.length ≤ 1000 → M.length ≤ 1000 → Calls Try.prog 13 #[.agg #[.slice ta T.length tc, rv'], mv] W' fun e w' => ∃ nb, e = .returned (SLN nb T.length) ∧ w'.heap[nb]? = some (.cells (bc (strong T R' M)).toArray 4 (0, 0)) ∧ W'.heap.size ≤ nb ∧ Kept No W' w') := fun W' hk rv' R' mv M h1 h2 h3 h4 => Strong_any (HT.out.no (HK.out.trans hk)) h1 h2 (by omega) HS.out (by omega) (by omega)
    have HN : Hid (∀ W, RdI W (.slice none 0 0) []) := hN
    clear b3 hN
    go_wp2_with fail
    refine Calls.mono (HSt.out W1 HK1.out _ R _ [] (HR.out.no (HK.out.trans HK1.out)) (HN.out W1) (by omega) (by simp)) ?_
    rintro e W2 ⟨na, rfl, hna, hza, hk2⟩
    have HK2 : Hid (Kept No W W2) := HK1.out.trans hk2
    have HA2 : Hid (W2.heap[na]? = some (.cells (bc (strong T R [])).toArray 4 (0, 0))) := hna
    obtain ⟨g4, g5⟩ := HG.out W2 HK2.out
    clear hk2 hna hza g2 g3 HSb
    have hkb : Kept No W (W2.alloc (.cells #[.int .i64 h] 3)) := HK2.out.alloc _
    have HKb : Hid (Kept No W (W2.alloc (.cells #[.int .i64 h] 3))) := hkb
    have HCb : Hid (Calls Try.prog 13 #[.agg #[.slice ta T.length tc, .slice ra R.length rc], .slice (some ⟨W2.heap.size, 0, none⟩) 1 1] (W2.alloc (.cells #[.int .i64 h] 3)) fun e w' => ∃ nb, e = .returned (SLN nb T.length) ∧ w'.heap[nb]? = some (.cells (bc (strong T R [h])).toArray 4 (0, 0)) ∧ (W2.alloc (.cells #[.int .i64 h] 3)).heap.size ≤ nb ∧ Kept No (W2.alloc (.cells #[.int .i64 h] 3)) w') :=
      HSt.out _ hkb _ R _ [h] (HR.out.no (HK.out.trans hkb)) ⟨some ⟨W2.heap.size, 0, none⟩, 1, rfl, fun j hj => by
        obtain rfl : j = 0 := by simp at hj; exact hj
        exact ⟨W2.heap.size, 0, rfl, by rw [cell_of (World.alloc_heap_new W2 _)]; rfl⟩⟩ (by omega) (by simp)
    clear hkb
    go_wp2_with fail
    refine Calls.mono HCb.out ?_
    rintro e W3 ⟨nb, rfl, hnb, hzb, hk3⟩
    have HK3 : Hid (Kept No W W3) := HKb.out.trans hk3
    have HA3 : Hid (W3.heap[na]? = some (.cells (bc (strong T R [])).toArray 4 (0, 0))) := hk3.heap (((Kept.refl No W2).alloc _).heap HA2.out id) id
    have HB3 : Hid (W3.heap[nb]? = some (.cells (bc (strong T R [h])).toArray 4 (0, 0))) := hnb
    clear hk3 hnb hzb HCb HKb HA2 g4 g5
    go_wp2_with fail
    have HK3d : Hid (Kept No W W3.drew) := HK3.out.drew
    have HA4 : Hid (W3.drew.heap[na]? = some (.cells (bc (strong T R [])).toArray 4 (0, 0))) := HA3.out
    have HB4 : Hid (W3.drew.heap[nb]? = some (.cells (bc (strong T R [h])).toArray 4 (0, 0))) := HB3.out
    have HSS0 : ∀ X, Kept No W3.drew X → X.cell? ⟨w.heap.size, 1, none⟩ = some (.slice ra R.length rc) ∧ X.cell? ⟨w.heap.size + 1, 0, none⟩ = some (.int .i64 v1) ∧ X.cell? ⟨w.heap.size + 1, 1, none⟩ = some (.int .i64 v2) := fun X hk => by
      have q := box_cells ((HK3d.out.trans hk).heap HB1.out id)
      exact ⟨(HG.out X (HK3d.out.trans hk)).2, q.1, q.2⟩
    refine wp_region_held_drew (S := fun X => X.cell? ⟨w.heap.size, 1, none⟩ = some (.slice ra R.length rc) ∧ X.cell? ⟨w.heap.size + 1, 0, none⟩ = some (.int .i64 v1) ∧ X.cell? ⟨w.heap.size + 1, 1, none⟩ = some (.int .i64 v2)) mixed (HSS0 _ (Kept.refl _ _)) (fun hSS => ?_)
    have HSS : Hid _ := HSS0
    clear HSS0 HK3 HA3 HB3
    generalize W3.drew = W4 at HK3d HA4 HB4 HSS hSS ⊢
    have HKX : Hid (Kept No W4 W4) := Kept.refl _ _
    refine wpAnyH_take (i := 1) (v := .pointer (some ⟨w.heap.size, 1, none⟩)) rfl (by kernel_rfl) (by kernel_rfl) (by kernel_rfl) (fun _ _ _ h => h) (Or.inl ⟨by rfl, by intro w' hw; go_simp⟩) hSS ?_
    try simp only [Act.put, List.setIfInBounds_toArray, List.set_cons_zero, List.set_cons_succ, List.getElem_toArray, List.getElem_cons_zero, List.getElem_cons_succ]
    refine wpAnyH_take (i := 2) (v := .slice ra R.length rc) rfl (by kernel_rfl) (by kernel_rfl) (by kernel_rfl) (fun _ _ _ h => h) (Or.inl ⟨by rfl, by intro w' hw; obtain ⟨q0, q1, q2⟩ := hw; go_simp⟩) hSS ?_
    try simp only [Act.put, List.setIfInBounds_toArray, List.set_cons_zero, List.set_cons_succ, List.getElem_toArray, List.getElem_cons_zero, List.getElem_cons_succ]
    refine wpAnyH_take (i := 4) (v := AV (v1, v2)) rfl (by kernel_rfl) (by kernel_rfl) (by kernel_rfl) (fun _ _ _ h => h) (Or.inl ⟨by rfl, by intro w' hw; obtain ⟨q0, q1, q2⟩ := hw; go_simp⟩) hSS ?_
    try simp only [Act.put, List.setIfInBounds_toArray, List.set_cons_zero, List.set_cons_succ, List.getElem_toArray, List.getElem_cons_zero, List.getElem_cons_succ]
    refine wpAnyH_ready (rs := [0, 5]) (by kernel_rfl) (by simp) ?_
    refine AllReadyH.cons rfl (fun K hK => ?_) (AllReadyH.cons rfl (fun K hK => ?_) AllReadyH.nil)
    · go_simp
      have hk1 : Kept No W4 (W4.alloc (.cells #[] 40)) := HKX.out.alloc _
      refine hK.out _ _ (HSS.out _ hk1) (fun hSS => ?_)
      clear hK K
      obtain ⟨X1, HY1⟩ : ∃ X1, Hid (X1 = W4.alloc (.cells #[] 40)) := ⟨_, rfl⟩
      try simp only [Act.put, List.setIfInBounds_toArray, List.set_cons_zero, List.set_cons_succ, List.getElem_toArray, List.getElem_cons_zero, List.getElem_cons_succ]
      have HV1 : Hid (VRow (W4.alloc (.cells #[] 40)) W4.heap.size (.slice (some ⟨W4.heap.size, 0, none⟩) 0 0) []) := VRow.made W4 (Nat.le_refl _)
      rw [← HY1.out] at HV1 hSS hk1 ⊢
      have HKX : Hid (Kept No W4 X1) := hk1
      have HZ1 : Hid (X1.heap.size = W4.heap.size + 1) := by show _ = _; rw [HY1.out]; simp
      clear hk1 HY1
      refine wpAnyH_ready (rs := [3, 5]) (by kernel_rfl) (by simp) ?_
      refine AllReadyH.cons rfl (fun K hK => ?_) (AllReadyH.cons rfl (fun K hK => ?_) AllReadyH.nil)
      · obtain ⟨v25, X2, hr2, hv2, hg2⟩ := app_all HV1.out (HR.out.no (HK.out.trans (HK3d.out.trans HKX.out))) HRv.out (by simp; omega) (by have := HKX.out.size; omega)
        refine app_stepO (.tmp 22) (.tmp 24) rfl (.slice (some ⟨W4.heap.size, 0, none⟩) 0 0) (.slice ra R.length rc) v25 X2 rfl rfl hr2 ?_
        have hkx2 : Kept No W4 X2 := HKX.out.trans' (Kept.grown (Kept.refl (fun k => (Value.slice (some ⟨W4.heap.size, 0, none⟩) 0 0).ownBlock = some k) _) hg2 (fun k hk => .inl hk)) (fun k hk => .inr (VRow.own HV1.out k hk))
        refine hK.out _ _ (HSS.out _ hkx2) (fun hSS => ?_)
        clear hK K
        rw [List.nil_append] at hv2
        have HKX : Hid (Kept No W4 X2) := hkx2
        clear hkx2 hr2 hg2 HV1
        try simp only [Act.put, List.setIfInBounds_toArray, List.set_cons_zero, List.set_cons_succ, List.getElem_toArray, List.getElem_cons_zero, List.getElem_cons_succ]
        refine wpAnyH_ready (rs := [5]) (by kernel_rfl) (by simp) ?_
        refine AllReadyH.cons rfl (fun K hK => ?_) AllReadyH.nil
        go_simp
        have hk3 : Kept No W4 (X2.alloc (.cells #[.int .i64 v1, .int .i64 v2] 40)) := HKX.out.alloc _
        refine hK.out _ _ (HSS.out _ hk3) (fun hSS => ?_)
        clear hK K
        obtain ⟨X3, HY3⟩ : ∃ X3, Hid (X3 = X2.alloc (.cells #[.int .i64 v1, .int .i64 v2] 40)) := ⟨_, rfl⟩
        try simp only [Act.put, List.setIfInBounds_toArray, List.set_cons_zero, List.set_cons_succ, List.getElem_toArray, List.getElem_cons_zero, List.getElem_cons_succ]
        have HN27 : Hid ((X2.alloc (.cells #[.int .i64 v1, .int .i64 v2] 40)).heap[X2.heap.size]? = some (.cells #[.int .i64 v1, .int .i64 v2] 40 (0, 0))) := World.alloc_heap_new X2 _
        have HV25 : Hid (VRow (X2.alloc (.cells #[.int .i64 v1, .int .i64 v2] 40)) W4.heap.size v25 R) := World.ownsRow.alloc hv2 _
        rw [← HY3.out] at HN27 HV25 hSS hk3 ⊢
        have HKX : Hid (Kept No W4 X3) := hk3
        clear hk3 HY3 hv2
        refine wpAnyH_ready (rs := [6]) (by kernel_rfl) (by simp) ?_
        refine AllReadyH.cons rfl (fun K hK => ?_) AllReadyH.nil
        rw [if_pos (by rfl)]
        refine app_valO (.tmp 25) (.tmp 27) rfl (v := v25) rfl HV25.out X2.heap.size (v1, v2) rfl HN27.out (by omega) (by have := HKX.out.size; omega) (fun v28 X9 hv9 hg9 ho9 => ?_)
        have hkx9 : Kept No W4 X9 := HKX.out.trans' (Kept.grown (Kept.refl (fun k => v25.ownBlock = some k) _) hg9 (fun k hk => .inl hk)) (fun k hk => .inr (HV25.out.own k hk))
        refine hK.out _ _ (HSS.out _ hkx9) (fun hSS => ?_)
        clear hK K
        obtain ⟨ro, rc9, rfl⟩ := hv9.form
        have HV9 : Hid (RdV X9 (.slice ro (R ++ [(v1, v2)]).length rc9) (R ++ [(v1, v2)])) := hv9.rd
        rw [show (R ++ [(v1, v2)]).length = R.length + 1 by simp] at HV9 ⊢
        have HK9 : Hid (Kept No W X9) := HK3d.out.trans hkx9
        have HA9 : Hid (X9.heap[na]? = some (.cells (bc (strong T R [])).toArray 4 (0, 0))) := hkx9.heap HA4.out id
        have HB9 : Hid (X9.heap[nb]? = some (.cells (bc (strong T R [h])).toArray 4 (0, 0))) := hkx9.heap HB4.out id
        clear hv9 hg9 ho9 hkx9 HV25 HN27 HKX
        try simp only [Act.put, List.setIfInBounds_toArray, List.set_cons_zero, List.set_cons_succ, List.getElem_toArray, List.getElem_cons_zero, List.getElem_cons_succ]
        refine wpAnyH_ready (rs := [7]) (by kernel_rfl) (by simp) ?_
        refine AllReadyH.cons rfl (fun K hK => ?_) AllReadyH.nil
        go_simp
        refine hK.out _ _ (by assumption) (fun hSS => ?_)
        clear hK K
        try simp only [Act.put, List.setIfInBounds_toArray, List.set_cons_zero, List.set_cons_succ, List.getElem_toArray, List.getElem_cons_zero, List.getElem_cons_succ]
        refine wpAnyH_done (by kernel_rfl) ?_ _
        obtain ⟨g6, g7⟩ := HG.out X9 HK9.out
        have HCc : Hid (Calls Try.prog 13 #[.agg #[.slice ta T.length tc, .slice ro (R.length + 1) rc9], .slice none 0 0] X9 fun e w' => ∃ nb, e = .returned (SLN nb T.length) ∧ w'.heap[nb]? = some (.cells (bc (strong T (R ++ [(v1, v2)]) [])).toArray 4 (0, 0)) ∧ X9.heap.size ≤ nb ∧ Kept No X9 w') := HSt.out X9 HK9.out _ (R ++ [(v1, v2)]) _ [] HV9.out (HN.out X9) (by simp; omega) (by simp)
        clear HV9 HSS hSS HA4 HB4
        go_wp2_with fail
        refine Calls.mono HCc.out ?_
        rintro e W5 ⟨nc, rfl, hnc, hzc, hk5⟩
        have HK5 : Hid (Kept No W W5) := HK9.out.trans hk5
        have hA5 := hk5.heap HA9.out id
        have hB5 := hk5.heap HB9.out id
        obtain ⟨g8, g9⟩ := HG.out W5 HK5.out
        have HCell : Hid (∀ j, j < T.length → W5.cell? ⟨na, j, none⟩ = some (.bool ((strong T R []).getD j true)) ∧ W5.cell? ⟨nb, j, none⟩ = some (.bool ((strong T R [h]).getD j true)) ∧ W5.cell? ⟨nc, j, none⟩ = some (.bool ((strong T (R ++ [(v1, v2)]) []).getD j true))) := fun j hj =>
          ⟨by rw [cell_of hA5]; exact bc_get _ _ (by rw [strong_len]; exact hj), by rw [cell_of hB5]; exact bc_get _ _ (by rw [strong_len]; exact hj), by rw [cell_of hnc]; exact bc_get _ _ (by rw [strong_len]; exact hj)⟩
        clear hk5 hnc hzc hA5 hB5 HA9 HB9 HCc g6 g7 HK9
        go_wp2_with fail
        go_loopw [11] (fun i wr => ∃ j : Nat, j ≤ T.length ∧ i = .int .i64 j ∧ wr = W5) (fun i _ => T.length - (intOf i).toNat)
        case atStart => exact ⟨0, by omega, rfl, rfl⟩
        case round =>
          obtain ⟨j, hj, rfl, rfl⟩ := hrel
          by_cases hlt : j < T.length
          · have k1 : (j : Int) < (T.length : Int) := by omega
            obtain ⟨ca, cb, cc⟩ := HCell.out j hlt
            have m1 := strong_more (R := R) (R' := R) (M := []) (M' := [h]) (fun _ h => h) (fun _ h => by cases h) j hlt
            have m2 := strong_more (R := R) (R' := R ++ [(v1, v2)]) (M := []) (M' := []) (fun _ h => List.mem_append_left _ h) (fun _ h => h) j hlt
            generalize (strong T R []).getD j true = xa at ca m1 m2
            generalize (strong T R [h]).getD j true = xb at cb m1
            generalize (strong T (R ++ [(v1, v2)]) []).getD j true = xc at cc m2
            cases xa
            · clear m1 m2
              go_wp2
              go_roundw
              case rel => exact ⟨j + 1, by omega, by go_num, by first | rfl | trivial⟩
              case measure => simp [intOf]; omega
            · obtain rfl := m1 rfl
              obtain rfl := m2 rfl
              clear m1 m2
              go_wp2
              go_roundw
              case rel => exact ⟨j + 1, by omega, by go_num, by first | rfl | trivial⟩
              case measure => simp [intOf]; omega
          · have k1 : ¬ (j : Int) < (T.length : Int) := by omega
            obtain rfl : j = T.length := by omega
            have HAl : Hid (Calls Try.prog 11 #[] wr fun e w' => e = .returned (.bool true) ∧ Kept No wr w') := alive_any wr
            by_cases h1 : h < 1
            · go_wp2_with fail
              refine Calls.mono HAl.out ?_
              rintro e W6 ⟨rfl, hk6⟩
              have HK6 : Hid (Kept No w W6) := HK.out.trans (HK5.out.trans hk6)
              clear hk6
              go_wp2
              go_ret
              exact ⟨rfl, HK6.out⟩
            · by_cases h2 : (T.length : Int) < h
              · go_wp2_with fail
                refine Calls.mono HAl.out ?_
                rintro e W6 ⟨rfl, hk6⟩
                have HK6 : Hid (Kept No w W6) := HK.out.trans (HK5.out.trans hk6)
                clear hk6
                go_wp2
                go_ret
                exact ⟨rfl, HK6.out⟩
              · obtain ⟨m, rfl⟩ : ∃ m : Nat, h = (m : Int) + 1 := ⟨(h - 1).toNat, by omega⟩
                have hm : m < T.length := by omega
                have hmi : (m : Int) < (T.length : Int) := by omega
                have e1 : (m : Int) + 1 - 1 = (m : Int) := by omega
                have hon := (strong_iff T R [(m : Int) + 1] m hm).2 (by
                  have := Nd.more (T := T) (R := R) (M := [(m : Int) + 1]) ((m : Int) + 1) (by simp) (by omega) (by omega)
                  rwa [show ((m : Int) + 1).toNat - 1 = m by omega] at this)
                have cb := (HCell.out m hm).2.1
                rw [hon] at cb
                clear hon
                go_wp2_with fail
                refine Calls.mono HAl.out ?_
                rintro e W6 ⟨rfl, hk6⟩
                have HK6 : Hid (Kept No w W6) := HK.out.trans (HK5.out.trans hk6)
                clear hk6
                go_wp2
                go_ret
                exact ⟨rfl, HK6.out⟩
      · go_simp
        have hk2 : Kept No W4 (X1.alloc (.cells #[.int .i64 v1, .int .i64 v2] 40)) := HKX.out.alloc _
        refine hK.out _ _ (HSS.out _ hk2) (fun hSS => ?_)
        clear hK K
        obtain ⟨X2, HY2⟩ : ∃ X2, Hid (X2 = X1.alloc (.cells #[.int .i64 v1, .int .i64 v2] 40)) := ⟨_, rfl⟩
        try simp only [Act.put, List.setIfInBounds_toArray, List.set_cons_zero, List.set_cons_succ, List.getElem_toArray, List.getElem_cons_zero, List.getElem_cons_succ]
        have HN2 : Hid ((X1.alloc (.cells #[.int .i64 v1, .int .i64 v2] 40)).heap[X1.heap.size]? = some (.cells #[.int .i64 v1, .int .i64 v2] 40 (0, 0))) := World.alloc_heap_new X1 _
        have HV2 : Hid (VRow (X1.alloc (.cells #[.int .i64 v1, .int .i64 v2] 40)) W4.heap.size (.slice (some ⟨W4.heap.size, 0, none⟩) 0 0) []) := World.ownsRow.alloc HV1.out _
        rw [← HY2.out] at HN2 HV2 hSS hk2 ⊢
        have HKX : Hid (Kept No W4 X2) := hk2
        clear hk2 HY2 HV1
        refine wpAnyH_ready (rs := [3]) (by kernel_rfl) (by simp) ?_
        refine AllReadyH.cons rfl (fun K hK => ?_) AllReadyH.nil
        obtain ⟨v25, X3, hr3, hv3, hg3⟩ := app_all HV2.out (HR.out.no (HK.out.trans (HK3d.out.trans HKX.out))) HRv.out (by simp; omega) (by have := HKX.out.size; omega)
        refine app_stepO (.tmp 22) (.tmp 24) rfl (.slice (some ⟨W4.heap.size, 0, none⟩) 0 0) (.slice ra R.length rc) v25 X3 rfl rfl hr3 ?_
        have hkx3 : Kept No W4 X3 := HKX.out.trans' (Kept.grown (Kept.refl (fun k => (Value.slice (some ⟨W4.heap.size, 0, none⟩) 0 0).ownBlock = some k) _) hg3 (fun k hk => .inl hk)) (fun k hk => .inr (VRow.own HV2.out k hk))
        refine hK.out _ _ (HSS.out _ hkx3) (fun hSS => ?_)
        clear hK K
        rw [List.nil_append] at hv3
        have HKX : Hid (Kept No W4 X3) := hkx3
        have HV25 : Hid (VRow X3 W4.heap.size v25 R) := hv3
        have HN27 : Hid (X3.heap[X1.heap.size]? = some (.cells #[.int .i64 v1, .int .i64 v2] 40 (0, 0))) := by
          show _ = _
          rw [hg3.block _ (hp_lt HN2.out) (fun e => by simp only [Value.ownBlock, Option.some.injEq] at e; have := HZ1.out; omega)]
          exact HN2.out
        clear hkx3 hr3 hg3 HV2 HN2 hv3
        try simp only [Act.put, List.setIfInBounds_toArray, List.set_cons_zero, List.set_cons_succ, List.getElem_toArray, List.getElem_cons_zero, List.getElem_cons_succ]
        refine wpAnyH_ready (rs := [6]) (by kernel_rfl) (by simp) ?_
        refine AllReadyH.cons rfl (fun K hK => ?_) AllReadyH.nil
        rw [if_pos (by rfl)]
        refine app_valO (.tmp 25) (.tmp 27) rfl (v := v25) rfl HV25.out X1.heap.size (v1, v2) rfl HN27.out (by omega) (by have := HKX.out.size; omega) (fun v28 X9 hv9 hg9 ho9 => ?_)
        have hkx9 : Kept No W4 X9 := HKX.out.trans' (Kept.grown (Kept.refl (fun k => v25.ownBlock = some k) _) hg9 (fun k hk => .inl hk)) (fun k hk => .inr (HV25.out.own k hk))
        refine hK.out _ _ (HSS.out _ hkx9) (fun hSS => ?_)
        clear hK K
        obtain ⟨ro, rc9, rfl⟩ := hv9.form
        have HV9 : Hid (RdV X9 (.slice ro (R ++ [(v1, v2)]).length rc9) (R ++ [(v1, v2)])) := hv9.rd
        rw [show (R ++ [(v1, v2)]).length = R.length + 1 by simp] at HV9 ⊢
        have HK9 : Hid (Kept No W X9) := HK3d.out.trans hkx9
        have HA9 : Hid (X9.heap[na]? = some (.cells (bc (strong T R [])).toArray 4 (0, 0))) := hkx9.heap HA4.out id
        have HB9 : Hid (X9.heap[nb]? = some (.cells (bc (strong T R [h])).toArray 4 (0, 0))) := hkx9.heap HB4.out id
        clear hv9 hg9 ho9 hkx9 HV25 HN27 HKX
        try simp only [Act.put, List.setIfInBounds_toArray, List.set_cons_zero, List.set_cons_succ, List.getElem_toArray, List.getElem_cons_zero, List.getElem_cons_succ]
        refine wpAnyH_ready (rs := [7]) (by kernel_rfl) (by simp) ?_
        refine AllReadyH.cons rfl (fun K hK => ?_) AllReadyH.nil
        go_simp
        refine hK.out _ _ (by assumption) (fun hSS => ?_)
        clear hK K
        try simp only [Act.put, List.setIfInBounds_toArray, List.set_cons_zero, List.set_cons_succ, List.getElem_toArray, List.getElem_cons_zero, List.getElem_cons_succ]
        refine wpAnyH_done (by kernel_rfl) ?_ _
        obtain ⟨g6, g7⟩ := HG.out X9 HK9.out
        have HCc : Hid (Calls Try.prog 13 #[.agg #[.slice ta T.length tc, .slice ro (R.length + 1) rc9], .slice none 0 0] X9 fun e w' => ∃ nb, e = .returned (SLN nb T.length) ∧ w'.heap[nb]? = some (.cells (bc (strong T (R ++ [(v1, v2)]) [])).toArray 4 (0, 0)) ∧ X9.heap.size ≤ nb ∧ Kept No X9 w') := HSt.out X9 HK9.out _ (R ++ [(v1, v2)]) _ [] HV9.out (HN.out X9) (by simp; omega) (by simp)
        clear HV9 HSS hSS HA4 HB4
        go_wp2_with fail
        refine Calls.mono HCc.out ?_
        rintro e W5 ⟨nc, rfl, hnc, hzc, hk5⟩
        have HK5 : Hid (Kept No W W5) := HK9.out.trans hk5
        have hA5 := hk5.heap HA9.out id
        have hB5 := hk5.heap HB9.out id
        obtain ⟨g8, g9⟩ := HG.out W5 HK5.out
        have HCell : Hid (∀ j, j < T.length → W5.cell? ⟨na, j, none⟩ = some (.bool ((strong T R []).getD j true)) ∧ W5.cell? ⟨nb, j, none⟩ = some (.bool ((strong T R [h]).getD j true)) ∧ W5.cell? ⟨nc, j, none⟩ = some (.bool ((strong T (R ++ [(v1, v2)]) []).getD j true))) := fun j hj =>
          ⟨by rw [cell_of hA5]; exact bc_get _ _ (by rw [strong_len]; exact hj), by rw [cell_of hB5]; exact bc_get _ _ (by rw [strong_len]; exact hj), by rw [cell_of hnc]; exact bc_get _ _ (by rw [strong_len]; exact hj)⟩
        clear hk5 hnc hzc hA5 hB5 HA9 HB9 HCc g6 g7 HK9
        go_wp2_with fail
        go_loopw [11] (fun i wr => ∃ j : Nat, j ≤ T.length ∧ i = .int .i64 j ∧ wr = W5) (fun i _ => T.length - (intOf i).toNat)
        case atStart => exact ⟨0, by omega, rfl, rfl⟩
        case round =>
          obtain ⟨j, hj, rfl, rfl⟩ := hrel
          by_cases hlt : j < T.length
          · have k1 : (j : Int) < (T.length : Int) := by omega
            obtain ⟨ca, cb, cc⟩ := HCell.out j hlt
            have m1 := strong_more (R := R) (R' := R) (M := []) (M' := [h]) (fun _ h => h) (fun _ h => by cases h) j hlt
            have m2 := strong_more (R := R) (R' := R ++ [(v1, v2)]) (M := []) (M' := []) (fun _ h => List.mem_append_left _ h) (fun _ h => h) j hlt
            generalize (strong T R []).getD j true = xa at ca m1 m2
            generalize (strong T R [h]).getD j true = xb at cb m1
            generalize (strong T (R ++ [(v1, v2)]) []).getD j true = xc at cc m2
            cases xa
            · clear m1 m2
              go_wp2
              go_roundw
              case rel => exact ⟨j + 1, by omega, by go_num, by first | rfl | trivial⟩
              case measure => simp [intOf]; omega
            · obtain rfl := m1 rfl
              obtain rfl := m2 rfl
              clear m1 m2
              go_wp2
              go_roundw
              case rel => exact ⟨j + 1, by omega, by go_num, by first | rfl | trivial⟩
              case measure => simp [intOf]; omega
          · have k1 : ¬ (j : Int) < (T.length : Int) := by omega
            obtain rfl : j = T.length := by omega
            have HAl : Hid (Calls Try.prog 11 #[] wr fun e w' => e = .returned (.bool true) ∧ Kept No wr w') := alive_any wr
            by_cases h1 : h < 1
            · go_wp2_with fail
              refine Calls.mono HAl.out ?_
              rintro e W6 ⟨rfl, hk6⟩
              have HK6 : Hid (Kept No w W6) := HK.out.trans (HK5.out.trans hk6)
              clear hk6
              go_wp2
              go_ret
              exact ⟨rfl, HK6.out⟩
            · by_cases h2 : (T.length : Int) < h
              · go_wp2_with fail
                refine Calls.mono HAl.out ?_
                rintro e W6 ⟨rfl, hk6⟩
                have HK6 : Hid (Kept No w W6) := HK.out.trans (HK5.out.trans hk6)
                clear hk6
                go_wp2
                go_ret
                exact ⟨rfl, HK6.out⟩
              · obtain ⟨m, rfl⟩ : ∃ m : Nat, h = (m : Int) + 1 := ⟨(h - 1).toNat, by omega⟩
                have hm : m < T.length := by omega
                have hmi : (m : Int) < (T.length : Int) := by omega
                have e1 : (m : Int) + 1 - 1 = (m : Int) := by omega
                have hon := (strong_iff T R [(m : Int) + 1] m hm).2 (by
                  have := Nd.more (T := T) (R := R) (M := [(m : Int) + 1]) ((m : Int) + 1) (by simp) (by omega) (by omega)
                  rwa [show ((m : Int) + 1).toNat - 1 = m by omega] at this)
                have cb := (HCell.out m hm).2.1
                rw [hon] at cb
                clear hon
                go_wp2_with fail
                refine Calls.mono HAl.out ?_
                rintro e W6 ⟨rfl, hk6⟩
                have HK6 : Hid (Kept No w W6) := HK.out.trans (HK5.out.trans hk6)
                clear hk6
                go_wp2
                go_ret
                exact ⟨rfl, HK6.out⟩
    · go_simp
      have hk1 : Kept No W4 (W4.alloc (.cells #[.int .i64 v1, .int .i64 v2] 40)) := HKX.out.alloc _
      refine hK.out _ _ (HSS.out _ hk1) (fun hSS => ?_)
      clear hK K
      obtain ⟨X1, HY1⟩ : ∃ X1, Hid (X1 = W4.alloc (.cells #[.int .i64 v1, .int .i64 v2] 40)) := ⟨_, rfl⟩
      try simp only [Act.put, List.setIfInBounds_toArray, List.set_cons_zero, List.set_cons_succ, List.getElem_toArray, List.getElem_cons_zero, List.getElem_cons_succ]
      have HN1 : Hid ((W4.alloc (.cells #[.int .i64 v1, .int .i64 v2] 40)).heap[W4.heap.size]? = some (.cells #[.int .i64 v1, .int .i64 v2] 40 (0, 0))) := World.alloc_heap_new W4 _
      rw [← HY1.out] at HN1 hSS hk1 ⊢
      have HKX : Hid (Kept No W4 X1) := hk1
      have HZ1 : Hid (X1.heap.size = W4.heap.size + 1) := by show _ = _; rw [HY1.out]; simp
      clear hk1 HY1
      refine wpAnyH_ready (rs := [0]) (by kernel_rfl) (by simp) ?_
      refine AllReadyH.cons rfl (fun K hK => ?_) AllReadyH.nil
      go_simp
      have hk2 : Kept No W4 (X1.alloc (.cells #[] 40)) := HKX.out.alloc _
      refine hK.out _ _ (HSS.out _ hk2) (fun hSS => ?_)
      clear hK K
      obtain ⟨X2, HY2⟩ : ∃ X2, Hid (X2 = X1.alloc (.cells #[] 40)) := ⟨_, rfl⟩
      try simp only [Act.put, List.setIfInBounds_toArray, List.set_cons_zero, List.set_cons_succ, List.getElem_toArray, List.getElem_cons_zero, List.getElem_cons_succ]
      have HV2 : Hid (VRow (X1.alloc (.cells #[] 40)) W4.heap.size (.slice (some ⟨X1.heap.size, 0, none⟩) 0 0) []) := VRow.made X1 (by have := HZ1.out; omega)
      have HN2 : Hid ((X1.alloc (.cells #[] 40)).heap[W4.heap.size]? = some (.cells #[.int .i64 v1, .int .i64 v2] 40 (0, 0))) := ((Kept.refl No X1).alloc _).heap HN1.out id
      rw [← HY2.out] at HN2 HV2 hSS hk2 ⊢
      have HKX : Hid (Kept No W4 X2) := hk2
      clear hk2 HY2 HN1
      refine wpAnyH_ready (rs := [3]) (by kernel_rfl) (by simp) ?_
      refine AllReadyH.cons rfl (fun K hK => ?_) AllReadyH.nil
      obtain ⟨v25, X3, hr3, hv3, hg3⟩ := app_all HV2.out (HR.out.no (HK.out.trans (HK3d.out.trans HKX.out))) HRv.out (by simp; omega) (by have := HKX.out.size; omega)
      refine app_stepO (.tmp 22) (.tmp 24) rfl (.slice (some ⟨X1.heap.size, 0, none⟩) 0 0) (.slice ra R.length rc) v25 X3 rfl rfl hr3 ?_
      have hkx3 : Kept No W4 X3 := HKX.out.trans' (Kept.grown (Kept.refl (fun k => (Value.slice (some ⟨X1.heap.size, 0, none⟩) 0 0).ownBlock = some k) _) hg3 (fun k hk => .inl hk)) (fun k hk => .inr (VRow.own HV2.out k hk))
      refine hK.out _ _ (HSS.out _ hkx3) (fun hSS => ?_)
      clear hK K
      rw [List.nil_append] at hv3
      have HKX : Hid (Kept No W4 X3) := hkx3
      have HV25 : Hid (VRow X3 W4.heap.size v25 R) := hv3
      have HN27 : Hid (X3.heap[W4.heap.size]? = some (.cells #[.int .i64 v1, .int .i64 v2] 40 (0, 0))) := by
        show _ = _
        rw [hg3.block _ (hp_lt HN2.out) (fun e => by simp only [Value.ownBlock, Option.some.injEq] at e; have := HZ1.out; omega)]
        exact HN2.out
      clear hkx3 hr3 hg3 HV2 HN2 hv3
      try simp only [Act.put, List.setIfInBounds_toArray, List.set_cons_zero, List.set_cons_succ, List.getElem_toArray, List.getElem_cons_zero, List.getElem_cons_succ]
      refine wpAnyH_ready (rs := [6]) (by kernel_rfl) (by simp) ?_
      refine AllReadyH.cons rfl (fun K hK => ?_) AllReadyH.nil
      rw [if_pos (by rfl)]
      refine app_valO (.tmp 25) (.tmp 27) rfl (v := v25) rfl HV25.out W4.heap.size (v1, v2) rfl HN27.out (by omega) (by have := HKX.out.size; omega) (fun v28 X9 hv9 hg9 ho9 => ?_)
      have hkx9 : Kept No W4 X9 := HKX.out.trans' (Kept.grown (Kept.refl (fun k => v25.ownBlock = some k) _) hg9 (fun k hk => .inl hk)) (fun k hk => .inr (HV25.out.own k hk))
      refine hK.out _ _ (HSS.out _ hkx9) (fun hSS => ?_)
      clear hK K
      obtain ⟨ro, rc9, rfl⟩ := hv9.form
      have HV9 : Hid (RdV X9 (.slice ro (R ++ [(v1, v2)]).length rc9) (R ++ [(v1, v2)])) := hv9.rd
      rw [show (R ++ [(v1, v2)]).length = R.length + 1 by simp] at HV9 ⊢
      have HK9 : Hid (Kept No W X9) := HK3d.out.trans hkx9
      have HA9 : Hid (X9.heap[na]? = some (.cells (bc (strong T R [])).toArray 4 (0, 0))) := hkx9.heap HA4.out id
      have HB9 : Hid (X9.heap[nb]? = some (.cells (bc (strong T R [h])).toArray 4 (0, 0))) := hkx9.heap HB4.out id
      clear hv9 hg9 ho9 hkx9 HV25 HN27 HKX
      try simp only [Act.put, List.setIfInBounds_toArray, List.set_cons_zero, List.set_cons_succ, List.getElem_toArray, List.getElem_cons_zero, List.getElem_cons_succ]
      refine wpAnyH_ready (rs := [7]) (by kernel_rfl) (by simp) ?_
      refine AllReadyH.cons rfl (fun K hK => ?_) AllReadyH.nil
      go_simp
      refine hK.out _ _ (by assumption) (fun hSS => ?_)
      clear hK K
      try simp only [Act.put, List.setIfInBounds_toArray, List.set_cons_zero, List.set_cons_succ, List.getElem_toArray, List.getElem_cons_zero, List.getElem_cons_succ]
      refine wpAnyH_done (by kernel_rfl) ?_ _
      obtain ⟨g6, g7⟩ := HG.out X9 HK9.out
      have HCc : Hid (Calls Try.prog 13 #[.agg #[.slice ta T.length tc, .slice ro (R.length + 1) rc9], .slice none 0 0] X9 fun e w' => ∃ nb, e = .returned (SLN nb T.length) ∧ w'.heap[nb]? = some (.cells (bc (strong T (R ++ [(v1, v2)]) [])).toArray 4 (0, 0)) ∧ X9.heap.size ≤ nb ∧ Kept No X9 w') := HSt.out X9 HK9.out _ (R ++ [(v1, v2)]) _ [] HV9.out (HN.out X9) (by simp; omega) (by simp)
      clear HV9 HSS hSS HA4 HB4
      go_wp2_with fail
      refine Calls.mono HCc.out ?_
      rintro e W5 ⟨nc, rfl, hnc, hzc, hk5⟩
      have HK5 : Hid (Kept No W W5) := HK9.out.trans hk5
      have hA5 := hk5.heap HA9.out id
      have hB5 := hk5.heap HB9.out id
      obtain ⟨g8, g9⟩ := HG.out W5 HK5.out
      have HCell : Hid (∀ j, j < T.length → W5.cell? ⟨na, j, none⟩ = some (.bool ((strong T R []).getD j true)) ∧ W5.cell? ⟨nb, j, none⟩ = some (.bool ((strong T R [h]).getD j true)) ∧ W5.cell? ⟨nc, j, none⟩ = some (.bool ((strong T (R ++ [(v1, v2)]) []).getD j true))) := fun j hj =>
        ⟨by rw [cell_of hA5]; exact bc_get _ _ (by rw [strong_len]; exact hj), by rw [cell_of hB5]; exact bc_get _ _ (by rw [strong_len]; exact hj), by rw [cell_of hnc]; exact bc_get _ _ (by rw [strong_len]; exact hj)⟩
      clear hk5 hnc hzc hA5 hB5 HA9 HB9 HCc g6 g7 HK9
      go_wp2_with fail
      go_loopw [11] (fun i wr => ∃ j : Nat, j ≤ T.length ∧ i = .int .i64 j ∧ wr = W5) (fun i _ => T.length - (intOf i).toNat)
      case atStart => exact ⟨0, by omega, rfl, rfl⟩
      case round =>
        obtain ⟨j, hj, rfl, rfl⟩ := hrel
        by_cases hlt : j < T.length
        · have k1 : (j : Int) < (T.length : Int) := by omega
          obtain ⟨ca, cb, cc⟩ := HCell.out j hlt
          have m1 := strong_more (R := R) (R' := R) (M := []) (M' := [h]) (fun _ h => h) (fun _ h => by cases h) j hlt
          have m2 := strong_more (R := R) (R' := R ++ [(v1, v2)]) (M := []) (M' := []) (fun _ h => List.mem_append_left _ h) (fun _ h => h) j hlt
          generalize (strong T R []).getD j true = xa at ca m1 m2
          generalize (strong T R [h]).getD j true = xb at cb m1
          generalize (strong T (R ++ [(v1, v2)]) []).getD j true = xc at cc m2
          cases xa
          · clear m1 m2
            go_wp2
            go_roundw
            case rel => exact ⟨j + 1, by omega, by go_num, by first | rfl | trivial⟩
            case measure => simp [intOf]; omega
          · obtain rfl := m1 rfl
            obtain rfl := m2 rfl
            clear m1 m2
            go_wp2
            go_roundw
            case rel => exact ⟨j + 1, by omega, by go_num, by first | rfl | trivial⟩
            case measure => simp [intOf]; omega
        · have k1 : ¬ (j : Int) < (T.length : Int) := by omega
          obtain rfl : j = T.length := by omega
          have HAl : Hid (Calls Try.prog 11 #[] wr fun e w' => e = .returned (.bool true) ∧ Kept No wr w') := alive_any wr
          by_cases h1 : h < 1
          · go_wp2_with fail
            refine Calls.mono HAl.out ?_
            rintro e W6 ⟨rfl, hk6⟩
            have HK6 : Hid (Kept No w W6) := HK.out.trans (HK5.out.trans hk6)
            clear hk6
            go_wp2
            go_ret
            exact ⟨rfl, HK6.out⟩
          · by_cases h2 : (T.length : Int) < h
            · go_wp2_with fail
              refine Calls.mono HAl.out ?_
              rintro e W6 ⟨rfl, hk6⟩
              have HK6 : Hid (Kept No w W6) := HK.out.trans (HK5.out.trans hk6)
              clear hk6
              go_wp2
              go_ret
              exact ⟨rfl, HK6.out⟩
            · obtain ⟨m, rfl⟩ : ∃ m : Nat, h = (m : Int) + 1 := ⟨(h - 1).toNat, by omega⟩
              have hm : m < T.length := by omega
              have hmi : (m : Int) < (T.length : Int) := by omega
              have e1 : (m : Int) + 1 - 1 = (m : Int) := by omega
              have hon := (strong_iff T R [(m : Int) + 1] m hm).2 (by
                have := Nd.more (T := T) (R := R) (M := [(m : Int) + 1]) ((m : Int) + 1) (by simp) (by omega) (by omega)
                rwa [show ((m : Int) + 1).toNat - 1 = m by omega] at this)
              have cb := (HCell.out m hm).2.1
              rw [hon] at cb
              clear hon
              go_wp2_with fail
              refine Calls.mono HAl.out ?_
              rintro e W6 ⟨rfl, hk6⟩
              have HK6 : Hid (Kept No w W6) := HK.out.trans (HK5.out.trans hk6)
              clear hk6
              go_wp2
              go_ret
              exact ⟨rfl, HK6.out⟩
end Go.Proofs.Ytnofmpbdfcolfaa
