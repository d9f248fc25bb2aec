/- Both collections are the same: ReachCollects. -/
import Derived.Test.YtnofmpbdfcolfaaY7
import Derived.Test.YtnofmpbdfcolfaaF1
namespace Go.Proofs.Ytnofmpbdfcolfaa
open Go.RowKit Go.Shelf
set_option linter.unusedSimpArgs false
set_option linter.unusedVariables false

theorem guardN49 (x y : V) (w : World) : (Op.equalIn 10000 49 (AV x) (AV y)).run Try.prog w = .ok (decide (x = y)) w := eq49 x.1 x.2 y.1 y.2 w

set_option maxRecDepth 20000 in
set_option maxHeartbeats 8000000 in
/-- Two finds of one graph are the same. -/
theorem Same_any {w : World} {a b n : Nat} {po po' eo eo' : Option Addr} {pc pc' ec ec' B B' B2 B2' : Nat} {l : List Bool} {P : List Int} {E : List V} (hl : l.length = n) (hn : n ≤ 1000000) (hP : P.length ≤ 1000000) (hE : E.length ≤ 1000000)
    (ha : w.heap[a]? = some (.cells (bc l).toArray 4 (0, 0))) (hb : w.heap[b]? = some (.cells (bc l).toArray 4 (0, 0))) (hp : IRow w B (.slice po P.length pc) P) (hp' : IRow w B' (.slice po' P.length pc') P) (he : EnRow w B2 (.slice eo E.length ec) E) (he' : EnRow w B2' (.slice eo' E.length ec') E) :
    Calls Try.prog 17 #[.agg #[SLN a n, .slice po P.length pc, .slice eo E.length ec], .agg #[SLN b n, .slice po' P.length pc', .slice eo' E.length ec']] w fun e w' => e = .returned (.bool true) ∧ Kept No w w' := by
  obtain ⟨W, HW⟩ : ∃ W, Hid (W = (w.alloc (.cells #[SLN a n, .slice po P.length pc, .slice eo E.length ec] 37)).alloc (.cells #[SLN b n, .slice po' P.length pc', .slice eo' E.length ec'] 37)) := ⟨_, rfl⟩
  have HK : Hid (Kept No w W) := by show Kept _ _ _; rw [HW.out]; exact ((Kept.refl _ _).alloc _).alloc _
  have hb0 : W.heap[w.heap.size]? = some (.cells #[SLN a n, .slice po P.length pc, .slice eo E.length ec] 37 (0, 0)) := by rw [HW.out]; exact (Below.heap_alloc _ _ _ (by simp)).trans (World.alloc_heap_new w _)
  have hb1 : W.heap[w.heap.size + 1]? = some (.cells #[SLN b n, .slice po' P.length pc', .slice eo' E.length ec'] 37 (0, 0)) := by rw [HW.out]; have := World.alloc_heap_new (w.alloc (.cells #[SLN a n, .slice po P.length pc, .slice eo E.length ec] 37)) (.cells #[SLN b n, .slice po' P.length pc', .slice eo' E.length ec'] 37); rwa [World.size_alloc] at this
  have HX : Hid (∀ X, Kept No W X → (X.cell? ⟨w.heap.size, 0, none⟩ = some (SLN a n) ∧ X.cell? ⟨w.heap.size, 1, none⟩ = some (.slice po P.length pc) ∧ X.cell? ⟨w.heap.size, 2, none⟩ = some (.slice eo E.length ec)) ∧ X.cell? ⟨w.heap.size + 1, 0, none⟩ = some (SLN b n) ∧ X.cell? ⟨w.heap.size + 1, 1, none⟩ = some (.slice po' P.length pc') ∧ X.cell? ⟨w.heap.size + 1, 2, none⟩ = some (.slice eo' E.length ec')) := fun X hX => by
    have q0 := hX.heap hb0 id
    have q1 := hX.heap hb1 id
    exact ⟨⟨by rw [cell_of q0]; rfl, by rw [cell_of q0]; rfl, by rw [cell_of q0]; rfl⟩, by rw [cell_of q1]; rfl, by rw [cell_of q1]; rfl, by rw [cell_of q1]; rfl⟩
  have HLa : Hid (∀ X, Kept No W X → ∀ j, j < n → X.cell? ⟨a, j, none⟩ = some (.bool (l.getD j true)) ∧ X.cell? ⟨b, j, none⟩ = some (.bool (l.getD j true))) := fun X hX j hj => by
    rw [cell_of ((HK.out.trans hX).heap ha id), cell_of ((HK.out.trans hX).heap hb id)]; exact ⟨bc_get _ _ (by omega), bc_get _ _ (by omega)⟩
  have HPa : Hid (∀ X, Kept No W X → ∀ j (hj : j < P.length), ∃ g g', po = some ⟨g, 0, none⟩ ∧ po' = some ⟨g', 0, none⟩ ∧ X.cell? ⟨g, j, none⟩ = some (.int .i64 P[j]) ∧ X.cell? ⟨g', j, none⟩ = some (.int .i64 P[j])) := fun X hX j hj => by
    obtain ⟨g, c, e, _, h1⟩ := IRow.at (hp.no (HK.out.trans hX)) hj
    obtain ⟨g', c', e', _, h1'⟩ := IRow.at (hp'.no (HK.out.trans hX)) hj
    injection e with e1 e2 e3
    injection e' with e1' e2' e3'
    exact ⟨g, g', e1, e1', h1, h1'⟩
  have HEa : Hid (∀ X, Kept No W X → ∀ j (hj : j < E.length), ∃ g g', eo = some ⟨g, 0, none⟩ ∧ eo' = some ⟨g', 0, none⟩ ∧ X.cell? ⟨g, j * 2, none⟩ = some (.int .i64 E[j].1) ∧ X.cell? ⟨g, j * 2 + 1, none⟩ = some (.int .i64 E[j].2) ∧ X.cell? ⟨g', j * 2, none⟩ = some (.int .i64 E[j].1) ∧ X.cell? ⟨g', j * 2 + 1, none⟩ = some (.int .i64 E[j].2)) := fun X hX j hj => by
    obtain ⟨g, c, e, h1, h2⟩ := EnRow.at (he.no (HK.out.trans hX)) hj
    obtain ⟨g', c', e', h1', h2'⟩ := EnRow.at (he'.no (HK.out.trans hX)) hj
    injection e with e1 e2 e3
    injection e' with e1' e2' e3'
    exact ⟨g, g', e1, e1', h1, h2, h1', h2'⟩
  have hg := guard49
  obtain ⟨⟨c0, c1, c2⟩, c3, c4, c5⟩ := HX.out W (Kept.refl _ _)
  clear ha hb hp hp' he he' hb0 hb1
  go_enter Try.func17, Try.ntmps17
  go_wp2_with (first | rw [← HW.out])
  clear HW
  go_loopw [5, 33, 34, 35, 36, 37, 38, 39, 40, 41, 42, 43, 44, 45, 46, 47, 48, 49, 50] (fun i _ _ _ _ _ _ _ _ _ _ _ _ _ _ _ _ _ _ wr => ∃ j : Nat, j ≤ n ∧ i = .int .i64 j ∧ Hid (Kept No W wr)) (fun i _ _ _ _ _ _ _ _ _ _ _ _ _ _ _ _ _ _ _ => n - (intOf i).toNat)
  case atStart => exact ⟨0, by omega, rfl, Kept.refl _ _⟩
  case round =>
    obtain ⟨j, hj, rfl, HJ⟩ := hrel
    obtain ⟨⟨c0, c1, c2⟩, c3, c4, c5⟩ := HX.out wr HJ.out
    by_cases hlt : j < n
    · have k1 : (j : Int) < (n : Int) := by omega
      obtain ⟨x1, x2⟩ := HLa.out wr HJ.out j hlt
      generalize l.getD j true = lj at x1 x2
      have HKd : Hid (∀ q, Kept No W (wr.drewN q)) := fun q => HJ.out.drewN q
      cases lj
      · go_wp2_with fail
        go_quiet (fail)
        go_wp2_with fail
        go_roundw
        case rel => exact ⟨j + 1, by omega, by go_num, HKd.out _⟩
        case measure => simp [intOf]; omega
      · go_wp2_with fail
        go_quiet (fail)
        go_wp2_with fail
        go_roundw
        case rel => exact ⟨j + 1, by omega, by go_num, HKd.out _⟩
        case measure => simp [intOf]; omega
    · have k1 : ¬ (j : Int) < (n : Int) := by omega
      obtain ⟨wa, hwa⟩ : ∃ wa, wa = wr := ⟨_, rfl⟩
      subst hwa
      go_wp2_with fail
      go_loopw [6, 51, 52, 53, 54, 55, 56, 57, 58, 59, 60, 61, 62, 63, 64, 65, 66, 67, 68] (fun i _ _ _ _ _ _ _ _ _ _ _ _ _ _ _ _ _ _ wr => ∃ j : Nat, j ≤ P.length ∧ i = .int .i64 j ∧ Hid (Kept No W wr)) (fun i _ _ _ _ _ _ _ _ _ _ _ _ _ _ _ _ _ _ _ => P.length - (intOf i).toNat)
      case atStart => exact ⟨0, by omega, rfl, HJ.out⟩
      case round =>
        clear HJ
        obtain ⟨j, hj, rfl, HJ⟩ := hrel
        obtain ⟨⟨c0, c1, c2⟩, c3, c4, c5⟩ := HX.out wr HJ.out
        by_cases hlt : j < P.length
        · have k2 : (j : Int) < (P.length : Int) := by omega
          obtain ⟨g, g', rfl, rfl, x1, x2⟩ := HPa.out wr HJ.out j hlt
          generalize P[j] = pj at x1 x2
          have HKd : Hid (∀ q, Kept No W (wr.drewN q)) := fun q => HJ.out.drewN q
          go_wp2_with fail
          go_quiet (fail)
          go_wp2_with fail
          go_roundw
          case rel => exact ⟨j + 1, by omega, by go_num, HKd.out _⟩
          case measure => simp [intOf]; omega
        · have k2 : ¬ (j : Int) < (P.length : Int) := by omega
          obtain ⟨wb, hwb⟩ : ∃ wb, wb = wr := ⟨_, rfl⟩
          subst hwb
          go_wp2_with fail
          go_loopw [7, 69, 70, 71, 72, 73, 74, 75, 76, 77, 78, 79, 80, 81, 82, 83, 84, 85, 86] (fun i _ _ _ _ _ _ _ _ _ _ _ _ _ _ _ _ _ _ wr => ∃ j : Nat, j ≤ E.length ∧ i = .int .i64 j ∧ Hid (Kept No W wr)) (fun i _ _ _ _ _ _ _ _ _ _ _ _ _ _ _ _ _ _ _ => E.length - (intOf i).toNat)
          case atStart => exact ⟨0, by omega, rfl, HJ.out⟩
          case round =>
            clear HJ
            obtain ⟨j, hj, rfl, HJ⟩ := hrel
            obtain ⟨⟨c0, c1, c2⟩, c3, c4, c5⟩ := HX.out wr HJ.out
            by_cases hlt : j < E.length
            · have k3 : (j : Int) < (E.length : Int) := by omega
              obtain ⟨g, g', rfl, rfl, x1, x2, x3, x4⟩ := HEa.out wr HJ.out j hlt
              have heq : ∀ w, (Op.equalIn 10000 49 (.agg #[.int .i64 E[j].1, .int .i64 E[j].2]) (.agg #[.int .i64 E[j].1, .int .i64 E[j].2])).run Try.prog w = .ok true w := fun w => (eq49 _ _ _ _ w).trans (by simp)
              generalize E[j].1 = l1 at x1 x3 heq
              generalize E[j].2 = l2 at x2 x4 heq
              have HKd : Hid (∀ q, Kept No W (wr.drewN q)) := fun q => HJ.out.drewN q
              go_wp2_with fail
              go_quiet (fail)
              go_wp2_with fail
              go_roundw
              case rel => exact ⟨j + 1, by omega, by go_num, HKd.out _⟩
              case measure => simp [intOf]; omega
            · have k3 : ¬ (j : Int) < (E.length : Int) := by omega
              go_wp2_with fail
              go_ret
              exact ⟨rfl, HK.out.trans HJ.out⟩
end Go.Proofs.Ytnofmpbdfcolfaa
namespace Go.Proofs.Ytnofmpbdfcolfaa
open Go.RowKit Go.Shelf
set_option linter.unusedSimpArgs false
set_option linter.unusedVariables false

theorem Fnd.kept {w w' : World} {T : List Th} {R : List V} {lv pv ev : Value} {D : List Nat} (h : Fnd w w' T R lv pv ev D) : Kept No w w' := by
  obtain ⟨_, _, _, _, _, _, h⟩ := h; exact h
theorem Fnd.pd {w w' : World} {T : List Th} {R : List V} {lv pv ev : Value} {D : List Nat} (h : Fnd w w' T R lv pv ev D) : Pd T (strong T R []) D := by
  obtain ⟨_, _, _, h, _⟩ := h; exact h
theorem Fnd.form {w w' : World} {T : List Th} {R : List V} {lv pv ev : Value} {D : List Nat} (h : Fnd w w' T R lv pv ev D) : ∃ nb po pc eo ec, lv = SLN nb T.length ∧ pv = .slice po (hdl D).length pc ∧ ev = .slice eo (clrTo T (strong T R []) (strong T R (hdl D)) T.length).length ec := by
  obtain ⟨nb, h1, _, _, h2, h3, _⟩ := h
  obtain ⟨po, pc, e1⟩ := h2.form
  obtain ⟨eo, ec, e2⟩ := h3.form
  exact ⟨nb, po, pc, eo, ec, h1, e1, e2⟩
theorem same_fnd {w w1 w2 : World} {T : List Th} {R : List V} {lv pv ev lv' pv' ev' : Value} {D : List Nat} (h1 : Fnd w w1 T R lv pv ev D) (h2 : Fnd w1 w2 T R lv' pv' ev' D) (hn : T.length ≤ 100) (hs : ∀ t ∈ T, t.sl.length ≤ 1000) :
    Calls Try.prog 17 #[.agg #[lv, pv, ev], .agg #[lv', pv', ev']] w2 fun e w' => e = .returned (.bool true) ∧ Kept No w2 w' := by
  obtain ⟨nb, rfl, a1, a2, a3, a4, a5⟩ := h1
  obtain ⟨nb', rfl, b1, b2, b3, b4, b5⟩ := h2
  obtain ⟨po, pc, rfl⟩ := a3.form
  obtain ⟨eo, ec, rfl⟩ := a4.form
  obtain ⟨po', pc', rfl⟩ := b3.form
  obtain ⟨eo', ec', rfl⟩ := b4.form
  have hc := clrTo_len T (strong T R []) (strong T R (hdl D)) (fun i => by
    by_cases hi : i < T.length
    · rw [thAt_eq hi]; exact hs T[i] (List.getElem_mem hi)
    · unfold thAt; simp [List.getD, hi]) T.length
  exact Same_any (strong_len T R _) (by omega) (by rw [hdl_len]; have := a2.len; omega) (by omega) (b5.heap a1 id) b1 (a3.no b5) b3 (a4.no b5) b4

set_option maxRecDepth 20000 in
set_option maxHeartbeats 8000000 in
theorem ReachCollects_any {w : World} {tv rv : Value} {T : List Th} {R : List V} (hT : RdT w tv T) (hR : RdV w rv R) (hn : T.length ≤ 140737488355328) (hRn : R.length ≤ 140737488355328) (hs : ∀ t ∈ T, t.sl.length ≤ 140737488355328) :
    Calls Try.prog 4 #[.agg #[tv, rv]] w fun e w' => e = .returned (.bool true) ∧ Kept No w w' := by
  have HT : Hid (RdT w tv T) := hT
  have HR : Hid (RdV w rv R) := hR
  have HAl : Hid (∀ W, Calls Try.prog 11 #[] W fun e w' => e = .returned (.bool true) ∧ Kept No W w') := fun W => alive_any W
  have HBd : Hid (smallB T R = true → T.length ≤ 60 ∧ R.length ≤ 600 ∧ ∀ t ∈ T, t.sl.length ≤ 600) := small_bd
  have HSm : Hid (∀ X, Kept No w X → Calls Try.prog 10 #[.agg #[tv, rv]] X fun e w' => e = .returned (.bool (smallB T R)) ∧ Kept No X w') := fun X hX => Small_any (hT.no hX) (hR.no hX) hn hRn hs
  obtain ⟨ao, cap, htv, _⟩ := hT
  obtain ⟨ro, rc, hrv, _⟩ := hR
  subst htv hrv
  obtain ⟨W, HWd⟩ : ∃ W, Hid (W = w.alloc (.cells #[.slice ao T.length cap, .slice ro R.length rc] 25)) := ⟨_, rfl⟩
  have HK : Hid (Kept No w W) := by show Kept _ _ _; rw [HWd.out]; exact (Kept.refl _ _).alloc _
  have hg : W.heap[w.heap.size]? = some (.cells #[.slice ao T.length cap, .slice ro R.length rc] 25 (0, 0)) := by rw [HWd.out]; exact World.alloc_heap_new w _
  have HGx : Hid _ := hg
  have g0 : W.cell? ⟨w.heap.size, 0, none⟩ = some (.slice ao T.length cap) := by rw [cell_of hg]; rfl
  have g1 : W.cell? ⟨w.heap.size, 1, none⟩ = some (.slice ro R.length rc) := by rw [cell_of hg]; rfl
  have HC : Hid _ := HSm.out W HK.out
  obtain ⟨sm, HSe⟩ : ∃ sm, Hid (smallB T R = sm) := ⟨_, rfl⟩
  rw [HSe.out] at HC HBd
  clear hg HSm HSe hs hn hRn
  go_enter Try.func4, Try.ntmps4
  go_wp2_with (first | rw [← HWd.out])
  refine Calls.mono HC.out ?_
  rintro e w1 ⟨rfl, hk1⟩
  have HW1 : Hid (Kept No w w1) := HK.out.trans hk1
  have HG1 : Hid (w1.heap[w.heap.size]? = some (.cells #[.slice ao T.length cap, .slice ro R.length rc] 25 (0, 0))) := hk1.heap HGx.out id
  clear hk1 HC g0 g1 HWd HGx
  cases sm
  · go_wp2_with fail
    go_at_call 11
    refine Calls.mono (HAl.out _) ?_
    rintro e w3 ⟨rfl, hk3⟩
    have HK3 : Hid (Kept No w w3) := HW1.out.trans hk3
    clear hk3
    go_wp2
    go_ret
    exact ⟨rfl, HK3.out⟩
  · obtain ⟨hn60, hR600, hs600⟩ := HBd.out rfl
    have HSl : Hid (∀ t ∈ T, t.sl.length ≤ 600) := hs600
    clear hs600 HBd
    have HFc : Hid (∀ X, Kept No w1 X → X.cell? ⟨w.heap.size, 0, none⟩ = some (.slice ao T.length cap) ∧ X.cell? ⟨w.heap.size, 1, none⟩ = some (.slice ro R.length rc)) := fun X hX => by
      have hx := hX.heap HG1.out id
      exact ⟨by rw [cell_of hx]; rfl, by rw [cell_of hx]; rfl⟩
    have HC1 : Hid (∀ X, Kept No w1 X → Calls Try.prog 18 #[AG ao T.length cap ro R.length rc] X fun e w' => ∃ lv pv ev D, e = .returned (.agg #[lv, pv, ev]) ∧ Fnd X w' T R lv pv ev D) := fun X hX => Collect_any (HT.out.no (HW1.out.trans hX)) (HR.out.no (HW1.out.trans hX)) (by omega) (fun t ht => by have := HSl.out t ht; omega) (by omega)
    have HC2 : Hid (∀ X, Kept No w1 X → Calls Try.prog 19 #[AG ao T.length cap ro R.length rc] X fun e w' => ∃ lv pv ev D, e = .returned (.agg #[lv, pv, ev]) ∧ Fnd X w' T R lv pv ev D) := fun X hX => RCollect_any (HT.out.no (HW1.out.trans hX)) (HR.out.no (HW1.out.trans hX)) (by omega) (fun t ht => by have := HSl.out t ht; omega) (by omega)
    go_wp2_with fail
    refine wp_region_held_drew (S := fun X => Kept No w1 X) mixed (Kept.refl _ _).drew (fun hSS => ?_)
    generalize w1.drew = X0 at hSS ⊢
    refine wpAnyH_take (i := 0) (v := AG ao T.length cap ro R.length rc) rfl (by kernel_rfl) (by kernel_rfl) (by kernel_rfl) (fun _ _ _ h => h) (Or.inl ⟨by rfl, by intro w' hw; obtain ⟨a0, a1⟩ := HFc.out w' hw; go_simp⟩) hSS ?_
    try simp only [Act.put, List.setIfInBounds_toArray, List.set_cons_zero, List.set_cons_succ, List.getElem_toArray, List.getElem_cons_zero, List.getElem_cons_succ]
    refine wpAnyH_take (i := 2) (v := AG ao T.length cap ro R.length rc) rfl (by kernel_rfl) (by kernel_rfl) (by kernel_rfl) (fun _ _ _ h => h) (Or.inl ⟨by rfl, by intro w' hw; obtain ⟨a0, a1⟩ := HFc.out w' hw; go_simp⟩) hSS ?_
    try simp only [Act.put, List.setIfInBounds_toArray, List.set_cons_zero, List.set_cons_succ, List.getElem_toArray, List.getElem_cons_zero, List.getElem_cons_succ]
    refine wpAnyH_ready (rs := [1]) (by kernel_rfl) (by simp) ?_
    refine AllReadyH.cons rfl (fun K hK => ?_) AllReadyH.nil
    go_simp
    refine Calls.mono (HC1.out X0 hSS) ?_
    rintro e X1 ⟨lv, pv, ev, D, rfl, hF1⟩
    have H1 : Hid (Kept No w1 X1) := hSS.trans (Fnd.kept hF1)
    have HF1 : Hid _ := hF1
    obtain ⟨nb, po, pc, eo, ec, rfl, rfl, rfl⟩ := (Fnd.form hF1)
    refine hK.out _ _ H1.out (fun hSS => ?_)
    clear hF1 hK K
    try simp only [Act.put, List.setIfInBounds_toArray, List.set_cons_zero, List.set_cons_succ, List.getElem_toArray, List.getElem_cons_zero, List.getElem_cons_succ]
    refine wpAnyH_ready (rs := [3]) (by kernel_rfl) (by simp) ?_
    refine AllReadyH.cons rfl (fun K hK => ?_) AllReadyH.nil
    go_simp
    refine Calls.mono (HC2.out X1 hSS) ?_
    rintro e X2 ⟨lv', pv', ev', D', rfl, hF2⟩
    have H2 : Hid (Kept No w1 X2) := hSS.trans (Fnd.kept hF2)
    obtain rfl : D = D' := (Fnd.pd HF1.out).one (Fnd.pd hF2)
    have HSm : Hid _ := same_fnd HF1.out hF2 (by omega) (fun t ht => by have := HSl.out t ht; omega)
    obtain ⟨nb', po', pc', eo', ec', rfl, rfl, rfl⟩ := (Fnd.form hF2)
    refine hK.out _ _ H2.out (fun hSS => ?_)
    clear hF2 hK K H1 HF1
    try simp only [Act.put, List.setIfInBounds_toArray, List.set_cons_zero, List.set_cons_succ, List.getElem_toArray, List.getElem_cons_zero, List.getElem_cons_succ]
    refine wpAnyH_ready (rs := [4]) (by kernel_rfl) (by simp) ?_
    refine AllReadyH.cons rfl (fun K hK => ?_) AllReadyH.nil
    go_simp
    refine Calls.mono HSm.out ?_
    rintro e X3 ⟨rfl, hk3⟩
    have H3 : Hid (Kept No w1 X3) := hSS.trans hk3
    refine hK.out _ _ H3.out (fun hSS => ?_)
    clear hk3 hK K H2 HSm
    try simp only [Act.put, List.setIfInBounds_toArray, List.set_cons_zero, List.set_cons_succ, List.getElem_toArray, List.getElem_cons_zero, List.getElem_cons_succ]
    refine wpAnyH_take (i := 5) (v := .bool true) rfl (by kernel_rfl) (by kernel_rfl) (by kernel_rfl) (fun _ _ _ h => h) (Or.inl ⟨by rfl, by intro w' hw; go_simp⟩) hSS ?_
    try simp only [Act.put, List.setIfInBounds_toArray, List.set_cons_zero, List.set_cons_succ, List.getElem_toArray, List.getElem_cons_zero, List.getElem_cons_succ]
    refine wpAnyH_ready (rs := [6]) (by kernel_rfl) (by simp) ?_
    refine AllReadyH.cons rfl (fun K hK => ?_) AllReadyH.nil
    go_simp
    refine Calls.mono (HAl.out X3) ?_
    rintro e X6 ⟨rfl, hk6⟩
    have H6 : Hid (Kept No w1 X6) := hSS.trans hk6
    refine hK.out _ _ H6.out (fun hSS => ?_)
    clear hk6 H3 hK K
    try simp only [Act.put, List.setIfInBounds_toArray, List.set_cons_zero, List.set_cons_succ, List.getElem_toArray, List.getElem_cons_zero, List.getElem_cons_succ]
    refine wpAnyH_take (i := 7) (v := .bool true) rfl (by kernel_rfl) (by kernel_rfl) (by kernel_rfl) (fun _ _ _ h => h) (Or.inl ⟨by rfl, by intro w' hw; go_simp⟩) hSS ?_
    try simp only [Act.put, List.setIfInBounds_toArray, List.set_cons_zero, List.set_cons_succ, List.getElem_toArray, List.getElem_cons_zero, List.getElem_cons_succ]
    refine wpAnyH_take (i := 8) (v := .bool true) rfl (by kernel_rfl) (by kernel_rfl) (by kernel_rfl) (fun _ _ _ h => h) (Or.inl ⟨by rfl, by intro w' hw; go_simp⟩) hSS ?_
    try simp only [Act.put, List.setIfInBounds_toArray, List.set_cons_zero, List.set_cons_succ, List.getElem_toArray, List.getElem_cons_zero, List.getElem_cons_succ]
    refine wpAnyH_done (by kernel_rfl) ?_ _
    go_wp2
    go_ret
    exact ⟨rfl, HW1.out.trans H6.out⟩
end Go.Proofs.Ytnofmpbdfcolfaa
