/- ArenaTight, walked. -/
import Derived.Test.YtdaklohfecinjaaP5
import Derived.Test.YtdaklohfecinjaaP7
namespace Go.Proofs.Ytdaklohfecinjaa
open Go.RowKit Go.Maps Go.Sort Go.Shelf
set_option linter.unusedSimpArgs false
set_option linter.unusedVariables false

set_option maxRecDepth 100000 in
set_option maxHeartbeats 4000000 in
theorem Tight_any (size : Int) (v : Value) (L : List (Int × Int × Int × Int)) (w : World) (hL : Acts w v L) :
    Calls Try.prog 6 #[.int .i64 size, v] w fun e w' => e = .returned (.bool true) ∧ Kept No w w' := by
  have HL : Hid (Acts w v L) := hL
  obtain ⟨ao, cap, rfl, q1, q2⟩ := hL
  clear q1 q2
  cases hs' : rl size with
  | false =>
    go_enter Try.func6, Try.ntmps6
    go_wp2_with (go_at_call 22; refine (made_none _ _ _ _ HL.out hs').mono ?_; rintro e w' ⟨rfl, rfl⟩)
    refine (alive_any w).mono ?_
    rintro e w2 ⟨rfl, h2⟩
    have H2 : Hid (Kept No w w2) := h2
    clear h2
    go_wp2
    go_ret
    exact ⟨rfl, H2.out⟩
  | true =>
  obtain ⟨size, rfl⟩ := rl_nat hs'
  rcases Nat.lt_or_ge 80 L.length with hn0 | hn
  · have hn : ¬ L.length ≤ 80 := by omega
    go_enter Try.func6, Try.ntmps6
    go_wp2_with fail
    refine (made_many _ _ _ _ HL.out hs' hn).mono ?_
    rintro e w1 ⟨rfl, h1⟩
    have H1 : Hid (Kept No w w1) := h1
    clear h1
    go_wp2_with fail
    refine (alive_any w1).mono ?_
    rintro e w2 ⟨rfl, h2⟩
    have H2 : Hid (Kept No w w2) := H1.out.trans h2
    clear h2
    go_wp2
    go_ret
    exact ⟨rfl, H2.out⟩
  go_enter Try.func6, Try.ntmps6
  go_wp2_with fail
  refine (made_some _ _ _ _ HL.out hs' hn).mono ?_
  rintro e w1 ⟨A, rfl, hb, C, M, F, f, least, cs, h1, hfp, hk1⟩
  have H1 : Hid (Rx w w1 A C M F f size least 80 cs hb) := ⟨h1, hfp, hk1⟩
  clear h1 hfp hk1
  go_wp2_with fail
  refine (Handles_any H1.out.1).mono ?_
  rintro e w2 ⟨v, rfl, hrow, hb2⟩
  obtain ⟨ps, hpp, hps⟩ := places hb
  have H2 : Hid (Rx w w2 A C M F f size least 80 cs hb) := H1.out.no (Kept.of_below hb2)
  have hlp : ps.length = hb.length := by rw [hpp.length_eq]; simp
  obtain ⟨n, Hn⟩ : ∃ n, Hid (ps.length = n) := ⟨_, rfl⟩
  have HV : Hid (HRow w2 v (ps.map (gA hb)) ∧ (∀ g, v.ownBlock = some g → w1.heap.size ≤ g ∧ g < w2.heap.size) ∧ (ps.map (gA hb)).length = hb.length ∧ hs (ps.map (gA hb)) = hsS hb) :=
    ⟨row_h (by simp [hlp]) hps hrow, fun g hg => own_ge hrow hg, by simp [hlp], hps⟩
  obtain ⟨so, cap2, rfl, hcap2, hcell⟩ := HV.out.1
  rw [List.length_map, Hn.out] at hcap2
  have hnl : n ≤ 65536 := by have := H2.out.1.length_le; have := H2.out.1.sz; have := Hn.out; omega
  have HP : Hid (∀ k, k < n → ps.getD k 0 < hb.length) := fun k hk => by
    have hk' : k < ps.length := by rw [Hn.out]; exact hk
    rw [List.getD, List.getElem?_eq_getElem hk', Option.getD_some]
    exact List.mem_range.1 (hpp.mem_iff.1 (List.getElem_mem hk'))
  have HC : Hid (∀ k, k < n → ∃ g, so = some ⟨g, 0, none⟩ ∧ w1.heap.size ≤ g ∧ g < w2.heap.size ∧ ∀ j, j < n → w2.cell? ⟨g, j, none⟩ = some (.int .i64 ((gA hb (ps.getD j 0)).1 : Int))) := fun k hk => by
    obtain ⟨g, rfl, h3⟩ := hcell k (by rw [List.length_map, Hn.out]; exact hk)
    have := HV.out.2.1 g rfl
    refine ⟨g, rfl, this.1, this.2, fun j hj => ?_⟩
    have hj' : j < ps.length := by rw [Hn.out]; exact hj
    have := h3 j (by rw [List.length_map]; exact hj')
    rw [this, List.getElem_map, List.getD, List.getElem?_eq_getElem hj', Option.getD_some]
  have HFP : Hid (∀ k, FP A C M F hb k → k < w1.heap.size) := fun k hk => H1.out.1.lt hk
  have hw12 : w1.heap.size ≤ w2.heap.size := hb2.size
  obtain ⟨D, hown, hpk, hDs⟩ := perm_of H2.out.1.map H2.out.1.hnd
  have HM : Hid (∀ k, k < n → gA hb (ps.getD k 0) ∈ hb ∧ wf ((gA hb (ps.getD k 0)).1 : Int)) := fun k hk => by
    have hm : gA hb (ps.getD k 0) ∈ hb := by rw [gA_at (HP.out k hk)]; exact List.getElem_mem _
    exact ⟨hm, intKeys_wf hown Try.underlying3 _ (hpk.mem_iff.1 (List.mem_map.2 ⟨_, hm, rfl⟩))⟩
  have HO : Hid (∀ i k, i < n → k < n → ((gA hb (ps.getD i 0)).2.a < (gA hb (ps.getD k 0)).2.a ↔ nA hb (ps.getD i 0) < nA hb (ps.getD k 0))) := fun i k hi hk => order_stays H2.out.1 (HP.out i hi) (HP.out k hk)
  have HMv : Hid (ps.countP (fun p => !decide ((gA hb p).2.a = nA hb p)) = mv (nodes F hb) (nodes F hb).length) := by
    show _ = _
    have e1 : (nodes F hb).length = hb.length + 1 := by simp [nodes]
    rw [e1, mv_count hb.length (Nat.le_refl _), hpp.countP_eq]
  have HAd : Hid (∀ W, Kept No w2 W → ∀ k, k < n → Calls Try.prog 20 #[.pointer (some ⟨A, 0, none⟩), .int .i64 ((gA hb (ps.getD k 0)).1 : Int)] W fun e w' => e = .returned (.int .i64 (gA hb (ps.getD k 0)).2.a) ∧ W = w') := fun W hW k hk =>
    Addr_some (HM.out k hk).1 (HM.out k hk).2 _ (H2.out.1.no hW)
  have HBd : Hid (∀ k, k < n → (gA hb (ps.getD k 0)).2.a ≤ 65536 ∧ nA hb (ps.getD k 0) ≤ 65536) := fun k hk => by
    have hs2 := H2.out.1.sz
    have h3 := H2.out.1.geo.bd _ (List.mem_cons_of_mem _ (List.mem_map_of_mem (f := Prod.snd) (HM.out k hk).1))
    have h4 : nA hb (ps.getD k 0) ≤ sumS (nodes F hb) := by
      have e2 : sumS ((hb.map Prod.snd).take (ps.getD k 0)) + sumS ((hb.map Prod.snd).drop (ps.getD k 0)) = sumS (hb.map Prod.snd) := by rw [← sumS_append, List.take_append_drop]
      have e3 : sumS (nodes F hb) = sumS (hb.map Prod.snd) := by simp [nodes, sumS_cons]
      unfold nA; omega
    have h5 := H2.out.1.geo.le
    exact ⟨by omega, by omega⟩
  have hmk : ∀ w : World, (Instr.makeSlice 39 (.int .i64 (n : Int)) (.int .i64 (n : Int))).run Try.prog w = .ok (.slice (some ⟨w.heap.size, 0, none⟩) n n) (w.alloc (icl (List.replicate n 0))) := fun w => run_mk39 n hnl w
  clear hrow hb2 hown hpk hDs hcell hlp hpp hps
  have hlx : (ps.map (gA hb)).length = n := by rw [List.length_map]; exact Hn.out
  rw [hlx]
  clear hlx
  obtain ⟨G, HG⟩ : ∃ G, Hid (w2.heap.size = G) := ⟨_, rfl⟩
  go_wp2_with fail
  rw [HG.out]
  have HS0 : Hid (∃ l, (w2.alloc (icl (List.replicate n 0))).heap[G]? = some (icl l) ∧ l.length = n ∧ (∀ j, j < 0 → l.getD j 0 = ((gA hb (ps.getD j 0)).2.a : Int)) ∧ Kept No w2 (w2.alloc (icl (List.replicate n 0)))) := by
    refine ⟨List.replicate n 0, ?_, by simp, fun j hj => by omega, (Kept.refl _ _).alloc _⟩
    rw [← HG.out]; exact World.alloc_heap_new w2 _
  go_loopw [8] (fun i wr => ∃ k : Nat, k ≤ n ∧ i = .int .i64 k ∧ Hid (∃ l, wr.heap[G]? = some (icl l) ∧ l.length = n ∧ (∀ j, j < k → l.getD j 0 = ((gA hb (ps.getD j 0)).2.a : Int)) ∧ Kept No w2 wr)) (fun i _ => n - (intOf i).toNat)
  case atStart => exact ⟨0, Nat.zero_le _, rfl, HS0.out⟩
  case round =>
    obtain ⟨k, hk, rfl, HW⟩ := hrel
    by_cases hlt : k < n
    · obtain ⟨l, hl1, hl2, hl3, hl4⟩ := HW.out
      obtain ⟨g, hg, hg1, hg2, hcl⟩ := HC.out k hlt
      have hck : wr.cell? ⟨g, k, none⟩ = some (.int .i64 ((gA hb (ps.getD k 0)).1 : Int)) := by
        rw [← hcl k hlt]; simp [World.cell?, hl4.block g hg2 id]
      obtain ⟨x, Hx⟩ : ∃ x : Int, Hid (((gA hb (ps.getD k 0)).1 : Int) = x) := ⟨_, rfl⟩
      obtain ⟨a, Ha⟩ : ∃ a, Hid ((gA hb (ps.getD k 0)).2.a = a) := ⟨_, rfl⟩
      have HAk : Hid (Calls Try.prog 20 #[.pointer (some ⟨A, 0, none⟩), .int .i64 x] wr fun e w' => e = .returned (.int .i64 a) ∧ wr = w') := by
        have := HAd.out wr hl4 k hlt; rw [Ha.out, Hx.out] at this; exact this
      rw [Hx.out] at hck
      have hgc := icl_cell hl1 (j := k) (by omega)
      have hgf := icl_frozen hl1 k
      have t1 : (0 : Int) ≤ (k : Int) := by omega
      have t2 : (k : Int) < (n : Int) := by omega
      have t3 : (k : Int).toNat = k := by omega
      have HN : Hid (∃ l, (wr.setCell ⟨G, k, none⟩ (.int .i64 a)).heap[G]? = some (icl l) ∧ l.length = n ∧ (∀ j, j < k + 1 → l.getD j 0 = ((gA hb (ps.getD j 0)).2.a : Int)) ∧ Kept No w2 (wr.setCell ⟨G, k, none⟩ (.int .i64 a))) := by
        refine ⟨l.set k (a : Int), icl_set hl1 k a, by simp [hl2], fun j hj => ?_, hl4.set G k _ (Or.inr (by rw [HG.out]; exact Nat.le_refl _))⟩
        by_cases e : j = k
        · subst e; rw [Ha.out]; simp [List.getD, List.getElem?_set, hl2, hlt]
        · rw [← hl3 j (by omega), List.getD, List.getD, List.getElem?_set_ne (fun e2 => e e2.symm)]
      subst hg
      clear hcl hl1 hl2 hl3 hl4
      go_wp2_with (go_at_call 20; refine HAk.out.mono ?_; rintro e w' ⟨rfl, rfl⟩)
      go_round
      case rel => exact ⟨k + 1, by omega, by go_num, HN.out⟩
      case measure => simp [intOf]; omega
    · have he : k = n := by omega
      subst he
      obtain ⟨W0, hW0⟩ : ∃ W, W = wr := ⟨_, rfl⟩
      subst hW0
      have HR0 : Hid (Rx w W0 A C M F f size least 80 cs hb) := by obtain ⟨l, _, _, _, h4⟩ := HW.out; exact H2.out.no h4
      go_wp2_with fail
      refine (Compact_rp W0 HR0.out.1).mono ?_
      rintro e w4 ⟨rfl, hR4, hk4⟩
      obtain ⟨mvv, HMv2⟩ : ∃ m, Hid (mv (nodes F hb) (nodes F hb).length = m) := ⟨_, rfl⟩
      rw [HMv2.out]
      have hmvb : mvv ≤ 100000 := by rw [← HMv2.out]; have := mv_le (nodes F hb) (nodes F hb).length; have := H2.out.1.nodes_len; omega
      have H4 : Hid (Rx w w4 A C M F f size least 80 (cc cs (nodes F hb) (nodes F hb).length) (cmpH 0 hb)) :=
        ⟨hR4, fun i e => HR0.out.2.1 i (fp_sub (fun x hx => by obtain ⟨y, hy, _, e, _⟩ := cmpH_mem hx; exact ⟨y, hy, e⟩) e), HR0.out.2.2.since hk4 HR0.out.2.1⟩
      generalize cc cs (nodes F hb) (nodes F hb).length = cs4 at H4
      have HK0 : Hid (Kept No w2 W0) := by obtain ⟨l, _, _, _, h4⟩ := HW.out; exact h4
      have HG4 : Hid (∃ l, w4.heap[G]? = some (icl l) ∧ l.length = k ∧ ∀ j, j < k → l.getD j 0 = ((gA hb (ps.getD j 0)).2.a : Int)) := by
        obtain ⟨l, q1, q2, q3, q4⟩ := HW.out
        exact ⟨l, hk4.heap q1 (fun e => by have := HFP.out G e; have := HG.out; omega), q2, q3⟩
      have HC4 : Hid (∀ j, j < k → ∃ g, so = some ⟨g, 0, none⟩ ∧ g < w4.heap.size ∧ ∀ i, i < k → w4.cell? ⟨g, i, none⟩ = some (.int .i64 ((gA hb (ps.getD i 0)).1 : Int))) := fun j hj => by
        obtain ⟨g, hg, g1, g2, hcl⟩ := HC.out j hj
        refine ⟨g, hg, by have := HK0.out.size; have := hk4.size; omega, fun i hi => ?_⟩
        rw [← hcl i hi]
        have e1 := HK0.out.block g g2 id
        have e2 := hk4.block g (by have := HK0.out.size; omega) (fun e => by have := HFP.out g e; omega)
        simp [World.cell?, e2, e1]
      have HAd4 : Hid (∀ W, Kept No w4 W → ∀ i, i < k → Calls Try.prog 20 #[.pointer (some ⟨A, 0, none⟩), .int .i64 ((gA hb (ps.getD i 0)).1 : Int)] W fun e w' => e = .returned (.int .i64 (nA hb (ps.getD i 0))) ∧ W = w') := fun W hW i hi => by
        have hp := HP.out i hi
        have hm := cmpH_at (o := 0) hp
        have := Addr_some hm (by rw [← gA_at hp]; exact (HM.out i hi).2) W (H4.out.1.no hW)
        rw [gA_at hp]
        simpa [nA] using this
      have hw24 : w2.heap.size ≤ w4.heap.size := Nat.le_trans HK0.out.size hk4.size
      clear hR4 hk4 HW HAd HK0
      obtain ⟨l, HGl⟩ : ∃ l, Hid (w4.heap[G]? = some (icl l) ∧ l.length = k ∧ ∀ j, j < k → l.getD j 0 = ((gA hb (ps.getD j 0)).2.a : Int)) := HG4.out
      have HW2 : Hid (∀ W : World, W.heap = w4.heap → ∀ j, j < k → W.cell? ⟨G, j, none⟩ = some (.int .i64 ((gA hb (ps.getD j 0)).2.a : Int))) := fun W hW j hj => by
        have := icl_cell HGl.out.1 (j := j) (by rw [HGl.out.2.1]; exact hj)
        rw [HGl.out.2.2 j hj] at this
        rw [← this]; simp [World.cell?, hW]
      go_wp2_with fail
      go_loopw [10, 11, 12] (fun c i _ wr => ∃ q : Nat, q ≤ k ∧ i = .int .i64 q ∧ Hid (c = .int .i64 ((ps.take q).countP (fun p => !decide ((gA hb p).2.a = nA hb p)) : Nat)) ∧ Hid (wr.heap = w4.heap ∧ Kept No w4 wr)) (fun _ i _ _ => k - (intOf i).toNat)
      case atStart => exact ⟨0, Nat.zero_le _, rfl, rfl, rfl, Kept.refl _ _⟩
      case round =>
        obtain ⟨q, hq, rfl, hc1, hwq⟩ := hrel
        have hc2 := hc1.out
        subst hc2
        clear hc1
        by_cases hql : q < k
        · obtain ⟨g, hg, hg2, hcl⟩ := HC4.out q hql
          obtain ⟨W1, hW1⟩ : ∃ W, W = wr := ⟨_, rfl⟩
          subst hW1
          have HCl : Hid (∀ i, i < k → w4.cell? ⟨g, i, none⟩ = some (.int .i64 ((gA hb (ps.getD i 0)).1 : Int))) := hcl
          obtain ⟨x, Hx⟩ : ∃ x : Int, Hid (((gA hb (ps.getD q 0)).1 : Int) = x) := ⟨_, rfl⟩
          obtain ⟨a, Ha⟩ : ∃ a, Hid ((gA hb (ps.getD q 0)).2.a = a) := ⟨_, rfl⟩
          obtain ⟨m, Hm⟩ : ∃ a, Hid (nA hb (ps.getD q 0) = a) := ⟨_, rfl⟩
          have hck : W1.cell? ⟨g, q, none⟩ = some (.int .i64 x) := by rw [← Hx.out, ← hcl q hql]; simp [World.cell?, hwq.out.1]
          have hgk := HW2.out W1 hwq.out.1 q hql
          rw [Ha.out] at hgk
          have HAk : Hid (∀ d, Calls Try.prog 20 #[.pointer (some ⟨A, 0, none⟩), .int .i64 x] (W1.drewN d) fun e w' => e = .returned (.int .i64 m) ∧ W1.drewN d = w') := fun d => by
            have := HAd4.out (W1.drewN d) (hwq.out.2.drewN d) q hql; rw [Hm.out, Hx.out] at this; exact this
          obtain ⟨c, HCn⟩ : ∃ c, Hid ((ps.take q).countP (fun p => !decide ((gA hb p).2.a = nA hb p)) = c) := ⟨_, rfl⟩
          have hcle : c ≤ q := by
            rw [← HCn.out]
            have := List.countP_le_length (p := fun p => !decide ((gA hb p).2.a = nA hb p)) (l := ps.take q)
            rw [List.length_take] at this; omega
          have hqp : q < ps.length := by rw [Hn.out]; exact hql
          have HCs : Hid ((ps.take (q + 1)).countP (fun p => !decide ((gA hb p).2.a = nA hb p)) = c + if a = m then 0 else 1) := by
            show _ = _
            have e0 : ps.getD q 0 = ps[q] := by rw [List.getD, List.getElem?_eq_getElem hqp, Option.getD_some]
            have e1 := Ha.out
            have e2 := Hm.out
            rw [e0] at e1 e2
            rw [List.take_succ_eq_append_getElem hqp, List.countP_append, HCn.out, List.countP_singleton, e1, e2]
            by_cases h : a = m <;> simp [h]
          rw [HCn.out]
          have s1 : (0 : Int) ≤ (q : Int) := by omega
          have s2 : (q : Int) < (k : Int) := by omega
          have s3 : (q : Int).toNat = q := by omega
          have HWq : Hid (∀ d, (W1.drewN d).heap = w4.heap ∧ Kept No w4 (W1.drewN d)) := fun d => ⟨hwq.out.1, hwq.out.2.drewN d⟩
          subst hg
          clear hcl
          by_cases ham : a = m
          · have f1 : ((m : Int) != (a : Int)) = false := by simp [ham]
            have HCs2 : Hid ((ps.take (q + 1)).countP (fun p => !decide ((gA hb p).2.a = nA hb p)) = c) := by have := HCs.out; rw [if_pos ham] at this; exact this
            clear ham HCs
            go_wp2_with fail
            go_quiet (first | (go_at_call 20; exact quiet_same (HAk.out _)))
            go_wp2_with fail
            try rw [World.drewN_drewN]
            go_loopw [12] (fun j wr => ∃ t : Nat, t ≤ q ∧ j = .int .i64 t ∧ Hid (wr.heap = w4.heap ∧ Kept No w4 wr)) (fun j _ => q - (intOf j).toNat)
            case atStart => exact ⟨0, Nat.zero_le _, rfl, HWq.out _⟩
            case round =>
              obtain ⟨t, ht, rfl, hwt⟩ := hrel
              by_cases htq : t < q
              · have htk : t < k := by omega
                obtain ⟨z, Hz⟩ : ∃ z : Int, Hid (((gA hb (ps.getD t 0)).1 : Int) = z) := ⟨_, rfl⟩
                obtain ⟨a2, Ha2⟩ : ∃ a, Hid ((gA hb (ps.getD t 0)).2.a = a) := ⟨_, rfl⟩
                obtain ⟨m2, Hm2⟩ : ∃ a, Hid (nA hb (ps.getD t 0) = a) := ⟨_, rfl⟩
                have HAq : Hid (∀ d, Calls Try.prog 20 #[.pointer (some ⟨A, 0, none⟩), .int .i64 x] (wr.drewN d) fun e w' => e = .returned (.int .i64 m) ∧ wr.drewN d = w') := fun d => by
                  have := HAd4.out (wr.drewN d) (hwt.out.2.drewN d) q hql; rw [Hm.out, Hx.out] at this; exact this
                have HAt : Hid (∀ d, Calls Try.prog 20 #[.pointer (some ⟨A, 0, none⟩), .int .i64 z] (wr.drewN d) fun e w' => e = .returned (.int .i64 m2) ∧ wr.drewN d = w') := fun d => by
                  have := HAd4.out (wr.drewN d) (hwt.out.2.drewN d) t htk; rw [Hm2.out, Hz.out] at this; exact this
                have hord := HO.out q t hql htk
                rw [Ha.out, Ha2.out, Hm.out, Hm2.out] at hord
                have c1 := HW2.out wr hwt.out.1 q hql
                have c2 := HW2.out wr hwt.out.1 t htk
                have c3 : wr.cell? ⟨g, q, none⟩ = some (.int .i64 x) := by rw [← Hx.out, ← HCl.out q hql]; simp [World.cell?, hwt.out.1]
                have c4 : wr.cell? ⟨g, t, none⟩ = some (.int .i64 z) := by rw [← Hz.out, ← HCl.out t htk]; simp [World.cell?, hwt.out.1]
                rw [Ha.out] at c1
                rw [Ha2.out] at c2
                have t1 : (0 : Int) ≤ (t : Int) := by omega
                have t2 : (t : Int) < (k : Int) := by omega
                have t3 : (t : Int).toNat = t := by omega
                have t4 : (t : Int) < (q : Int) := by omega
                have HWt : Hid (∀ d, (wr.drewN d).heap = w4.heap ∧ Kept No w4 (wr.drewN d)) := fun d => ⟨hwt.out.1, hwt.out.2.drewN d⟩
                have f4 : (!(decide (a < a2) == decide (m < m2))) = false := by
                  have hd : decide (a < a2) = decide (m < m2) := decide_eq_decide.2 hord
                  rw [hd]; cases decide (m < m2) <;> rfl
                clear hord
                go_wp2_with fail
                go_quiet (first | (go_at_call 20; with_reducible exact quiet_same (HAq.out _)) | (go_at_call 20; with_reducible exact quiet_same (HAt.out _)))
                go_wp2
                go_round
                case rel => exact ⟨t + 1, by omega, by go_num, HWt.out _⟩
                case measure => simp [intOf]; omega
              · have t4 : ¬ ((t : Int) < (q : Int)) := by omega
                go_wp2_with fail
                go_round
                case rel => exact ⟨q + 1, by omega, by go_num, (show Value.int .i64 (c : Int) = _ by rw [HCs2.out]), hwt.out⟩
                case measure => simp [intOf]; omega
          · have f1 : ((m : Int) != (a : Int)) = true := by simp; omega
            have HCs2 : Hid ((ps.take (q + 1)).countP (fun p => !decide ((gA hb p).2.a = nA hb p)) = c + 1) := by have := HCs.out; rw [if_neg ham] at this; exact this
            clear ham HCs
            go_wp2_with fail
            go_quiet (first | (go_at_call 20; exact quiet_same (HAk.out _)))
            go_wp2_with fail
            try rw [World.drewN_drewN]
            go_loopw [12] (fun j wr => ∃ t : Nat, t ≤ q ∧ j = .int .i64 t ∧ Hid (wr.heap = w4.heap ∧ Kept No w4 wr)) (fun j _ => q - (intOf j).toNat)
            case atStart => exact ⟨0, Nat.zero_le _, rfl, HWq.out _⟩
            case round =>
              obtain ⟨t, ht, rfl, hwt⟩ := hrel
              by_cases htq : t < q
              · have htk : t < k := by omega
                obtain ⟨z, Hz⟩ : ∃ z : Int, Hid (((gA hb (ps.getD t 0)).1 : Int) = z) := ⟨_, rfl⟩
                obtain ⟨a2, Ha2⟩ : ∃ a, Hid ((gA hb (ps.getD t 0)).2.a = a) := ⟨_, rfl⟩
                obtain ⟨m2, Hm2⟩ : ∃ a, Hid (nA hb (ps.getD t 0) = a) := ⟨_, rfl⟩
                have HAq : Hid (∀ d, Calls Try.prog 20 #[.pointer (some ⟨A, 0, none⟩), .int .i64 x] (wr.drewN d) fun e w' => e = .returned (.int .i64 m) ∧ wr.drewN d = w') := fun d => by
                  have := HAd4.out (wr.drewN d) (hwt.out.2.drewN d) q hql; rw [Hm.out, Hx.out] at this; exact this
                have HAt : Hid (∀ d, Calls Try.prog 20 #[.pointer (some ⟨A, 0, none⟩), .int .i64 z] (wr.drewN d) fun e w' => e = .returned (.int .i64 m2) ∧ wr.drewN d = w') := fun d => by
                  have := HAd4.out (wr.drewN d) (hwt.out.2.drewN d) t htk; rw [Hm2.out, Hz.out] at this; exact this
                have hord := HO.out q t hql htk
                rw [Ha.out, Ha2.out, Hm.out, Hm2.out] at hord
                have c1 := HW2.out wr hwt.out.1 q hql
                have c2 := HW2.out wr hwt.out.1 t htk
                have c3 : wr.cell? ⟨g, q, none⟩ = some (.int .i64 x) := by rw [← Hx.out, ← HCl.out q hql]; simp [World.cell?, hwt.out.1]
                have c4 : wr.cell? ⟨g, t, none⟩ = some (.int .i64 z) := by rw [← Hz.out, ← HCl.out t htk]; simp [World.cell?, hwt.out.1]
                rw [Ha.out] at c1
                rw [Ha2.out] at c2
                have t1 : (0 : Int) ≤ (t : Int) := by omega
                have t2 : (t : Int) < (k : Int) := by omega
                have t3 : (t : Int).toNat = t := by omega
                have t4 : (t : Int) < (q : Int) := by omega
                have HWt : Hid (∀ d, (wr.drewN d).heap = w4.heap ∧ Kept No w4 (wr.drewN d)) := fun d => ⟨hwt.out.1, hwt.out.2.drewN d⟩
                have f4 : (!(decide (a < a2) == decide (m < m2))) = false := by
                  have hd : decide (a < a2) = decide (m < m2) := decide_eq_decide.2 hord
                  rw [hd]; cases decide (m < m2) <;> rfl
                clear hord
                go_wp2_with fail
                go_quiet (first | (go_at_call 20; with_reducible exact quiet_same (HAq.out _)) | (go_at_call 20; with_reducible exact quiet_same (HAt.out _)))
                go_wp2
                go_round
                case rel => exact ⟨t + 1, by omega, by go_num, HWt.out _⟩
                case measure => simp [intOf]; omega
              · have t4 : ¬ ((t : Int) < (q : Int)) := by omega
                go_wp2_with fail
                go_round
                case rel => exact ⟨q + 1, by omega, by go_num, (show Value.int .i64 ((c : Int) + 1) = _ by rw [HCs2.out, Int.natCast_add]; rfl), hwt.out⟩
                case measure => simp [intOf]; omega
        · have he : q = k := by omega
          subst he
          have hall : ps.take q = ps := List.take_of_length_le (by rw [Hn.out]; exact Nat.le_refl _)
          rw [hall, HMv.out, HMv2.out]
          obtain ⟨S, HSm⟩ : ∃ S, Hid (sumS (nodes F hb) = S) := ⟨_, rfl⟩
          have hSs : S ≤ size := by rw [← HSm.out]; have := H2.out.1.geo.le; omega
          have hsz6 : size ≤ 65536 := H2.out.1.sz
          have e1 : topN (nodes F (cmpH 0 hb)) = S := by rw [nodes_cmpH, topN_comp 0 _ (by simp [nodes]), HSm.out, Nat.zero_add]
          have e2 : sumS (nodes F (cmpH 0 hb)) = S := by rw [nodes_cmpH, sumS_comp, HSm.out]
          have e3 : gm (nodes F (cmpH 0 hb)) size (nodes F (cmpH 0 hb)).length = ((size - S : Nat) : Int) := by rw [nodes_cmpH, gm_comp (by simp [nodes]) (by rw [HSm.out]; exact hSs), HSm.out]
          have e4 : mv (nodes F (cmpH 0 hb)) (nodes F (cmpH 0 hb)).length = 0 := by rw [nodes_cmpH]; exact mv_comp _ _
          have e5 : hsS (cmpH 0 hb) = hsS hb := by
            have : hs (cmpH 0 hb) = hs hb := by
              have := congrArg (List.map (fun n : Nat => (n : Int))) (cmpH_fst 0 hb)
              simpa [hs, List.map_map, Function.comp_def] using this
            unfold hsS; rw [this]
          have HT : Hid (∀ W, Rx w W A C M F f size least 80 cs4 (cmpH 0 hb) → Calls Try.prog 25 #[.pointer (some ⟨A, 0, none⟩)] W fun e w' => e = .returned (.int .i64 S) ∧ Kept No W w') := fun W hW => by have := Top_any W hW.1; rw [e1] at this; exact this
          have HLv : Hid (∀ W, Rx w W A C M F f size least 80 cs4 (cmpH 0 hb) → Calls Try.prog 24 #[.pointer (some ⟨A, 0, none⟩)] W fun e w' => e = .returned (.int .i64 S) ∧ Kept No W w') := fun W hW => by have := Live_rp W hW.1; rw [e2] at this; exact this
          have HGp : Hid (∀ W, Rx w W A C M F f size least 80 cs4 (cmpH 0 hb) → Calls Try.prog 32 #[.pointer (some ⟨A, 0, none⟩)] W fun e w' => e = .returned (.int .i64 ((size - S : Nat) : Int)) ∧ Kept No W w') := fun W hW => by have := Gap_rp W hW.1; rw [e3] at this; exact this
          have HCp : Hid (∀ W, Rx w W A C M F f size least 80 cs4 (cmpH 0 hb) → Calls Try.prog 31 #[.pointer (some ⟨A, 0, none⟩)] W fun e w' => e = .returned (.int .i64 0) ∧ Kept No w w') := fun W hW => by
            refine (Compact_rp W hW.1).mono ?_
            rintro e w' ⟨he, _, hk⟩
            rw [e4] at he
            exact ⟨he, hW.2.2.since hk hW.2.1⟩
          have HR : Hid (HR2 w4 (.slice so q cap2) (ps.map (gA hb))) := by
            refine ⟨⟨so, cap2, by rw [List.length_map, Hn.out], by rw [List.length_map, Hn.out]; exact hcap2, fun i hi => ?_⟩, fun g hg => ?_⟩
            · rw [List.length_map, Hn.out] at hi
              obtain ⟨g, hg, _, hcl⟩ := HC4.out i hi
              refine ⟨g, hg, fun j hj => ?_⟩
              have hj' : j < ps.length := by rw [List.length_map] at hj; exact hj
              rw [hcl j (by rw [← Hn.out]; exact hj'), List.getElem_map, List.getD, List.getElem?_eq_getElem hj', Option.getD_some]
            · refine Nat.lt_of_lt_of_le (HV.out.2.1 g ?_).2 hw24
              cases so with
              | none => cases hg
              | some ad => exact hg
          have HXl : Hid ((ps.map (gA hb)).length = (cmpH 0 hb).length ∧ hs (ps.map (gA hb)) = hsS (cmpH 0 hb)) := ⟨by rw [HV.out.2.2.1]; have := congrArg List.length (cmpH_fst 0 hb); simpa using this.symm, by rw [e5]; exact HV.out.2.2.2⟩
          have HB0 : Hid (Rx w wr A C M F f size least 80 cs4 (cmpH 0 hb) ∧ HR2 wr (.slice so q cap2) (ps.map (gA hb))) := ⟨H4.out.no hwq.out.2, HR.out.kept hwq.out.2⟩
          have u5 : IntKind.i64.wrap ((size : Int) - (S : Int)) = ((size - S : Nat) : Int) := by rw [IntKind.wrap_i64]; omega
          have u6 : (size : Int) - (S : Int) = ((size - S : Nat) : Int) := by omega
          clear e1 e2 e3 e4 e5
          go_wp2_with fail
          refine (HT.out _ HB0.out.1).mono ?_
          rintro e w5 ⟨rfl, hh⟩
          have HB5 : Hid (Rx w w5 A C M F f size least 80 cs4 (cmpH 0 hb) ∧ HR2 w5 (.slice so q cap2) (ps.map (gA hb))) := ⟨HB0.out.1.no hh, HB0.out.2.kept hh⟩
          clear hh HB0
          go_wp2_with fail
          refine (HLv.out _ HB5.out.1).mono ?_
          rintro e w6 ⟨rfl, hh⟩
          have HB6 : Hid (Rx w w6 A C M F f size least 80 cs4 (cmpH 0 hb) ∧ HR2 w6 (.slice so q cap2) (ps.map (gA hb))) := ⟨HB5.out.1.no hh, HB5.out.2.kept hh⟩
          clear hh HB5
          go_wp2_with fail
          refine (HGp.out _ HB6.out.1).mono ?_
          rintro e w7 ⟨rfl, hh⟩
          have HB7 : Hid (Rx w w7 A C M F f size least 80 cs4 (cmpH 0 hb) ∧ HR2 w7 (.slice so q cap2) (ps.map (gA hb))) := ⟨HB6.out.1.no hh, HB6.out.2.kept hh⟩
          clear hh HB6
          go_wp2_with fail
          refine (HLv.out _ HB7.out.1).mono ?_
          rintro e w8 ⟨rfl, hh⟩
          have HB8 : Hid (Rx w w8 A C M F f size least 80 cs4 (cmpH 0 hb) ∧ HR2 w8 (.slice so q cap2) (ps.map (gA hb))) := ⟨HB7.out.1.no hh, HB7.out.2.kept hh⟩
          clear hh HB7
          go_wp2_with fail
          refine (First_refused (w2 := w2) (f := f) HB8.out.1 HXl.out.1 HXl.out.2 HB8.out.2.1 HB8.out.2.2).mono ?_
          rintro e w9 ⟨v', rfl, y1, y2, y3⟩
          have HB9 : Hid (Rx w w9 A C M F f size least 80 cs4 (cmpH 0 hb)) := HB8.out.1.no y3
          have HI : Hid (Calls Try.prog 33 #[v', .slice so q cap2] w9 fun e w' => e = .returned (.bool true) ∧ Kept No w9 w') := Ints_same y1 y2 (by rw [List.length_map, Hn.out]; exact hnl)
          clear y1 y2 y3 HB8
          go_wp2_with fail
          refine HI.out.mono ?_
          rintro e w10 ⟨rfl, hh⟩
          have HB10 : Hid (Rx w w10 A C M F f size least 80 cs4 (cmpH 0 hb)) := HB9.out.no hh
          clear hh HB9
          go_wp2_with fail
          refine (HCp.out _ HB10.out).mono ?_
          rintro e w11 ⟨rfl, hh⟩
          have HB11 : Hid (Kept No w w11) := hh
          clear hh
          go_wp2_with fail
          refine (alive_any w11).mono ?_
          rintro e w12 ⟨rfl, hh⟩
          have HB12 : Hid (Kept No w w12) := HB11.out.trans hh
          clear hh
          go_wp2
          go_ret
          exact ⟨rfl, HB12.out⟩

theorem ArenaTight_any {L : List (Int × Int × Int × Int)} (size : Int) (v : Value) (w : World) (hL : Acts w v L) : Calls Try.prog 6 #[.int .i64 size, v] w fun e w' => e = .returned (.bool true) ∧ Below w.heap.size w w' :=
  (Tight_any size v L w hL).mono (fun e w' ⟨he, hk⟩ => ⟨he, hk.below (Nat.le_refl _) (fun k e => e.elim)⟩)
end Go.Proofs.Ytdaklohfecinjaa
