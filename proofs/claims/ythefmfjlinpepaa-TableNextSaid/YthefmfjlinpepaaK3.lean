/- TableNext: the walk. -/
import Derived.Test.YthefmfjlinpepaaK2
namespace Go.Proofs.Ythefmfjlinpepaa
open Go.RowKit Go.Shelf
set_option linter.unusedSimpArgs false
set_option linter.unusedVariables false
attribute [local go_sem] Oper.semAt_some

theorem no_any' (n : Int) (w : World) : Calls Try.prog 21 #[.int .i64 n] w fun e w' => e = .returned (.int .i64 n) ∧ w = w' := (no_any n w).mono (fun _ _ h => ⟨h.1, h.2.symm⟩)
/-- A value is appended; where the row lies. -/
theorem app_val2 {ops : Array Oper} {rest : List Oper} {o : Oper} {a : Act} {Q : Exit → Act → World → Prop} {w : World} (hgd : o.guard = none) (s x : Operand)
    (ho : o.op = .call { callee := .builtin .append, args := #[s, x], argTypes := #[26, 26] }) (base : Nat) (v : Value) (L : List (Int × Int)) (hs : a.eval s = v) (hrow : VRow w base v L)
    (N : Nat) (e : Int × Int) (hx : a.eval x = .slice (some ⟨N, 0, none⟩) 1 1) (hN : w.heap[N]? = some (.cells #[.int .i64 e.1, .int .i64 e.2] 33 (0, 0))) (hlen : L.length + 1 ≤ 1000000) (hbase : base ≤ w.heap.size)
    (h : ∀ v' w', Hid (VRow w' base v' (L ++ [e])) → Hid (w.grownBy w' v.ownBlock) → Hid (v'.ownBlock = v.ownBlock ∨ v'.ownBlock = some w.heap.size) → wpList Try.prog ops Q rest (a.put o.dst v') w') : wpList Try.prog ops Q (o :: rest) a w := by
  obtain ⟨i0, hi, hz0, hz1, hz2⟩ := info_parts info33
  refine wpList_append_own_at _ hgd s x 26 ho base 33 i0 _ 2 16 Try.underlying26 hi hz0 hz1 hz2 rfl (by decide) v L.length (ic (flatV L)) hs hrow ⟨N, 0, none⟩ 1 1 (ic (flatV [e])) hx rfl ?_ (ic_one _)
      (by unfold maxLen; omega) (by omega) hbase ?_
  · intro j u hu
    have hc := cell_of hN
    rcases j with _ | _ | j
    · simp [ic, flatV] at hu; subst hu; simpa [Addr.add] using hc 0
    · simp [ic, flatV] at hu; subst hu; simpa [Addr.add] using hc 1
    · simp [ic, flatV] at hu
  · intro v' w' h1 h2 h3 h4
    refine h v' w' ?_ h2 h4
    show World.ownsRow _ _ _ _ _ _ _
    rw [List.length_append, flatV_append, ic_append]; exact h1

set_option maxRecDepth 100000 in
set_option maxHeartbeats 4000000 in
theorem TableNext_any (v : Value) (L : List Ac) (w : World) (hL : Acts w v L) :
    Calls Try.prog 5 #[v] w fun e w' => e = .returned (.bool true) ∧ Kept No w w' := by
  have HM : Hid (Calls Try.prog 16 #[v] w fun e w' => e = .returned (MP w.heap.size) ∧ ReS w w' w.heap.size 400 (playR 400 (L.take 80)) 40000) := made_any v L w hL
  have hlen := playR_len 400 L 80
  have hwf := play_wf L 80 (Nat.le_refl _)
  obtain ⟨ao, cap, rfl, hwx, hcl⟩ := hL
  have HW : Hid (∀ a ∈ L, I64 a.k.2 ∧ I64 a.v.2 ∧ I64 a.i ∧ I64 a.k.1 ∧ I64 a.v.1) := hwx
  have HC : Hid (0 < L.length → ∃ b off, ao = some ⟨b, off, none⟩ ∧ ∀ i a, L[i]? = some a →
    w.cell? ⟨b, off + i * 6, none⟩ = some (.int .i64 a.kind) ∧ w.cell? ⟨b, off + i * 6 + 1, none⟩ = some (.int .i64 a.k.1) ∧ w.cell? ⟨b, off + i * 6 + 2, none⟩ = some (.int .i64 a.k.2) ∧ w.cell? ⟨b, off + i * 6 + 3, none⟩ = some (.int .i64 a.v.1) ∧ w.cell? ⟨b, off + i * 6 + 4, none⟩ = some (.int .i64 a.v.2) ∧ w.cell? ⟨b, off + i * 6 + 5, none⟩ = some (.int .i64 a.i)) := hcl
  clear hwx hcl
  generalize playR 400 (L.take 80) = s at HM hlen hwf
  obtain ⟨a, n, sl⟩ := s
  simp only at hlen hwf
  have HM' : Hid (Calls Try.prog 16 #[.slice ao L.length cap] w fun e w' => e = .returned (MP w.heap.size) ∧ Re w w' w.heap.size 400 a n sl 40000) := HM.out
  obtain ⟨E, HEd⟩ : ∃ E, Hid (ents a n sl 0 = E) := ⟨_, show _ = _ from rfl⟩
  have HE8 : Hid (E.length ≤ 80) := by show _ ≤ _; rw [← HEd.out]; exact hlen
  have HWf : Hid (Wf a n sl) := hwf
  have HNd : Hid ((E.map Prod.fst).Nodup) := by show List.Nodup _; rw [← HEd.out]; exact ents_nodup hwf
  clear HM hlen hwf
  have hfd := fd33
  go_enter Try.func5, Try.ntmps5
  go_wp2_with fail
  refine HM'.out.mono ?_
  rintro e w1 ⟨rfl, h1⟩
  have R1 : Hid (Re w w1 w.heap.size 400 a n sl 40000) := h1
  have HI64 : Hid (∀ e ∈ E, I64 e.1.2) := by
    obtain ⟨nn, _, ht⟩ := h1.tb
    intro e he
    rw [← HEd.out] at he
    exact (ents_i64 ht.bd.1 ht.bd.2 h1.is 0 (by omega) e he).1
  clear h1 HM'
  have HNx0 : Hid (nextR a n sl 0 0 = (cur E 0, 0)) := by show _ = _; rw [next_nil, HEd.out]; rfl
  go_wp2_with fail
  refine (R1.out.nexts 0 0 (by constructor <;> decide) _ HNx0.out).mono ?_
  rintro e w2 ⟨rfl, hk2⟩
  have R2 : Hid (Re w w2 w.heap.size 400 a n sl 40000) := R1.out.no hk2
  clear hk2 R1 HNx0
  obtain ⟨c0, hc0⟩ : ∃ c0, c0 = cur E 0 := ⟨_, rfl⟩
  have HC0 : Hid (c0 = cur E 0) := hc0
  rw [← hc0]
  clear hc0
  obtain ⟨⟨p1, p2⟩, p3, p4⟩ := c0
  have X2' : Hid (XB w w.heap.size a n sl (.slice none 0 0) (ks E 0) w2.heap.size ((p1, p2), p3, p4) ((w2.alloc (.cells #[.int .i64 p1, .int .i64 p2] 33)).alloc (.cells #[.int .i64 p3, .int .i64 p4] 33))) := by
    refine ⟨R2.out.no (((Kept.refl _ _).alloc _).alloc _), VRow.nil _ _, heap_old (heap_new1 _ _) _, ?_, fun k e => (by cases e), R2.out.kp.size⟩
    have := heap_new1 (w2.alloc (.cells #[.int .i64 p1, .int .i64 p2] 33)) (.cells #[.int .i64 p3, .int .i64 p4] 33); rw [World.size_alloc] at this; exact this
  have X2 : Hid (XB w w.heap.size a n sl (.slice none 0 0) (ks E 0) w2.heap.size (cur E 0) ((w2.alloc (.cells #[.int .i64 p1, .int .i64 p2] 33)).alloc (.cells #[.int .i64 p3, .int .i64 p4] 33))) := by
    show XB _ _ _ _ _ _ _ _ _ _
    rw [← HC0.out]; exact X2'.out
  clear X2' R2 HC0
  go_wp2_with fail
  generalize (w2.alloc _).alloc _ = w3 at X2 ⊢
  generalize w2.heap.size = Bk at X2 ⊢
  go_loopw [4, 7, 8] (fun um er ii wr => ∃ (i : Nat) (u : Value), i ≤ E.length ∧ ii = .int .i64 i ∧ er = .int .i64 0 ∧ u = um ∧ Hid (XB w w.heap.size a n sl u (ks E i) Bk (cur E i) wr)) (fun _ _ ii _ => E.length - (intOf ii).toNat)
  case atStart => exact ⟨0, _, Nat.zero_le _, rfl, rfl, rfl, X2.out⟩
  case round =>
    obtain ⟨i, u, hi, rfl, rfl, rfl, X⟩ := hrel
    have hi8 : (i : Int) ≤ 80 := by have := HE8.out; omega
    by_cases hlt : i < E.length
    · obtain ⟨c, hc⟩ : ∃ c, E[i]? = some c := ⟨E[i]'hlt, List.getElem?_eq_getElem _⟩
      have HCu : Hid (cur E i = c) := cur_at hc
      rw [HCu.out] at X
      have hcm := List.mem_of_getElem? hc
      obtain ⟨hnk, hv0', hgv⟩ := ents_gv HWf.out (by rw [HEd.out]; exact hcm)
      have HNx : Hid (nextR a n sl c.1.1 c.1.2 = (cur E (i + 1), 0)) := by
        show _ = _
        have := next_at HWf.out (i := i) (e := c) (by rw [HEd.out]; exact hc)
        rw [HEd.out] at this
        exact this
      have HGt0 : Hid (getR a n sl c.1.1 c.1.2 = c.2) := by
        show _ = _
        rw [getR_gv, hnk.b, if_pos rfl]
        have : kyP (c.1.1, c.1.2) = c.1 := hnk.p
        rw [this]; exact hgv
      have HI0 : I64 c.1.2 := HI64.out c hcm
      have HKs : Hid (ks E (i + 1) = ks E i ++ [c.1]) := ks_succ hc
      have HAp : Hid (∀ p x, p < i → (ks E i)[p]? = some x → x ≠ c.1) := fun p x hp hx => ks_apart HNd.out hc hp hx
      have hne := hnk.ne
      have hkl := ks_len hi
      obtain ⟨⟨k1, k2⟩, v1, v2⟩ := c
      simp only at HNx HGt0 HI0 hne hv0' HKs HAp
      have HGt : Hid (getR a n sl k1 k2 = (v1, v2)) := HGt0.out
      have HK2 : Hid (I64 k2) := HI0
      have hk0 : (k1 == 0) = false := by simpa using hne
      have hk0' : (k1 != 0) = true := by simpa using hne
      have hv0 : (v1 == 0) = false := by simpa using hv0'
      clear HCu hc hcm hnk hv0' hgv HGt0 HI0 hne
      obtain ⟨s0, s1, s2, s3, sf, sg⟩ := X.out.cells
      simp only at s0 s1 s2 s3
      go_wp2_with (go_at_call 21; refine (no_any' 0 _).mono ?_; rintro e w' ⟨rfl, rfl⟩)
      clear s0 s1 s2 s3 sf sg
      obtain ⟨V1, hV1⟩ : ∃ V1, V1 = wr := ⟨_, rfl⟩
      rw [← hV1] at X ⊢
      clear hV1
      have hRL : Hid (∀ W, Below V1.heap.size V1 W → XB w w.heap.size a n sl u (ks E i) Bk ((k1, k2), v1, v2) W) := fun W hW => X.out.no (Kept.of_below hW)
      refine region_quiet_class (C := fun w' => Below V1.heap.size V1 w') (by kernel_rfl) (by kernel_rfl) (Below.refl _ _).drew ?_
      refine q_op (.pointer (some ⟨Bk + 1, 0, none⟩)) (by kernel_rfl) (fun W hW => by simp [go_sem]) ?_
      try simp only [Act.put, List.setIfInBounds_toArray, List.set_cons_zero, List.set_cons_succ]
      refine q_op (.int .i64 v1) (by kernel_rfl) (fun W hW => by obtain ⟨r0, r1, r2, r3, _, _⟩ := (hRL.out W hW).cells; simp [go_sem, r2]) ?_
      try simp only [Act.put, List.setIfInBounds_toArray, List.set_cons_zero, List.set_cons_succ]
      refine q_op (.bool false) (by kernel_rfl) (fun W hW => by simp [go_sem, hv0]) ?_
      try simp only [Act.put, List.setIfInBounds_toArray, List.set_cons_zero, List.set_cons_succ]
      refine q_op (.bool false) (by kernel_rfl) (fun W hW => by simp [go_sem]) ?_
      try simp only [Act.put, List.setIfInBounds_toArray, List.set_cons_zero, List.set_cons_succ]
      refine q_op (MP w.heap.size) (by kernel_rfl) (fun W hW => by simp [go_sem]) ?_
      try simp only [Act.put, List.setIfInBounds_toArray, List.set_cons_zero, List.set_cons_succ]
      refine q_op (MI w.heap.size) (by kernel_rfl) (fun W hW => by simp [go_sem]) ?_
      try simp only [Act.put, List.setIfInBounds_toArray, List.set_cons_zero, List.set_cons_succ]
      refine q_op (AV k1 k2) (by kernel_rfl) (fun W hW => by obtain ⟨r0, r1, r2, r3, _, _⟩ := (hRL.out W hW).cells; simp [go_sem, r0, r1]) ?_
      try simp only [Act.put, List.setIfInBounds_toArray, List.set_cons_zero, List.set_cons_succ]
      refine q_call 19 #[MI w.heap.size, AV k1 k2] (AV v1 v2) (by kernel_rfl) (fun W hW => by simp [go_sem]) (fun W hW => ((hRL.out W hW).re.get k1 k2 HK2.out (v1, v2) HGt.out).mono (fun e w3 ⟨he, hb⟩ => ⟨he, Below.trans hW ((hb.below (Nat.le_refl _) (fun _ x => x.elim)).mono (Below.size hW))⟩)) ?_
      try simp only [Act.put, List.setIfInBounds_toArray, List.set_cons_zero, List.set_cons_succ]
      refine q_op (AV v1 v2) (by kernel_rfl) (fun W hW => by obtain ⟨r0, r1, r2, r3, _, _⟩ := (hRL.out W hW).cells; simp [go_sem, r2, r3]) ?_
      try simp only [Act.put, List.setIfInBounds_toArray, List.set_cons_zero, List.set_cons_succ]
      refine q_op (.bool false) (by kernel_rfl) (fun W hW => by simp [go_sem, eq33]) ?_
      try simp only [Act.put, List.setIfInBounds_toArray, List.set_cons_zero, List.set_cons_succ]
      refine q_op (.bool false) (by kernel_rfl) (fun W hW => by simp [go_sem]) ?_
      try simp only [Act.put, List.setIfInBounds_toArray, List.set_cons_zero, List.set_cons_succ]
      refine wpQuiet_nil ?_
      intro V2 H2
      have X2 : Hid (XB w w.heap.size a n sl u (ks E i) Bk ((k1, k2), v1, v2) V2) := hRL.out _ H2
      clear H2 hRL X HGt
      obtain ⟨ao2, c2, hu⟩ := X2.out.row.form
      rw [hkl] at hu
      subst hu
      go_wp2_with fail
      go_loopw [9] (fun pp wr => ∃ p : Nat, p ≤ i ∧ pp = .int .i64 p ∧ Hid (Kept No V2 wr)) (fun pp _ => i - (intOf pp).toNat)
      case atStart => exact ⟨0, Nat.zero_le _, rfl, Kept.refl _ _⟩
      case round =>
        obtain ⟨p, hp, rfl, HKp⟩ := hrel
        have X3 : Hid (XB w w.heap.size a n sl (.slice ao2 i c2) (ks E i) Bk ((k1, k2), v1, v2) wr) := X2.out.no HKp.out
        obtain ⟨s0, s1, s2, s3, sf, sg⟩ := X3.out.cells
        simp only at s0 s1 s2 s3
        by_cases hlp : p < i
        · have kp0 : (0 : Int) ≤ (p : Int) := by omega
          have kp : (p : Int) < (i : Int) := by omega
          obtain ⟨x, hx⟩ : ∃ x, (ks E i)[p]? = some x := ⟨(ks E i)[p]'(by omega), List.getElem?_eq_getElem _⟩
          have hne := HAp.out p x hlp hx
          obtain ⟨b2, c3, h1, g0, g1⟩ := X3.out.row.at hx
          injection h1 with e1 e2 e3
          clear hx e2 e3
          subst e1
          obtain ⟨x1, x2⟩ := x
          simp only at g0 g1
          have heq : ∀ w, (Op.equalIn 10000 33 (.agg #[.int .i64 x1, .int .i64 x2]) (.agg #[.int .i64 k1, .int .i64 k2])).run Try.prog w = .ok false w := fun w => (eq33 x1 x2 k1 k2 w).trans (by rw [decide_eq_false hne])
          clear hne sf sg s2 s3
          go_wp2_with fail
          go_quiet (fail)
          have HK4 : Hid (Kept No V2 (wr.drewN nq)) := HKp.out.drewN nq
          clear heq g0 g1 s0 s1 X3 HKp
          go_wp2
          go_roundw
          case rel => exact ⟨p + 1, by omega, by go_num, HK4.out⟩
          case measure => simp [intOf]; omega
        · have kp : ¬ (p : Int) < (i : Int) := by omega
          obtain ⟨V3, hV3⟩ : ∃ V3, V3 = wr := ⟨_, rfl⟩
          rw [← hV3] at X3 s0 s1 s2 s3 sf sg ⊢
          clear hV3 HKp X2 hlp
          have hz3 : w.heap.size ≤ V3.heap.size := X3.out.re.kp.size
          go_wp2_with (refine app_val2 rfl (.tmp 64) (.tmp 66) rfl w.heap.size (.slice ao2 i c2) (ks E i) rfl (World.ownsRow.alloc X3.out.row _) V3.heap.size (k1, k2) rfl (heap_new1 V3 _) (by omega) (by simp; omega) ?_)
          intro v' V4 HR HG HV
          have X4 : Hid (XB w w.heap.size a n sl v' (ks E (i + 1)) Bk ((k1, k2), v1, v2) V4) := X3.out.app (by rw [HKs.out]; exact HR.out) HG.out HV.out
          clear HR HG HV X3 s0 s1 s2 s3 sf sg hz3
          obtain ⟨s0, s1, s2, s3, sf, sg⟩ := X4.out.cells
          simp only at s0 s1 s2 s3
          go_wp2_with fail
          refine (X4.out.re.nexts k1 k2 HK2.out _ HNx.out).mono ?_
          rintro e V5 ⟨rfl, hk5⟩
          have X5 := X4.out.no hk5
          have X6 : Hid (XB w w.heap.size a n sl v' (ks E (i + 1)) Bk (cur E (i + 1)) ((((V5.setCell ⟨Bk, 0, none⟩ (.int .i64 (cur E (i + 1)).1.1)).setCell ⟨Bk, 1, none⟩ (.int .i64 (cur E (i + 1)).1.2)).setCell ⟨Bk + 1, 0, none⟩ (.int .i64 (cur E (i + 1)).2.1)).setCell ⟨Bk + 1, 1, none⟩ (.int .i64 (cur E (i + 1)).2.2))) := X5.turn _
          clear s0 s1 s2 s3 sf sg
          obtain ⟨s0, s1, s2, s3, sf, sg⟩ := X5.cells
          simp only at s0 s1 s2 s3
          clear hk5 X4 X5
          obtain ⟨cc, hcc⟩ : ∃ cc, cc = cur E (i + 1) := ⟨_, rfl⟩
          have HCC : Hid (cc = cur E (i + 1)) := hcc
          rw [← hcc] at X6 ⊢
          clear hcc HNx
          obtain ⟨⟨p1, p2⟩, p3, p4⟩ := cc
          go_wp2
          go_roundw
          case rel => exact ⟨i + 1, v', by omega, by go_num, rfl, rfl, by rw [← HCC.out]; exact X6.out⟩
          case measure => simp [intOf]; omega
    · obtain rfl : i = E.length := by omega
      rw [cur_end] at X
      obtain ⟨s0, s1, s2, s3, sf, sg⟩ := X.out.cells
      simp only at s0 s1 s2 s3
      have hz0 : ((0 : Int) != 0) = false := by decide
      obtain ⟨V1, hV1⟩ : ∃ V1, V1 = wr := ⟨_, rfl⟩
      rw [← hV1] at X s0 s1 s2 s3 sf sg ⊢
      clear hV1
      obtain ⟨N, HNn⟩ : ∃ N, Hid (N = E.length) := ⟨_, show _ = _ from rfl⟩
      have HKS : Hid (ks E E.length = E.map Prod.fst) := by show _ = _; unfold ks; rw [List.take_length]
      rw [HKS.out] at X
      obtain ⟨ao2, c2, hu⟩ := X.out.row.form
      rw [List.length_map, ← HNn.out] at hu
      subst hu
      rw [← HNn.out] at hi8 ⊢
      go_wp2_with (go_at_call 21; refine (no_any' 0 _).mono ?_; rintro e w' ⟨rfl, rfl⟩)
      clear s0 s1 s2 s3 sf sg
      go_loopw [10] (fun jj wr => ∃ j : Nat, j ≤ L.length ∧ j ≤ 80 ∧ jj = .int .i64 j ∧ Hid (Kept No V1 wr)) (fun jj _ => L.length - (intOf jj).toNat)
      case atStart => exact ⟨0, Nat.zero_le _, by omega, rfl, Kept.refl _ _⟩
      case round =>
        obtain ⟨j, hj, hj8, rfl, HKj⟩ := hrel
        by_cases hltj : j < L.length
        · have j1 : (0 : Int) ≤ (j : Int) := by omega
          have j2 : (j : Int) < (L.length : Int) := by omega
          by_cases h80 : j < 80
          · have j3 : (j : Int) < 80 := by omega
            obtain ⟨b, off, rfl, hcell⟩ := HC.out (by omega)
            obtain ⟨x, hx⟩ : ∃ x, L[j]? = some x := ⟨L[j]'hltj, List.getElem?_eq_getElem _⟩
            have HD0 := hcell j x hx
            have HWx := HW.out x (List.mem_of_getElem? hx)
            obtain ⟨kd, ⟨x1, x2⟩, ⟨y1, y2⟩, ii⟩ := x
            simp only at HD0 HWx
            have HX2 : Hid (I64 x2) := HWx.1
            have HD : Hid (∀ W, Kept No w W → W.cell? ⟨b, off + j * 6 + 1, none⟩ = some (.int .i64 x1) ∧ W.cell? ⟨b, off + j * 6 + 2, none⟩ = some (.int .i64 x2)) := fun W hW => ⟨hW.cell HD0.2.1, hW.cell HD0.2.2.1⟩
            clear hcell hx HD0 HWx
            obtain ⟨mb, hmb⟩ : ∃ mb, mb = keyB x1 x2 := ⟨_, rfl⟩
            obtain ⟨z, hz⟩ : ∃ z, z = rkV x1 x2 := ⟨_, rfl⟩
            have HIn : Hid (inR mb z (E.map Prod.fst) = ((getR a n sl x1 x2).1 != 0)) := by
              show _ = _
              rw [hmb, ← HEd.out]
              exact in_get HWf.out x1 x2 z (fun h => by rw [hz]; unfold rkV; rw [if_pos h])
            have HRK : Hid (∀ W, Calls Try.prog 17 #[AV x1 x2] W fun e w' => e = .returned (.tuple #[iV z, .bool mb]) ∧ Below W.heap.size W w') := by
              intro W; rw [hmb, hz]; exact RK_any x1 x2 W
            clear hmb hz
            obtain ⟨z1, z2⟩ := z
            have HKw : Hid (∀ W, Kept No V1 W → Kept No w W) := fun W hW => X.out.re.kp.trans hW
            obtain ⟨d1, d2⟩ := HD.out _ (HKw.out _ HKj.out)
            go_wp2_with fail
            refine (HRK.out _).mono ?_
            rintro e V6 ⟨rfl, hb6⟩
            have hk6 := HKj.out.trans (Kept.of_below hb6)
            have X7 : Hid (XB w w.heap.size a n sl (.slice ao2 N c2) (E.map Prod.fst) Bk ((0, 0), 0, 0) (V6.alloc (.cells #[.int .i64 z1, .int .i64 z2] 33)) ∧ (V6.alloc (.cells #[.int .i64 z1, .int .i64 z2] 33)).heap[V6.heap.size]? = some (.cells #[.int .i64 z1, .int .i64 z2] 33 (0, 0)) ∧ Kept No V1 (V6.alloc (.cells #[.int .i64 z1, .int .i64 z2] 33))) := ⟨(X.out.no hk6).no ((Kept.refl _ _).alloc _), heap_new1 _ _, hk6.trans ((Kept.refl _ _).alloc _)⟩
            clear hb6 hk6 HKj d1 d2 HRK
            go_wp2_with fail
            generalize V6.alloc _ = V7 at X7 ⊢
            generalize V6.heap.size = Bz at X7 ⊢
            go_loopw [13, 14] (fun bb pp wr => ∃ p : Nat, p ≤ N ∧ pp = .int .i64 p ∧ bb = .bool (inR mb (z1, z2) ((E.map Prod.fst).take p)) ∧ Hid (Kept No V7 wr)) (fun _ pp _ => N - (intOf pp).toNat)
            case atStart => exact ⟨0, Nat.zero_le _, rfl, by rw [List.take_zero]; unfold inR; cases mb <;> rfl, Kept.refl _ _⟩
            case round =>
              obtain ⟨p, hp, rfl, rfl, HKp⟩ := hrel
              by_cases hlp : p < N
              · have p1 : (0 : Int) ≤ (p : Int) := by omega
                have p2 : (p : Int) < (N : Int) := by omega
                obtain ⟨x, hx⟩ : ∃ x, (E.map Prod.fst)[p]? = some x := ⟨(E.map Prod.fst)[p]'(by rw [List.length_map, ← HNn.out]; exact hlp), List.getElem?_eq_getElem _⟩
                have HSn : Hid (inR mb (z1, z2) ((E.map Prod.fst).take (p + 1)) = (inR mb (z1, z2) ((E.map Prod.fst).take p) || (mb && decide (x = (z1, z2))))) := by
                  show _ = _
                  rw [List.take_add_one, hx]
                  exact inR_snoc _ _ _ _
                obtain ⟨b2, c3, h1, g0, g1⟩ := (X7.out.1.no HKp.out).row.at hx
                injection h1 with e1 e2 e3
                clear hx e2 e3
                subst e1
                have hbz := HKp.out.heap X7.out.2.1 id
                have z0 : wr.cell? ⟨Bz, 0, none⟩ = some (.int .i64 z1) := by rw [cell_of hbz]; rfl
                have z0' : wr.cell? ⟨Bz, 1, none⟩ = some (.int .i64 z2) := by rw [cell_of hbz]; rfl
                clear hbz
                obtain ⟨y1', y2'⟩ := x
                simp only at g0 g1
                generalize hib : inR mb (z1, z2) ((E.map Prod.fst).take p) = ib at HSn ⊢
                clear hib
                cases ib
                · cases mb
                  · have HS2 : Hid (inR false (z1, z2) ((E.map Prod.fst).take (p + 1)) = false) := HSn.out
                    clear HSn
                    go_wp2_with fail
                    go_quiet (fail)
                    have HK4 : Hid (Kept No V7 (wr.drewN nq)) := HKp.out.drewN nq
                    clear g0 g1 z0 z0' HKp
                    go_wp2
                    go_roundw
                    case rel => exact ⟨p + 1, by omega, by go_num, by rw [HS2.out], HK4.out⟩
                    case measure => simp [intOf]; omega
                  · obtain ⟨eb, heb⟩ : ∃ eb, eb = decide ((y1', y2') = (z1, z2)) := ⟨_, rfl⟩
                    rw [← heb] at HSn
                    have heq : ∀ w, (Op.equalIn 10000 33 (.agg #[.int .i64 y1', .int .i64 y2']) (.agg #[.int .i64 z1, .int .i64 z2])).run Try.prog w = .ok eb w := fun w => (eq33 y1' y2' z1 z2 w).trans (by rw [heb])
                    have HS2 : Hid (inR true (z1, z2) ((E.map Prod.fst).take (p + 1)) = eb) := by show _ = _; rw [HSn.out]; cases eb <;> rfl
                    clear HSn heb
                    go_wp2_with fail
                    go_quiet (fail)
                    have HK4 : Hid (Kept No V7 (wr.drewN nq)) := HKp.out.drewN nq
                    clear g0 g1 z0 z0' HKp heq
                    go_wp2
                    go_roundw
                    case rel => exact ⟨p + 1, by omega, by go_num, by rw [HS2.out], HK4.out⟩
                    case measure => simp [intOf]; omega
                · have HS2 : Hid (inR mb (z1, z2) ((E.map Prod.fst).take (p + 1)) = true) := by show _ = _; rw [HSn.out]; rfl
                  clear HSn
                  go_wp2_with fail
                  go_quiet (fail)
                  have HK4 : Hid (Kept No V7 (wr.drewN nq)) := HKp.out.drewN nq
                  clear g0 g1 z0 z0' HKp
                  go_wp2
                  go_roundw
                  case rel => exact ⟨p + 1, by omega, by go_num, by rw [HS2.out], HK4.out⟩
                  case measure => simp [intOf]; omega
              · have p2 : ¬ (p : Int) < (N : Int) := by omega
                obtain ⟨V8, hV8⟩ : ∃ V8, V8 = wr := ⟨_, rfl⟩
                rw [← hV8] at HKp ⊢
                clear hV8
                have HK8 : Hid (Kept No V1 V8) := X7.out.2.2.trans HKp.out
                have X8 := X7.out.1.no HKp.out
                obtain ⟨d1, d2⟩ := HD.out _ (HKw.out _ HK8.out)
                have e0 : (E.map Prod.fst).take p = E.map Prod.fst := by rw [List.take_of_length_le (by rw [List.length_map, ← HNn.out]; omega)]
                rw [e0, HIn.out]
                obtain ⟨g, hg⟩ : ∃ g, getR a n sl x1 x2 = g := ⟨_, rfl⟩
                have HG := X8.re.get x1 x2 HX2.out g hg
                rw [hg]
                have HG' : Hid _ := HG
                clear HG hg e0 X8 HKp X7 HIn hp hlp
                obtain ⟨g1, g2⟩ := g
                have hbb : ((g1 != 0) != (g1 != 0)) = false := by cases (g1 != 0) <;> rfl
                simp only
                cases hgz : (g1 == 0)
                all_goals (
                  have hgz' : (g1 != 0) = !(g1 == 0) := rfl
                  rw [hgz] at hgz'
                  simp only [Bool.not_true, Bool.not_false] at hgz'
                  rw [hgz']
                  go_wp2_with fail
                  refine Calls.mono HG'.out ?_
                  rintro e V9 ⟨rfl, hk9⟩
                  have HK9 : Hid (Kept No V1 V9) := HK8.out.trans hk9
                  clear hk9 HG' HK8 d1 d2
                  go_wp2
                  go_roundw
                  case rel => exact ⟨j + 1, by omega, by omega, by go_num, HK9.out⟩
                  case measure => simp [intOf]; omega)
          · have j3 : ¬ (j : Int) < 80 := by omega
            go_wp2_with fail
            refine (alive_any _).mono ?_
            rintro e wE ⟨rfl, hkE⟩
            have HEE : Hid (Kept No w wE) := (X.out.re.kp.trans HKj.out).trans hkE
            clear hkE
            go_wp2
            go_ret
            exact ⟨rfl, HEE.out⟩
        · have j2 : ¬ (j : Int) < (L.length : Int) := by omega
          go_wp2_with fail
          refine (alive_any _).mono ?_
          rintro e wE ⟨rfl, hkE⟩
          have HEE : Hid (Kept No w wE) := (X.out.re.kp.trans HKj.out).trans hkE
          clear hkE
          go_wp2
          go_ret
          exact ⟨rfl, HEE.out⟩
end Go.Proofs.Ythefmfjlinpepaa
