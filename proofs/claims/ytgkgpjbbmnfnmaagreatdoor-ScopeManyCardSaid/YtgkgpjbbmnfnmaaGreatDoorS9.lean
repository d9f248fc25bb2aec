/- Scope: names become known, in memory. -/
import Derived.Test.YtgkgpjbbmnfnmaaGreatDoorS8
import Derived.BigQuiet
namespace Go.Proofs.YtgkgpjbbmnfnmaaGreatDoor
open Go.RowKit
set_option linter.unusedSimpArgs false
set_option linter.unusedVariables false

theorem quiet_same {P : Program} {f : FuncId} {args : Array Value} {w : World} {n : Nat} {v : Value}
    (h : Calls P f args (w.drewN n) fun e w' => e = .returned v ∧ w.drewN n = w') : Calls P f args (w.drewN n) fun e w'' => e = .returned v ∧ ∃ m, w'' = w.drewN m :=
  h.mono fun _ _ ⟨he, hm⟩ => ⟨he, n, hm.symm⟩
theorem vstore_op {o : Oper} {a : Act} {w : World} {T : Nat} {x y : Tmp} {p q c d : Int} (hp : o.op = .store 89 (.tmp x) (.tmp y)) (e : a.eval (.tmp x) = .pointer (some ⟨T, 0, none⟩)) (e2 : a.eval (.tmp y) = .agg #[.int .i64 p, .int .i64 q]) (h : w.heap[T]? = some (.cells #[.int .i64 c, .int .i64 d] 89 (0, 0))) :
    (execOp a.eval o).run Tryz.prog w = .ok .skip ((w.setCell ⟨T, 0, none⟩ (.int .i64 p)).setCell ⟨T, 1, none⟩ (.int .i64 q)) := by
  have c0 := cell_of h 0
  have c1 := cell_of h 1
  have f0 := frozen_of h 0
  have f1 := frozen_of h 1
  simp only [List.getElem?_toArray, List.getElem?_cons_zero, List.getElem?_cons_succ] at c0 c1
  unfold execOp
  rw [hp]
  simp only [e, e2]
  go_simp
theorem valloc_op {o : Oper} {a : Act} {w : World} (hp : o.op = .alloc 89) : (execOp a.eval o).run Tryz.prog w = .ok (.value (.pointer (some ⟨w.heap.size, 0, none⟩))) (w.alloc (.cells #[.int .i64 0, .int .i64 0] 89)) := by
  unfold execOp
  rw [hp]
  go_simp
theorem seven_c {w : World} {b o : Nat} {k : Int} {t : ByteArray} {vt vn n : Int} {sv : Value} {a : Int} (h : ∀ i, i < 7 → w.cell? ⟨b, o + i, none⟩ = (ncs k t vt vn n sv a)[i]?) : w.cell? ⟨b, o, none⟩ = some (.int .i64 k) ∧ w.cell? ⟨b, o + 1, none⟩ = some (.string t) ∧ w.cell? ⟨b, o + 2, none⟩ = some (.int .i64 vt) ∧ w.cell? ⟨b, o + 3, none⟩ = some (.int .i64 vn) ∧ w.cell? ⟨b, o + 4, none⟩ = some (.int .i64 n) ∧ w.cell? ⟨b, o + 5, none⟩ = some sv ∧ w.cell? ⟨b, o + 6, none⟩ = some (.int .i64 a) :=
  ⟨h 0 (by omega), h 1 (by omega), h 2 (by omega), h 3 (by omega), h 4 (by omega), h 5 (by omega), h 6 (by omega)⟩
theorem LsA.at {S : Nat → Prop} {w : World} {ao : Option Addr} {l : List Tr} (h : LsA S w ao l) (j : Nat) (hj : j < l.length) : ∃ b o k t vt vn n l' a ao' ln' cp', ao = some ⟨b, o, none⟩ ∧ ¬ S b ∧ l[j] = .mk k t vt vn n l' a ∧ NodeIs S w (.mk k t vt vn n l' a) (ncs k t vt vn n (.slice ao' ln' cp') a) ∧
    (w.cell? ⟨b, o + j * 7, none⟩ = some (.int .i64 k) ∧ w.cell? ⟨b, o + j * 7 + 1, none⟩ = some (.string t) ∧ w.cell? ⟨b, o + j * 7 + 2, none⟩ = some (.int .i64 vt) ∧ w.cell? ⟨b, o + j * 7 + 3, none⟩ = some (.int .i64 vn) ∧ w.cell? ⟨b, o + j * 7 + 4, none⟩ = some (.int .i64 n) ∧ w.cell? ⟨b, o + j * 7 + 5, none⟩ = some (.slice ao' ln' cp') ∧ w.cell? ⟨b, o + j * 7 + 6, none⟩ = some (.int .i64 a)) := by
  obtain ⟨b, o, e, hb, cs, h1, h2⟩ := h j hj
  obtain ⟨x, hx⟩ : ∃ x, l[j] = x := ⟨_, rfl⟩
  rw [hx] at h1
  obtain ⟨k, t, vt, vn, n, l', a⟩ := x
  obtain ⟨sv, rfl, hl⟩ := NodeIs.cs.1 h1
  obtain ⟨ao', ln', cp', rfl⟩ := slice_of hl
  exact ⟨b, o, k, t, vt, vn, n, l', a, ao', ln', cp', e, hb, hx, h1, seven_c h2⟩
theorem lrn_step (l : List Tr) (s : St) (j : Nat) (hj : j < l.length) {k : Int} {t : ByteArray} {vt vn n : Int} {l' : List Tr} {a : Int} (e : l[j] = .mk k t vt vn n l' a) : lrnS (l.take (j + 1)) s = nameS (lrnS (l.take j) s) a t := by
  unfold lrnS
  rw [List.take_succ_eq_append_getElem hj, List.foldl_append, e]
  rfl
theorem Rz.err {R0 N B : Nat} {w : World} {r sb M nm : Nat} {v u : Value} {s : St} (h : Rz R0 N B w r sb M nm v u s) : True := trivial
theorem Rv.box' {w w' : World} {r sb M nm B : Nat} {v u : Value} {s s' : St} (h : Rv w r sb M nm B v u s) (hk : Kept (fun b => b = r) w w') (hb : w'.heap[r]? = some (.cells (RCs sb M u s').toArray 69 (0, 0))) (e1 : s'.stk = s.stk) (e2 : s'.us = s.us) (e3 : s'.far = s.far) : Rv w' r sb M nm B v u s' := by
  obtain ⟨es, mc, hm⟩ := h.map.blk
  refine ⟨hb, ⟨hk.heap h.stk.box (fun e => apart h.stk.box h.box (by decide) e), ?_, h.stk.lt, Nat.le_trans h.stk.le hk.size⟩, ?_, ?_, h.lt⟩
  · rw [e1]
    obtain ⟨o1, o2 | ⟨g, cap, cur, o3, o4, o5, o6⟩⟩ := h.stk.row
    · exact ⟨o1, .inl o2⟩
    · exact ⟨o1, .inr ⟨g, cap, cur, o3, o4, hk.heap o5 (fun e => apart o5 h.box (by decide) e), o6⟩⟩
  · rw [e2]
    obtain ⟨o1, o2 | ⟨g, cap, cur, o3, o4, o5, o6⟩⟩ := h.row
    · exact ⟨o1, .inl o2⟩
    · exact ⟨o1, .inr ⟨g, cap, cur, o3, o4, hk.heap o5 (fun e => apart o5 h.box (by decide) e), o6⟩⟩
  · rw [e3]
    exact h.map.kept hk (fun e => apart_map h.box hm e.symm)
theorem PassR.box {r sb M : Nat} {v u : Value} {w w' : World} (h : Kept (fun b => b = r) w w') : PassR r sb M v u w v u w' := ⟨h.mono (fun b e => .inl e), fun b hb => .inl (hb.elim (fun e => .inr (.inr (.inr (.inl e)))) (fun e => .inr (.inr (.inr (.inr e)))))⟩
/-- The stack has turned. -/
theorem Rv.stk' {w w' : World} {r sb M nm B : Nat} {v u v' : Value} {s : St} {l : List Ent} (h : Rv w r sb M nm B v u s) (hs : Sk w' B sb v' l) (hp : PassK sb v w v' w') : Rv w' r sb M nm B v' u { s with stk := l } ∧ PassR r sb M v u w v' u w' := by
  obtain ⟨es, mc, hm⟩ := h.map.blk
  have key : ∀ {b : Nat} {c : Array Value} {t : TypeId} {f : Nat × Nat}, w.heap[b]? = some (.cells c t f) → t ≠ 122 → t ≠ 124 → ¬ OutK sb v b := fun hb h1 h2 e => by
    rcases e with rfl | e
    · exact apart hb h.stk.box h1 rfl
    · obtain ⟨c2, hm⟩ := row_blk h.stk.row e
      exact apart hb hm h2 rfl
  refine ⟨⟨hp.kept.heap h.box (key h.box (by decide) (by decide)), hs, ?_, h.map.kept hp.kept ?_, h.lt⟩, ⟨hp.kept.mono (fun b e => e.elim (fun e => .inr (.inl e)) (fun e => .inr (.inr (.inr (.inl e))))), fun b hb => ?_⟩⟩
  · obtain ⟨o1, o2 | ⟨g, cap, cur, o3, o4, o5, o6⟩⟩ := h.row
    · exact ⟨o1, .inl o2⟩
    · exact ⟨o1, .inr ⟨g, cap, cur, o3, o4, hp.kept.heap o5 (key o5 (by decide) (by decide)), o6⟩⟩
  · rintro (e | e)
    · exact apart_map h.stk.box hm e.symm
    · obtain ⟨c2, hm2⟩ := row_blk h.stk.row e
      exact apart_map hm2 hm rfl
  · rcases hb with e | e
    · rcases hp.own with q | q
      · exact .inl (.inr (.inr (.inr (.inl (by rw [← q]; exact e)))))
      · exact .inr (q b e)
    · exact .inl (.inr (.inr (.inr (.inr e))))

set_option maxRecDepth 20000 in
set_option maxHeartbeats 4000000 in
theorem learn_any {R0 N B : Nat} {w : World} {r sb M nm : Nat} {v u : Value} {s : St} (h : Rz R0 N B w r sb M nm v u s) {ao : Option Addr} (cp : Nat) {l : List Tr} (hl : LsA (fun b => R0 ≤ b) w ao l) (hn : N + l.length ≤ 90000) :
    Calls Tryz.prog 39 #[PT r, .slice ao l.length cp] w (WR R0 (N + l.length) B w r sb M v u (lrnS l s)) := by
  have HL : Hid (LsA (fun b => R0 ≤ b) w ao l) := hl
  have H0 : Hid (Rz R0 N B w r sb M nm v u s) := h
  obtain ⟨n, HN⟩ : ∃ n, Hid (l.length = n) := ⟨_, show _ = _ from rfl⟩
  rw [HN.out] at hn ⊢
  clear h hl
  go_enter Tryz.func39, Tryz.ntmps39
  go_wp2_with fail
  go_loopw [9] (fun i wr => ∃ (j : Nat) (v' u' : Value) (nm' : Nat), j ≤ n ∧ i = .int .i64 (j : Int) ∧ Hid (Rz R0 (N + j) B wr r sb M nm' v' u' (lrnS (l.take j) s)) ∧ Hid (PassR r sb M v u w v' u' wr)) (fun i _ => n - (intOf i).toNat)
  case atStart => exact ⟨0, v, u, nm, by omega, rfl, H0.out, PassR.no (Kept.refl _ _)⟩
  case round =>
    obtain ⟨j, v', u', nm', hj, rfl, HR, HP⟩ := hrel
    by_cases hlt : j < n
    · have k1 : (j : Int) < (n : Int) := by omega
      have j1 : j < l.length := by rw [HN.out]; exact hlt
      have hlow := HP.out.low H0.out.hz H0.out.le
      obtain ⟨b, o, xk, xt, xvt, xvn, xn, xl, xa, yo, yln, yc, rfl, hb, hx, hX, x0, x1, x2, x3, x4, x5, x6⟩ := (HL.out.kept hlow.1).at j j1
      have HStep : Hid (lrnS (l.take (j + 1)) s = nameS (lrnS (l.take j) s) xa xt) := lrn_step l s j j1 hx
      obtain ⟨S1, HS1⟩ : ∃ S1, Hid (lrnS (l.take j) s = S1) := ⟨_, show _ = _ from rfl⟩
      rw [HS1.out] at HR HStep
      obtain ⟨W0, HW0⟩ : ∃ W0, Hid (wr.alloc (.cells (ncs xk xt xvt xvn xn (.slice yo yln yc) xa).toArray 43) = W0) := ⟨_, show _ = _ from rfl⟩
      obtain ⟨T, HT⟩ : ∃ T, Hid (wr.heap.size = T) := ⟨_, show _ = _ from rfl⟩
      have k0 : Kept No wr W0 := by rw [← HW0.out]; exact (Kept.refl No wr).alloc _
      have b0 : W0.heap[T]? = some (.cells (ncs xk xt xvt xvn xn (.slice yo yln yc) xa).toArray 43 (0, 0)) := by rw [← HT.out]; exact HW0.out ▸ World.alloc_heap_new wr _
      have H1 : Hid (Rz R0 (N + j) B W0 r sb M nm' v' u' S1 ∧ PassR r sb M v u w v' u' W0 ∧ W0.heap[T]? = some (.cells (ncs xk xt xvt xvn xn (.slice yo yln yc) xa).toArray 43 (0, 0))) := ⟨HR.out.no k0, HP.out.trans (.no k0), b0⟩
      have HSm : Hid (Sml (N + j) S1) := H1.out.1.sml
      have HC : Hid (∀ m, Calls Tryz.prog 64 #[.pointer (some ⟨sb, 0, none⟩)] (W0.drewN m) fun e w' => e = .returned (.int .i64 (S1.stk.length : Int)) ∧ W0.drewN m = w') := fun m => size_any (H1.out.1.rv.stk.no ((Kept.refl No W0).drewN m))
      obtain ⟨c0, c1, c2, c3, c4, c5, c6, c7, c8, c9, c10, c11⟩ := RC_cells H1.out.1.rv.box
      have fz := fun o => frozen_of H1.out.1.rv.box o
      have w1 : wrap64 ((S1.stk.length : Int) - S1.base) = (S1.stk.length : Int) - S1.base := by unfold wrap64; have := H1.out.1.sml.stk; have := H1.out.1.sml.base; omega
      have v0 := cell_of H1.out.2.2 6
      simp only [ncs, List.getElem?_toArray, List.getElem?_cons_zero, List.getElem?_cons_succ] at v0
      unfold kf at c0 c1 c2 c3
      clear k0 b0 hX hb hx hlow HR HP
      unfold ncs at HW0
      go_wp2_with (first | rw [HW0.out])
      rw [HT.out]
      clear HW0 x0 x1 x2 x3 x4 x5 x6
      obtain ⟨E, HE⟩ : ∃ E, Hid (errS S1 xa = E) := ⟨_, show _ = _ from rfl⟩
      have hcase : ((S1.err == 0) = false) ∨ ((S1.err == 0) = true ∧ ((S1.stk.length : Int) - S1.base == 60) = false) ∨ ((S1.err == 0) = true ∧ ((S1.stk.length : Int) - S1.base == 60) = true) := by
        cases (S1.err == 0) <;> cases ((S1.stk.length : Int) - S1.base == 60) <;> simp
      have kst : ∀ m, Kept No W0 (W0.drewN m) := fun m => (Kept.refl _ W0).drewN m
      have HK : Hid (∀ m, Kept No W0 (W0.drewN m)) := kst
      clear kst
      rcases hcase with q1 | ⟨q1, q2⟩ | ⟨q1, q2⟩
      case' inl =>
        go_quiet (fail)
        go_wp2_with fail
        have HX : Hid (Rz R0 (N + j) B (W0.drewN nq) r sb M nm' v' u' E ∧ PassR r sb M v u w v' u' (W0.drewN nq) ∧ (W0.drewN nq).heap[T]? = some (.cells (ncs xk xt xvt xvn xn (.slice yo yln yc) xa).toArray 43 (0, 0))) := by
          have e : E = S1 := by rw [← HE.out]; unfold errS; rw [q1]; rfl
          rw [e]
          exact ⟨H1.out.1.no (HK.out _), H1.out.2.1.trans (.no (HK.out _)), (HK.out nq).heap H1.out.2.2 id⟩
        generalize W0.drewN nq = X at HX ⊢
        clear q1 c0 c1 c2 c3 c4 c5 c6 c7 c8 c9 c10 c11 v0 w1 fz HC HK
      case' inr.inl =>
        go_quiet (first | (go_at_call 64; exact quiet_same (HC.out _)))
        go_wp2_with fail
        have HX : Hid (Rz R0 (N + j) B (W0.drewN nq) r sb M nm' v' u' E ∧ PassR r sb M v u w v' u' (W0.drewN nq) ∧ (W0.drewN nq).heap[T]? = some (.cells (ncs xk xt xvt xvn xn (.slice yo yln yc) xa).toArray 43 (0, 0))) := by
          have e : E = S1 := by rw [← HE.out]; unfold errS; rw [q1, q2]; rfl
          rw [e]
          exact ⟨H1.out.1.no (HK.out _), H1.out.2.1.trans (.no (HK.out _)), (HK.out nq).heap H1.out.2.2 id⟩
        generalize W0.drewN nq = X at HX ⊢
        clear q1 q2 c0 c1 c2 c3 c4 c5 c6 c7 c8 c9 c10 c11 v0 w1 fz HC HK
      case' inr.inr =>
        go_quiet (first | (go_at_call 64; exact quiet_same (HC.out _)))
        go_wp2_with fail
        have HX : Hid (Rz R0 (N + j) B (((W0.drewN nq).setCell ⟨r, 10, none⟩ (.int .i64 xa)).setCell ⟨r, 11, none⟩ (.int .i64 4)) r sb M nm' v' u' E ∧ PassR r sb M v u w v' u' (((W0.drewN nq).setCell ⟨r, 10, none⟩ (.int .i64 xa)).setCell ⟨r, 11, none⟩ (.int .i64 4)) ∧ (((W0.drewN nq).setCell ⟨r, 10, none⟩ (.int .i64 xa)).setCell ⟨r, 11, none⟩ (.int .i64 4)).heap[T]? = some (.cells (ncs xk xt xvt xvn xn (.slice yo yln yc) xa).toArray 43 (0, 0))) := by
          have e : E = { S1 with at' := xa, err := 4 } := by rw [← HE.out]; unfold errS; rw [q1, q2]; rfl
          rw [e]
          have hb := set_same (set_same ((HK.out nq).heap H1.out.1.rv.box id) 10 (.int .i64 xa)) 11 (.int .i64 4)
          have kk : Kept (fun b => b = r) W0 (((W0.drewN nq).setCell ⟨r, 10, none⟩ (.int .i64 xa)).setCell ⟨r, 11, none⟩ (.int .i64 4)) := (((HK.out nq).no (T := fun b => b = r)).set r 10 _ (.inl rfl)).set r 11 _ (.inl rfl)
          have hs := H1.out.1.sml
          exact ⟨⟨H1.out.1.rv.box' kk hb rfl rfl rfl, H1.out.1.nm, H1.out.1.hz, ⟨hs.stk, hs.us, hs.far, hs.num, hs.base, hs.made, hs.cnt, hs.ent, hs.use⟩, Nat.le_trans H1.out.1.le kk.size⟩, H1.out.2.1.trans (.box kk), kk.heap H1.out.2.2 (apart H1.out.2.2 H1.out.1.rv.box (by decide))⟩
        generalize ((W0.drewN nq).setCell ⟨r, 10, none⟩ (.int .i64 xa)).setCell ⟨r, 11, none⟩ (.int .i64 4) = X at HX ⊢
        clear q1 q2 c0 c1 c2 c3 c4 c5 c6 c7 c8 c9 c10 c11 v0 w1 fz HC HK
      all_goals
        have kd : Kept No X X.drew := (Kept.refl No X).drew
        have HY : Hid (Rz R0 (N + j) B X.drew r sb M nm' v' u' E ∧ PassR r sb M v u w v' u' X.drew ∧ X.drew.heap[T]? = some (.cells (ncs xk xt xvt xvn xn (.slice yo yln yc) xa).toArray 43 (0, 0))) := ⟨HX.out.1.no kd, HX.out.2.1.trans (.no kd), kd.heap HX.out.2.2 id⟩
        clear kd HX H1
        obtain ⟨c0, c1, c2, c3, c4, c5, c6, c7, c8, c9, c10, c11⟩ := RC_cells HY.out.1.rv.box
        refine regionU (fun Y => Y.cell? ⟨r, 4, none⟩ = some (.int .i64 E.num) ∧ Y.cell? ⟨r, 6, none⟩ = some (.int .i64 E.made)) 12 ⟨c4, c6⟩ (fun hSS => ?_)
        generalize X.drew = Y at HY hSS c4 c6 ⊢
        clear c0 c1 c2 c3 c5 c7 c8 c9 c10 c11
        refine tkU 0 (PT r) rfl hSS ?_ (hy := by rintro w' ⟨g1, g2⟩; go_simp)
        try simp only [Act.put, List.setIfInBounds_toArray, List.set_cons_zero, List.set_cons_succ, List.getElem_toArray, List.getElem_cons_zero, List.getElem_cons_succ]
        refine tkU 1 (PT r) rfl hSS ?_ (hy := by rintro w' ⟨g1, g2⟩; go_simp)
        try simp only [Act.put, List.setIfInBounds_toArray, List.set_cons_zero, List.set_cons_succ, List.getElem_toArray, List.getElem_cons_zero, List.getElem_cons_succ]
        refine tkU 2 (.pointer (some ⟨r, 4, none⟩)) rfl hSS ?_ (hy := by rintro w' ⟨g1, g2⟩; go_simp)
        try simp only [Act.put, List.setIfInBounds_toArray, List.set_cons_zero, List.set_cons_succ, List.getElem_toArray, List.getElem_cons_zero, List.getElem_cons_succ]
        refine tkU 3 (.pointer (some ⟨r, 4, none⟩)) rfl hSS ?_ (hy := by rintro w' ⟨g1, g2⟩; go_simp)
        try simp only [Act.put, List.setIfInBounds_toArray, List.set_cons_zero, List.set_cons_succ, List.getElem_toArray, List.getElem_cons_zero, List.getElem_cons_succ]
        refine tkU 4 (.int .i64 E.num) rfl hSS ?_ (hy := by rintro w' ⟨g1, g2⟩; go_simp)
        try simp only [Act.put, List.setIfInBounds_toArray, List.set_cons_zero, List.set_cons_succ, List.getElem_toArray, List.getElem_cons_zero, List.getElem_cons_succ]
        refine tkU 5 (PT r) rfl hSS ?_ (hy := by rintro w' ⟨g1, g2⟩; go_simp)
        try simp only [Act.put, List.setIfInBounds_toArray, List.set_cons_zero, List.set_cons_succ, List.getElem_toArray, List.getElem_cons_zero, List.getElem_cons_succ]
        refine tkU 6 (PT r) rfl hSS ?_ (hy := by rintro w' ⟨g1, g2⟩; go_simp)
        try simp only [Act.put, List.setIfInBounds_toArray, List.set_cons_zero, List.set_cons_succ, List.getElem_toArray, List.getElem_cons_zero, List.getElem_cons_succ]
        refine tkU 7 (.pointer (some ⟨r, 4, none⟩)) rfl hSS ?_ (hy := by rintro w' ⟨g1, g2⟩; go_simp)
        try simp only [Act.put, List.setIfInBounds_toArray, List.set_cons_zero, List.set_cons_succ, List.getElem_toArray, List.getElem_cons_zero, List.getElem_cons_succ]
        refine tkU 8 (.pointer (some ⟨r, 6, none⟩)) rfl hSS ?_ (hy := by rintro w' ⟨g1, g2⟩; go_simp)
        try simp only [Act.put, List.setIfInBounds_toArray, List.set_cons_zero, List.set_cons_succ, List.getElem_toArray, List.getElem_cons_zero, List.getElem_cons_succ]
        refine tkU 9 (.int .i64 E.made) rfl hSS ?_ (hy := by rintro w' ⟨g1, g2⟩; go_simp)
        try simp only [Act.put, List.setIfInBounds_toArray, List.set_cons_zero, List.set_cons_succ, List.getElem_toArray, List.getElem_cons_zero, List.getElem_cons_succ]
        refine tkU 10 (.agg #[.int .i64 E.num, .int .i64 E.made]) rfl hSS ?_ (hy := by rintro w' ⟨g1, g2⟩; go_simp)
        try simp only [Act.put, List.setIfInBounds_toArray, List.set_cons_zero, List.set_cons_succ, List.getElem_toArray, List.getElem_cons_zero, List.getElem_cons_succ]
        refine rdO (i := 11) (p := .alloc 89) ⟨_, rfl, rfl, rfl, rfl, rfl⟩ (fun oo K hd hp ht hK => ?_) (by kernel_rfl)
        unfold Oper.wp
        rw [valloc_op hp]
        have ka : Kept No Y (Y.alloc (.cells #[.int .i64 0, .int .i64 0] 89)) := (Kept.refl No Y).alloc _
        have hZ := World.alloc_heap_new Y (.cells #[.int .i64 0, .int .i64 0] 89)
        refine hK _ _ (fun _ => ⟨kept_cell ka id c4, kept_cell ka id c6⟩) ?_
        rw [hd]
        clear hK K hd hp ht oo hSS
        try simp only [Act.put, List.setIfInBounds_toArray, List.set_cons_zero, List.set_cons_succ, List.getElem_toArray, List.getElem_cons_zero, List.getElem_cons_succ]
        refine rdO (i := 12) (p := .store 89 (.tmp 6) (.tmp 51)) ⟨_, rfl, rfl, rfl, rfl, rfl⟩ (fun oo K hd hp ht hK => ?_) (by kernel_rfl)
        unfold Oper.wp
        rw [vstore_op hp rfl rfl hZ]
        refine hK _ _ (fun e => absurd rfl e) ?_
        rw [hd]
        clear hK K hd hp ht oo
        try simp only [Act.put, List.setIfInBounds_toArray, List.set_cons_zero, List.set_cons_succ, List.getElem_toArray, List.getElem_cons_zero, List.getElem_cons_succ]
        have HZ : Hid (∀ A Z, Y.heap.size = A → ((Y.alloc (.cells #[.int .i64 0, .int .i64 0] 89)).setCell ⟨A, 0, none⟩ (.int .i64 E.num)).setCell ⟨A, 1, none⟩ (.int .i64 E.made) = Z → Rz R0 (N + j) B Z r sb M nm' v' u' E ∧ PassR r sb M v u w v' u' Z ∧ Z.heap[T]? = some (.cells (ncs xk xt xvt xvn xn (.slice yo yln yc) xa).toArray 43 (0, 0)) ∧ Z.heap[A]? = some (.cells #[.int .i64 E.num, .int .i64 E.made] 89 (0, 0))) := fun A Z eA eZ => by
          subst eA eZ
          have kz : Kept No Y (((Y.alloc (.cells #[.int .i64 0, .int .i64 0] 89)).setCell ⟨Y.heap.size, 0, none⟩ (.int .i64 E.num)).setCell ⟨Y.heap.size, 1, none⟩ (.int .i64 E.made)) := (ka.set _ 0 _ (.inr (Nat.le_refl _))).set _ 1 _ (.inr (Nat.le_refl _))
          exact ⟨HY.out.1.no kz, HY.out.2.1.trans (.no kz), kz.heap HY.out.2.2 id, set_same (set_same hZ 0 _) 1 _⟩
        clear c4 c6 hZ ka
        obtain ⟨Z, eZ⟩ : ∃ Z, ((Y.alloc (.cells #[.int .i64 0, .int .i64 0] 89)).setCell ⟨Y.heap.size, 0, none⟩ (.int .i64 E.num)).setCell ⟨Y.heap.size, 1, none⟩ (.int .i64 E.made) = Z := ⟨_, rfl⟩
        have HZ1 : Hid _ := HZ.out _ _ rfl eZ
        rw [eZ]
        clear eZ HZ HY
        generalize Y.heap.size = A at HZ1 ⊢
        refine dnU ?_ (by kernel_rfl) _
        obtain ⟨c0, c1, c2, c3, c4, c5, c6, c7, c8, c9, c10, c11⟩ := RC_cells HZ1.out.1.rv.box
        have f6 := frozen_of HZ1.out.1.rv.box 6
        have hm := HZ1.out.1.sml.made
        have w2 : wrap64 (E.made + 1) = E.made + 1 := by unfold wrap64; omega
        clear c0 c1 c2 c3 c4 c5 c7 c8 c9 c10 c11 hm
        go_wp2_with fail
        clear c6 f6 w2
        have kr : Kept (fun b => b = r) Z (Z.setCell ⟨r, 6, none⟩ (.int .i64 (E.made + 1))).drew := ((Kept.refl (fun b => b = r) Z).set r 6 _ (.inl rfl)).drew
        have HV : Hid (Rv (Z.setCell ⟨r, 6, none⟩ (.int .i64 (E.made + 1))).drew r sb M nm' B v' u' { E with made := E.made + 1 } ∧ PassR r sb M v u w v' u' (Z.setCell ⟨r, 6, none⟩ (.int .i64 (E.made + 1))).drew ∧ (Z.setCell ⟨r, 6, none⟩ (.int .i64 (E.made + 1))).drew.heap[T]? = some (.cells (ncs xk xt xvt xvn xn (.slice yo yln yc) xa).toArray 43 (0, 0)) ∧ (Z.setCell ⟨r, 6, none⟩ (.int .i64 (E.made + 1))).drew.heap[A]? = some (.cells #[.int .i64 E.num, .int .i64 E.made] 89 (0, 0))) :=
          ⟨HZ1.out.1.rv.box' kr (set_same HZ1.out.1.rv.box 6 (.int .i64 (E.made + 1))) rfl rfl rfl, HZ1.out.2.1.trans (.box kr), kr.heap HZ1.out.2.2.1 (apart HZ1.out.2.2.1 HZ1.out.1.rv.box (by decide)), kr.heap HZ1.out.2.2.2 (apart HZ1.out.2.2.2 HZ1.out.1.rv.box (by decide))⟩
        have HM : Hid (Sml (N + j) E ∧ nm' ≤ N + j) := ⟨HZ1.out.1.sml, HZ1.out.1.nm⟩
        clear kr HZ1
        obtain ⟨c0, c1, c2, c3, c4, c5, c6, c7, c8, c9, c10, c11⟩ := RC_cells HV.out.1.box
        have t1 := cell_of HV.out.2.2.1 1
        have a0 := cell_of HV.out.2.2.2 0
        have a1 := cell_of HV.out.2.2.2 1
        simp only [ncs, List.getElem?_toArray, List.getElem?_cons_zero, List.getElem?_cons_succ] at t1 a0 a1
        unfold kf at c0
        refine regionU (fun Y => Y.cell? ⟨r, 0, none⟩ = some (.func (.func 63) #[] #[PT sb]) ∧ Y.cell? ⟨T, 1, none⟩ = some (.string xt) ∧ Y.cell? ⟨A, 0, none⟩ = some (.int .i64 E.num) ∧ Y.cell? ⟨A, 1, none⟩ = some (.int .i64 E.made)) 8 ⟨c0, t1, a0, a1⟩ (fun hSS => ?_)
        generalize (Z.setCell ⟨r, 6, none⟩ (.int .i64 (E.made + 1))).drew = Y at HV hSS ⊢
        clear c0 c1 c2 c3 c4 c5 c6 c7 c8 c9 c10 c11 t1 a0 a1
        refine tkU 0 (PT r) rfl hSS ?_ (hy := by rintro w' ⟨g1, g2, g3, g4⟩; go_simp)
        try simp only [Act.put, List.setIfInBounds_toArray, List.set_cons_zero, List.set_cons_succ, List.getElem_toArray, List.getElem_cons_zero, List.getElem_cons_succ]
        refine tkU 1 (PT r) rfl hSS ?_ (hy := by rintro w' ⟨g1, g2, g3, g4⟩; go_simp)
        try simp only [Act.put, List.setIfInBounds_toArray, List.set_cons_zero, List.set_cons_succ, List.getElem_toArray, List.getElem_cons_zero, List.getElem_cons_succ]
        refine tkU 2 (.pointer (some ⟨r, 0, none⟩)) rfl hSS ?_ (hy := by rintro w' ⟨g1, g2, g3, g4⟩; go_simp)
        try simp only [Act.put, List.setIfInBounds_toArray, List.set_cons_zero, List.set_cons_succ, List.getElem_toArray, List.getElem_cons_zero, List.getElem_cons_succ]
        refine tkU 3 (.pointer (some ⟨r, 0, none⟩)) rfl hSS ?_ (hy := by rintro w' ⟨g1, g2, g3, g4⟩; go_simp)
        try simp only [Act.put, List.setIfInBounds_toArray, List.set_cons_zero, List.set_cons_succ, List.getElem_toArray, List.getElem_cons_zero, List.getElem_cons_succ]
        refine tkU 4 (.func (.func 63) #[] #[.pointer (some ⟨sb, 0, none⟩)]) rfl hSS ?_ (hy := by rintro w' ⟨g1, g2, g3, g4⟩; go_simp)
        try simp only [Act.put, List.setIfInBounds_toArray, List.set_cons_zero, List.set_cons_succ, List.getElem_toArray, List.getElem_cons_zero, List.getElem_cons_succ]
        refine tkU 5 (.pointer (some ⟨T, 1, none⟩)) rfl hSS ?_ (hy := by rintro w' ⟨g1, g2, g3, g4⟩; go_simp)
        try simp only [Act.put, List.setIfInBounds_toArray, List.set_cons_zero, List.set_cons_succ, List.getElem_toArray, List.getElem_cons_zero, List.getElem_cons_succ]
        refine tkU 6 (.string xt) rfl hSS ?_ (hy := by rintro w' ⟨g1, g2, g3, g4⟩; go_simp)
        try simp only [Act.put, List.setIfInBounds_toArray, List.set_cons_zero, List.set_cons_succ, List.getElem_toArray, List.getElem_cons_zero, List.getElem_cons_succ]
        refine tkU 7 (.agg #[.int .i64 E.num, .int .i64 E.made]) rfl hSS ?_ (hy := by rintro w' ⟨g1, g2, g3, g4⟩; go_simp)
        try simp only [Act.put, List.setIfInBounds_toArray, List.set_cons_zero, List.set_cons_succ, List.getElem_toArray, List.getElem_cons_zero, List.getElem_cons_succ]
        have HP : Hid _ := push_any HV.out.1.stk xt E.num E.made (by have := HM.out.1.stk; show E.stk.length ≤ _; omega)
        refine rdU 8 rfl (fun K hK => ?_)
        go_simp
        refine Calls.mono HP.out ?_
        rintro e W5 ⟨rfl, v2, hs2, hp2⟩
        obtain ⟨hrv, hpass⟩ := HV.out.1.stk' hs2 hp2
        have hT5 := hpass.kept.heap HV.out.2.2.1 (HV.out.1.other HV.out.2.2.1 (by decide) (by decide) (by decide) (by decide))
        have hA5 := hpass.kept.heap HV.out.2.2.2 (HV.out.1.other HV.out.2.2.2 (by decide) (by decide) (by decide) (by decide))
        have H5 : Hid (Rv W5 r sb M nm' B v2 u' { E with made := E.made + 1, stk := E.stk ++ [⟨xt, E.num, E.made⟩] } ∧ PassR r sb M v u w v2 u' W5) := ⟨hrv, HV.out.2.1.trans hpass⟩
        refine hK.out _ _ (fun e => absurd rfl e) ?_
        clear hK K hs2 hp2 hrv hpass HP HV hSS
        try simp only [Act.put, List.setIfInBounds_toArray, List.set_cons_zero, List.set_cons_succ, List.getElem_toArray, List.getElem_cons_zero, List.getElem_cons_succ]
        refine dnU ?_ (by kernel_rfl) _
        have y0 := cell_of hT5 0
        have y1 := cell_of hT5 1
        have y2 := cell_of hT5 2
        have y3 := cell_of hT5 3
        have y4 := cell_of hT5 4
        have y5 := cell_of hT5 5
        have y6 := cell_of hT5 6
        have a0 := cell_of hA5 0
        have a1 := cell_of hA5 1
        simp only [ncs, List.getElem?_toArray, List.getElem?_cons_zero, List.getElem?_cons_succ] at y0 y1 y2 y3 y4 y5 y6 a0 a1
        clear hT5 hA5
        go_wp2_with fail
        have hm := HM.out.1
        refine Calls.mono (use_any H5.out.1 xk xt xvt xvn xn yo yln yc xa E.num E.made (wf_of hm.num.1 (by have := hm.num.2; omega)) (wf_of hm.made.1 (by have := hm.made.2; omega)) (by have := HM.out.2; omega) (by have := hm.us; show E.us.length ≤ _; omega) ⟨(hm.far _ _).1, by have := (hm.far E.num E.made).2; show E.far _ _ ≤ _; omega⟩) ?_
        rintro e W6 ⟨rfl, u2, nm2, hn2, hrv, hpass⟩
        have HF : Hid (Rz R0 (N + (j + 1)) B W6 r sb M nm2 v2 u2 (lrnS (l.take (j + 1)) s) ∧ PassR r sb M v u w v2 u2 W6) := by
          have hp := H5.out.2.trans hpass
          have hl := hp.low H0.out.hz H0.out.le
          rw [HStep.out]
          have e : nameS S1 xa xt = useS { E with made := E.made + 1, stk := E.stk ++ [⟨xt, E.num, E.made⟩] } xa xt E.num E.made := by
            unfold nameS
            obtain ⟨e1, e2, e3, e4, e5, e6, e7⟩ := errS_eq S1 xa
            rw [HE.out] at e1 e4 e6 ⊢
            rw [← e1, ← e4, ← e6]
          exact ⟨⟨e ▸ hrv, by have := HM.out.2; omega, hl.2.1, (name_sml HSm.out xa xt).mono (by omega), hl.2.2⟩, hp⟩
        clear hrv hpass hm y0 y1 y2 y3 y4 y5 y6 a0 a1 HE
        go_wp2_with fail
        go_roundw
        case rel => exact ⟨j + 1, v2, u2, nm2, by omega, by go_num, HF.out.1, HF.out.2⟩
        all_goals (simp only [intOf, Int.toNat_natCast]; omega)
    · have k1 : ¬ (j : Int) < (n : Int) := by omega
      obtain rfl : j = n := by omega
      go_wp2_with fail
      refine bodyPost_end (results_none Tryz.results39 _ _ _) rfl ⟨rfl, v', u', nm', ?_, HP.out⟩
      have := HR.out
      rw [List.take_of_length_le (by have := HN.out; omega)] at this
      exact this
end Go.Proofs.YtgkgpjbbmnfnmaaGreatDoor
