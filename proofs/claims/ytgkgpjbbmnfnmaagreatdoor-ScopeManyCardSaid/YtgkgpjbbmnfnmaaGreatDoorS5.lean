/- Scope: a use. -/
import Derived.Test.YtgkgpjbbmnfnmaaGreatDoorS4
namespace Go.Proofs.YtgkgpjbbmnfnmaaGreatDoor
open Go.RowKit
set_option linter.unusedSimpArgs false
set_option linter.unusedVariables false

def bumpF (far : Int → Int → Int) (o n : Int) : Int → Int → Int := fun o' n' => if o' = o ∧ n' = n then far o n + 1 else far o' n'
def useS (s : St) (a : Int) (t : ByteArray) (o n : Int) : St :=
  { s with far := if (o != -1 && o != s.num) = true then bumpF s.far o n else s.far, us := s.us ++ [⟨a, t, s.num, o, n, false⟩] }
/-- What is kept of the resolver while its map turns. -/
theorem Rv.turn {w w' : World} {r sb M nm nm' B : Nat} {v u : Value} {s : St} {f : Int → Int → Int} (h : Rv w r sb M nm B v u s) (hk : Kept (fun k => k = M) w w') (hm : MapF w' M nm' f) : Rv w' r sb M nm' B v u { s with far := f } := by
  obtain ⟨es, c, hb⟩ := h.map.blk
  have n1 : r ≠ M := apart_map h.box hb
  have n2 : sb ≠ M := apart_map h.stk.box hb
  refine ⟨hk.heap h.box n1, ⟨hk.heap h.stk.box n2, ?_, h.stk.lt, Nat.le_trans h.stk.le hk.size⟩, ?_, hm, h.lt⟩
  · obtain ⟨o1, o2 | ⟨g, cap, cur, o3, o4, o5, o6⟩⟩ := h.stk.row
    · exact ⟨o1, .inl o2⟩
    · exact ⟨o1, .inr ⟨g, cap, cur, o3, o4, hk.heap o5 (apart_map o5 hb), o6⟩⟩
  · obtain ⟨o1, o2 | ⟨g, cap, cur, o3, o4, o5, o6⟩⟩ := h.row
    · exact ⟨o1, .inl o2⟩
    · exact ⟨o1, .inr ⟨g, cap, cur, o3, o4, hk.heap o5 (apart_map o5 hb), o6⟩⟩

theorem mapEntry_op {o : Oper} {a : Act} {w w' : World} {x y : Operand} {M : Nat} {key v : Value} (hp : o.op = .mapEntry 67 x y) (ex : a.eval x = .map (some M)) (ey : a.eval y = key) (e1 : (Instr.mapEntry 67 (.map (some M)) key).run Tryz.prog w = .ok v w') :
    (execOp a.eval o).run Tryz.prog w = .ok (.value v) w' := by
  unfold execOp
  rw [hp]
  simp [ex, ey, e1, Result.andThen]
theorem entryStore_op {o : Oper} {a : Act} {w w' : World} {x y z : Operand} {M : Nat} {st v : Value} (hp : o.op = .entryStore 67 x y z) (ex : a.eval x = .map (some M)) (ey : a.eval y = st) (ez : a.eval z = v) (e1 : (Instr.entryStore 67 (.map (some M)) st v).run Tryz.prog w = .ok () w') :
    (execOp a.eval o).run Tryz.prog w = .ok .skip w' := by
  unfold execOp
  rw [hp]
  simp [ex, ey, ez, e1, Result.andThen]
theorem ubslice_op {o : Oper} {a : Act} {w : World} {d : Tmp} {u : Us} (hp : o.op = .buildSlice 22 1 #[(0, .tmp d)]) (e : a.eval (.tmp d) = .agg (usC u).toArray) :
    (execOp a.eval o).run Tryz.prog w = .ok (.value (.slice (some ⟨w.heap.size, 0, none⟩) 1 1)) (w.alloc (.cells (usC u).toArray 36)) := by
  unfold execOp
  rw [hp]
  unfold usC at e ⊢
  simp only [List.map_toArray, List.map_cons, List.map_nil, e]
  go_simp
theorem ustore_op {o : Oper} {a : Act} {w : World} {b k : Nat} {u : Value} {ao : Option Addr} {ln cp : Nat} {x y : Tmp} (hp : o.op = .store 22 (.tmp x) (.tmp y)) (e : a.eval (.tmp x) = .pointer (some ⟨b, k, none⟩)) (e2 : a.eval (.tmp y) = .slice ao ln cp) (h : w.cell? ⟨b, k, none⟩ = some u) (hf : w.frozen? ⟨b, k, none⟩ = false) :
    (execOp a.eval o).run Tryz.prog w = .ok .skip (w.setCell ⟨b, k, none⟩ (.slice ao ln cp)) := by
  unfold execOp
  rw [hp]
  simp only [e, e2]
  go_simp
/-- The uses' row has grown, and its slice is stored. -/
theorem Rv.use {w w1 : World} {r sb M nm B : Nat} {v u u1 : Value} {s : St} {x : Us} (h : Rv w r sb M nm B v u s) (hg : w.grownBy w1 u.ownBlock) (hr : w1.ownsRow B 36 6 u1 (s.us ++ [x]).length (flU (s.us ++ [x]))) (hu : u1.ownBlock = u.ownBlock ∨ u1.ownBlock = some w.heap.size) :
    Rv (w1.setCell ⟨r, 9, none⟩ u1) r sb M nm B v u1 { s with us := s.us ++ [x] } ∧ PassR r sb M v u w v u1 (w1.setCell ⟨r, 9, none⟩ u1) ∧ w1.heap[r]? = some (.cells (RCs sb M u s).toArray 69 (0, 0)) := by
  have hk : Kept (fun b => u.ownBlock = some b) w w1 := (Kept.refl _ w).grown hg (fun k e => .inl e)
  have hty : ∀ {b : Nat} {c : Array Value} {e : TypeId} {f : Nat × Nat}, w.heap[b]? = some (.cells c e f) → e ≠ 36 → ¬ u.ownBlock = some b := fun hb hne e => by
    obtain ⟨c2, h2⟩ := row_blk h.row e
    exact apart hb h2 hne rfl
  obtain ⟨es, mc, hbm⟩ := h.map.blk
  have hm : ¬ u.ownBlock = some M := fun e => by
    obtain ⟨c2, h2⟩ := row_blk h.row e
    exact apart_map h2 hbm rfl
  have hbox := hk.heap h.box (hty h.box (by decide))
  have nsb : sb ≠ r := apart h.stk.box h.box (by decide)
  refine ⟨⟨set_same (c := (RCs sb M u s).toArray) hbox 9 _, ⟨set_other (hk.heap h.stk.box (hty h.stk.box (by decide))) _ _ nsb, ?_, h.stk.lt, Nat.le_trans h.stk.le (by have := hk.size; simpa using this)⟩, ?_, ?_, h.lt⟩, ⟨?_, ?_⟩, hbox⟩
  · obtain ⟨o1, o2 | ⟨g, cap, cur, o3, o4, o5, o6⟩⟩ := h.stk.row
    · exact ⟨o1, .inl o2⟩
    · exact ⟨o1, .inr ⟨g, cap, cur, o3, o4, set_other (hk.heap o5 (hty o5 (by decide))) _ _ (apart o5 h.box (by decide)), o6⟩⟩
  · obtain ⟨o1, o2 | ⟨g, cap, cur, o3, o4, o5, o6⟩⟩ := hr
    · exact ⟨o1, .inl o2⟩
    · exact ⟨o1, .inr ⟨g, cap, cur, o3, o4, set_other o5 _ _ (apart o5 hbox (by decide)), o6⟩⟩
  · exact (h.map.kept hk hm).kept (S := fun b => b = r) ((Kept.refl _ w1).set r 9 _ (.inl rfl)) (fun e => apart_map h.box hbm e.symm)
  · exact (hk.mono (fun b hb => .inr (.inr (.inr (.inr hb))))).set r 9 _ (.inl (.inl rfl))
  · rintro b (hb | hb)
    · exact .inl (.inr (.inr (.inr (.inl hb))))
    · rcases hu with e | e
      · exact .inl (.inr (.inr (.inr (.inr (by rw [← e]; exact hb)))))
      · rw [e] at hb
        simp only [Option.some.injEq] at hb
        exact .inr (by omega)
set_option maxRecDepth 20000 in
set_option maxHeartbeats 4000000 in
theorem use_any {w : World} {r sb M nm B : Nat} {v u : Value} {s : St} (h : Rv w r sb M nm B v u s) (k : Int) (t : ByteArray) (vt vn c : Int) (ao : Option Addr) (ln cp : Nat) (a o n : Int) (ho : wf o) (hn : wf n) (hnm : nm ≤ 1000000) (hus : s.us.length ≤ 1000000) (hf : 0 ≤ s.far o n ∧ s.far o n ≤ 1000000) :
    Calls Tryz.prog 35 #[PT r, .agg (ncs k t vt vn c (.slice ao ln cp) a).toArray, .agg #[.int .i64 o, .int .i64 n]] w fun e w' => e = .returned (.tuple #[]) ∧ ∃ u' nm', nm' ≤ nm + 1 ∧ Rv w' r sb M nm' B v u' (useS s a t o n) ∧ PassR r sb M v u w v u' w' := by
  obtain ⟨W0, HW0⟩ : ∃ W0, Hid (w.alloc (.cells (ncs k t vt vn c (.slice ao ln cp) a).toArray 43) = W0) := ⟨_, show _ = _ from rfl⟩
  obtain ⟨W1, HW1⟩ : ∃ W1, Hid (W0.alloc (.cells #[.int .i64 o, .int .i64 n] 89) = W1) := ⟨_, show _ = _ from rfl⟩
  have k0 : Kept No w W0 := by rw [← HW0.out]; exact (Kept.refl No w).alloc _
  have k1 : Kept No W0 W1 := by rw [← HW1.out]; exact (Kept.refl No W0).alloc _
  have b0 : W0.heap[w.heap.size]? = some (.cells (ncs k t vt vn c (.slice ao ln cp) a).toArray 43 (0, 0)) := HW0.out ▸ World.alloc_heap_new w _
  have b1 : W1.heap[W0.heap.size]? = some (.cells #[.int .i64 o, .int .i64 n] 89 (0, 0)) := HW1.out ▸ World.alloc_heap_new W0 _
  have hz : W0.heap.size = w.heap.size + 1 := by rw [← HW0.out]; simp
  rw [hz] at b1
  obtain ⟨T, HT⟩ : ∃ T, Hid (w.heap.size = T) := ⟨_, show _ = _ from rfl⟩
  rw [HT.out] at b0 b1
  have H1 : Hid (Rv W1 r sb M nm B v u s ∧ Kept No w W1 ∧ W1.heap[T]? = some (.cells (ncs k t vt vn c (.slice ao ln cp) a).toArray 43 (0, 0)) ∧ W1.heap[T + 1]? = some (.cells #[.int .i64 o, .int .i64 n] 89 (0, 0))) :=
    ⟨h.no (k0.trans k1), k0.trans k1, k1.heap b0 id, b1⟩
  obtain ⟨c0, c1, c2, c3, c4, c5, c6, c7, c8, c9, c10, c11⟩ := RC_cells H1.out.1.box
  have v0 := cell_of H1.out.2.2.2 0
  have v1 := cell_of H1.out.2.2.2 1
  simp only [List.getElem?_toArray, List.getElem?_cons_zero, List.getElem?_cons_succ] at v0 v1
  have HB : Hid (wf o ∧ wf n ∧ nm ≤ 1000000 ∧ s.us.length ≤ 1000000 ∧ 0 ≤ s.far o n ∧ s.far o n ≤ 1000000) := ⟨ho, hn, hnm, hus, hf⟩
  clear h k0 k1 b0 b1 ho hn hnm hus hf
  unfold ncs at HW0
  unfold ncs
  go_enter Tryz.func35, Tryz.ntmps35
  go_wp2_with (first | rw [HW0.out] | rw [HW1.out])
  rw [HT.out]
  clear HW0 HW1
  have hcase : ((o != -1) = false) ∨ ((o != -1) = true ∧ (o != s.num) = false) ∨ ((o != -1) = true ∧ (o != s.num) = true) := by
    cases (o != -1) <;> cases (o != s.num) <;> simp
  obtain ⟨F, HF⟩ : ∃ F, Hid ((if (o != -1 && o != s.num) = true then bumpF s.far o n else s.far) = F) := ⟨_, show _ = _ from rfl⟩
  rcases hcase with q1 | ⟨q1, q2⟩ | ⟨q1, q2⟩
  case' inl =>
    go_quiet (fail)
    go_wp2_with fail
    have HX : Hid (∃ nm', nm' ≤ nm + 1 ∧ Rv (W1.drewN nq) r sb M nm' B v u { s with far := F } ∧ PassR r sb M v u w v u (W1.drewN nq) ∧ Kept (fun k => k = M) W1 (W1.drewN nq)) := by
      have e : F = s.far := by rw [← HF.out, q1]; rfl
      have kd : Kept No W1 (W1.drewN nq) := (Kept.refl _ W1).drewN _
      subst e
      exact ⟨nm, by omega, H1.out.1.no kd, .no (H1.out.2.1.trans kd), kd.no⟩
    generalize W1.drewN nq = X at HX ⊢
    clear q1 c0 c1 c2 c3 c4 c5 c6 c7 c8 c9 c10 c11 v0 v1
  case' inr.inl =>
    go_quiet (fail)
    go_wp2_with fail
    have HX : Hid (∃ nm', nm' ≤ nm + 1 ∧ Rv (W1.drewN nq) r sb M nm' B v u { s with far := F } ∧ PassR r sb M v u w v u (W1.drewN nq) ∧ Kept (fun k => k = M) W1 (W1.drewN nq)) := by
      have e : F = s.far := by rw [← HF.out, q1, q2]; rfl
      have kd : Kept No W1 (W1.drewN nq) := (Kept.refl _ W1).drewN _
      subst e
      exact ⟨nm, by omega, H1.out.1.no kd, .no (H1.out.2.1.trans kd), kd.no⟩
    generalize W1.drewN nq = X at HX ⊢
    clear q1 q2 c0 c1 c2 c3 c4 c5 c6 c7 c8 c9 c10 c11 v0 v1
  case' inr.inr =>
    go_quiet (fail)
    go_wp2_with fail
    have kd : Kept No W1 (W1.drewN nq).drew := ((Kept.refl _ W1).drewN _).drew
    have hR0 := H1.out.1.no kd
    obtain ⟨es, mc, hbm⟩ := hR0.map.blk
    have nr : ¬ r = M := apart_map hR0.box hbm
    have nT : ¬ T + 1 = M := apart_map (kd.heap H1.out.2.2.2 id) hbm
    obtain ⟨zz, stamp, X1, X2, e0, e1, e2, e3, e4, e5⟩ := hR0.map.bump HB.out.2.2.1 HB.out.1 HB.out.2.1 (s.far o n + 1)
    have hlk := hR0.map.look HB.out.1 HB.out.2.1
    have hcs : ∀ X, Kept (fun k => k = M) (W1.drewN nq).drew X → X.cell? ⟨r, 8, none⟩ = some (.map (some M)) ∧ X.cell? ⟨T + 1, 0, none⟩ = some (.int .i64 o) ∧ X.cell? ⟨T + 1, 1, none⟩ = some (.int .i64 n) := fun X hk => by
      obtain ⟨d0, d1, d2, d3, d4, d5, d6, d7, d8, _⟩ := RC_cells (hk.heap hR0.box nr)
      have hb := hk.heap (kd.heap H1.out.2.2.2 id) nT
      exact ⟨d8, by rw [cell_of hb]; rfl, by rw [cell_of hb]; rfl⟩
    have h00 := hcs _ (Kept.refl _ _)
    have h01 := hcs _ e2
    have HX : Hid (∃ nm', nm' ≤ nm + 1 ∧ Rv X2 r sb M nm' B v u { s with far := F } ∧ PassR r sb M v u w v u X2 ∧ Kept (fun k => k = M) W1 X2) := by
      have e : F = bumpF s.far o n := by rw [← HF.out, q1, q2]; rfl
      rw [e]
      exact ⟨nm + 1, Nat.le_refl _, hR0.turn e5 e4, PassR.trans (.no (H1.out.2.1.trans kd)) ⟨e5.mono (fun b hb => .inr (.inr (.inl hb))), fun b hb => .inl (hb.elim (fun e => .inr (.inr (.inr (.inl e)))) (fun e => .inr (.inr (.inr (.inr e)))))⟩, kd.no.trans e5⟩
    have w1 : IntKind.i64.wrap (s.far o n + 1) = s.far o n + 1 := by rw [IntKind.wrap_i64]; have := HB.out; omega
    have w2 : wrap64 (s.far o n + 1) = s.far o n + 1 := by unfold wrap64; have := HB.out; omega
    generalize s.far o n = fv at hlk e0 w1 w2 e3
    clear c0 c1 c2 c3 c4 c5 c6 c7 c8 c9 c10 c11 v0 v1 q1 q2 e4 e5
    refine regionU (fun X => Kept (fun k => k = M) (W1.drewN nq).drew X ∧ X.cell? ⟨r, 8, none⟩ = some (.map (some M)) ∧ X.cell? ⟨T + 1, 0, none⟩ = some (.int .i64 o) ∧ X.cell? ⟨T + 1, 1, none⟩ = some (.int .i64 n) ∧ (Instr.lookup 67 (.map (some M)) (.agg #[.int .i64 o, .int .i64 n]) false).run Tryz.prog X = .ok (.int .i64 fv) X) 9 ⟨Kept.refl _ _, h00.1, h00.2.1, h00.2.2, hlk⟩ (fun hSS => ?_)
    refine tkU 0 (PT r) rfl hSS ?_ (hy := by rintro w' ⟨_, g1, g2, g3, g4⟩; go_simp)
    try simp only [Act.put, List.setIfInBounds_toArray, List.set_cons_zero, List.set_cons_succ, List.getElem_toArray, List.getElem_cons_zero, List.getElem_cons_succ]
    refine tkU 1 (PT r) rfl hSS ?_ (hy := by rintro w' ⟨_, g1, g2, g3, g4⟩; go_simp)
    try simp only [Act.put, List.setIfInBounds_toArray, List.set_cons_zero, List.set_cons_succ, List.getElem_toArray, List.getElem_cons_zero, List.getElem_cons_succ]
    refine tkU 2 (.pointer (some ⟨r, 8, none⟩)) rfl hSS ?_ (hy := by rintro w' ⟨_, g1, g2, g3, g4⟩; go_simp)
    try simp only [Act.put, List.setIfInBounds_toArray, List.set_cons_zero, List.set_cons_succ, List.getElem_toArray, List.getElem_cons_zero, List.getElem_cons_succ]
    refine tkU 3 (.map (some M)) rfl hSS ?_ (hy := by rintro w' ⟨_, g1, g2, g3, g4⟩; go_simp)
    try simp only [Act.put, List.setIfInBounds_toArray, List.set_cons_zero, List.set_cons_succ, List.getElem_toArray, List.getElem_cons_zero, List.getElem_cons_succ]
    refine tkU 4 (.agg #[.int .i64 o, .int .i64 n]) rfl hSS ?_ (hy := by rintro w' ⟨_, g1, g2, g3, g4⟩; go_simp)
    try simp only [Act.put, List.setIfInBounds_toArray, List.set_cons_zero, List.set_cons_succ, List.getElem_toArray, List.getElem_cons_zero, List.getElem_cons_succ]
    refine tkU 5 (.int .i64 fv) rfl hSS ?_ (hy := by rintro w' ⟨_, g1, g2, g3, g4⟩; simp [execOp, Act.eval, g4, Result.andThen])
    try simp only [Act.put, List.setIfInBounds_toArray, List.set_cons_zero, List.set_cons_succ, List.getElem_toArray, List.getElem_cons_zero, List.getElem_cons_succ]
    refine tkU 6 (.int .i64 (fv + 1)) rfl hSS ?_ (hy := by rintro w' ⟨_, g1, g2, g3, g4⟩; go_simp)
    try simp only [Act.put, List.setIfInBounds_toArray, List.set_cons_zero, List.set_cons_succ, List.getElem_toArray, List.getElem_cons_zero, List.getElem_cons_succ]
    refine rdO (i := 7) (p := .mapEntry 67 (.tmp 22) (.tmp 23)) ⟨_, rfl, rfl, rfl, rfl, rfl⟩ (fun oo K hd hp ht hK => ?_) (by kernel_rfl)
    unfold Oper.wp
    rw [mapEntry_op hp rfl rfl e1]
    refine hK _ _ (fun _ => ⟨e2, h01.1, h01.2.1, h01.2.2, e0⟩) ?_
    rw [hd]
    clear hK K hd hp ht oo
    try simp only [Act.put, List.setIfInBounds_toArray, List.set_cons_zero, List.set_cons_succ, List.getElem_toArray, List.getElem_cons_zero, List.getElem_cons_succ]
    refine tkU 8 (.int .i64 stamp) rfl ⟨e2, h01.1, h01.2.1, h01.2.2, e0⟩ ?_ (hy := by rintro w' ⟨_, g1, g2, g3, g4⟩; go_simp)
    try simp only [Act.put, List.setIfInBounds_toArray, List.set_cons_zero, List.set_cons_succ, List.getElem_toArray, List.getElem_cons_zero, List.getElem_cons_succ]
    refine rdO (i := 9) (p := .entryStore 67 (.tmp 22) (.tmp 27) (.tmp 25)) ⟨_, rfl, rfl, rfl, rfl, rfl⟩ (fun oo K hd hp ht hK => ?_) (by kernel_rfl)
    unfold Oper.wp
    rw [entryStore_op hp rfl rfl rfl e3]
    refine hK _ _ (fun e => absurd rfl e) ?_
    rw [hd]
    clear hK K hd hp ht oo
    try simp only [Act.put, List.setIfInBounds_toArray, List.set_cons_zero, List.set_cons_succ, List.getElem_toArray, List.getElem_cons_zero, List.getElem_cons_succ]
    refine dnU ?_ (by kernel_rfl) _
    go_wp2_with fail
    clear hSS e0 e1 e2 e3 h00 h01 hcs hlk hR0 hbm nr nT kd w1 w2
    generalize X2 = X at HX ⊢
  all_goals
    obtain ⟨nm', hnm, hR, hP, hk⟩ := HX.out
    have kd : Kept No X X.drew := (Kept.refl No X).drew
    have hR := hR.no kd
    obtain ⟨es, mc, hbm⟩ := hR.map.blk
    have nT : ¬ T = M := apart_map (H1.out.2.2.1) (show W1.heap[M]? = some (.map _ _) from H1.out.1.map.blk.choose_spec.choose_spec)
    have nT1 : ¬ T + 1 = M := apart_map (H1.out.2.2.2) (show W1.heap[M]? = some (.map _ _) from H1.out.1.map.blk.choose_spec.choose_spec)
    have HB0 : Hid (X.drew.heap[T]? = some (.cells (ncs k t vt vn c (.slice ao ln cp) a).toArray 43 (0, 0)) ∧ X.drew.heap[T + 1]? = some (.cells #[.int .i64 o, .int .i64 n] 89 (0, 0))) := ⟨kd.heap (hk.heap H1.out.2.2.1 nT) id, kd.heap (hk.heap H1.out.2.2.2 nT1) id⟩
    have HR : Hid (Rv X.drew r sb M nm' B v u { s with far := F } ∧ PassR r sb M v u w v u X.drew ∧ nm' ≤ nm + 1) := ⟨hR, hP.trans (.no kd), hnm⟩
    have hS : ∀ Y : World, Y.heap[r]? = some (.cells (RCs sb M u { s with far := F }).toArray 69 (0, 0)) → Y.heap[T]? = some (.cells (ncs k t vt vn c (.slice ao ln cp) a).toArray 43 (0, 0)) → Y.heap[T + 1]? = some (.cells #[.int .i64 o, .int .i64 n] 89 (0, 0)) → Y.cell? ⟨r, 4, none⟩ = some (.int .i64 s.num) ∧ Y.cell? ⟨r, 9, none⟩ = some u ∧ Y.cell? ⟨T, 1, none⟩ = some (.string t) ∧ Y.cell? ⟨T, 6, none⟩ = some (.int .i64 a) ∧ Y.cell? ⟨T + 1, 0, none⟩ = some (.int .i64 o) ∧ Y.cell? ⟨T + 1, 1, none⟩ = some (.int .i64 n) := fun Y h1 h2 h3 =>
      ⟨by rw [cell_of h1]; rfl, by rw [cell_of h1]; rfl, by rw [cell_of h2]; rfl, by rw [cell_of h2]; rfl, by rw [cell_of h3]; rfl, by rw [cell_of h3]; rfl⟩
    have HS : Hid _ := hS
    have h0 := hS _ hR.box HB0.out.1 HB0.out.2
    clear hR hP hk kd hbm nT nT1 hnm HX hS
    refine regionU (fun X => X.cell? ⟨r, 4, none⟩ = some (.int .i64 s.num) ∧ X.cell? ⟨r, 9, none⟩ = some u ∧ X.cell? ⟨T, 1, none⟩ = some (.string t) ∧ X.cell? ⟨T, 6, none⟩ = some (.int .i64 a) ∧ X.cell? ⟨T + 1, 0, none⟩ = some (.int .i64 o) ∧ X.cell? ⟨T + 1, 1, none⟩ = some (.int .i64 n)) 23 h0 (fun hSS => ?_)
    generalize X.drew = Y at HR HB0 hSS ⊢
    clear h0
    refine tkU 0 (PT r) rfl hSS ?_ (hy := by rintro w' ⟨g1, g2, g3, g4, g5, g6⟩; go_simp)
    try simp only [Act.put, List.setIfInBounds_toArray, List.set_cons_zero, List.set_cons_succ, List.getElem_toArray, List.getElem_cons_zero, List.getElem_cons_succ]
    refine tkU 1 (PT r) rfl hSS ?_ (hy := by rintro w' ⟨g1, g2, g3, g4, g5, g6⟩; go_simp)
    try simp only [Act.put, List.setIfInBounds_toArray, List.set_cons_zero, List.set_cons_succ, List.getElem_toArray, List.getElem_cons_zero, List.getElem_cons_succ]
    refine tkU 2 (PT r) rfl hSS ?_ (hy := by rintro w' ⟨g1, g2, g3, g4, g5, g6⟩; go_simp)
    try simp only [Act.put, List.setIfInBounds_toArray, List.set_cons_zero, List.set_cons_succ, List.getElem_toArray, List.getElem_cons_zero, List.getElem_cons_succ]
    refine tkU 3 (.pointer (some ⟨r, 9, none⟩)) rfl hSS ?_ (hy := by rintro w' ⟨g1, g2, g3, g4, g5, g6⟩; go_simp)
    try simp only [Act.put, List.setIfInBounds_toArray, List.set_cons_zero, List.set_cons_succ, List.getElem_toArray, List.getElem_cons_zero, List.getElem_cons_succ]
    refine tkU 4 (u) rfl hSS ?_ (hy := by rintro w' ⟨g1, g2, g3, g4, g5, g6⟩; go_simp)
    try simp only [Act.put, List.setIfInBounds_toArray, List.set_cons_zero, List.set_cons_succ, List.getElem_toArray, List.getElem_cons_zero, List.getElem_cons_succ]
    refine tkU 5 (.pointer (some ⟨T, 6, none⟩)) rfl hSS ?_ (hy := by rintro w' ⟨g1, g2, g3, g4, g5, g6⟩; go_simp)
    try simp only [Act.put, List.setIfInBounds_toArray, List.set_cons_zero, List.set_cons_succ, List.getElem_toArray, List.getElem_cons_zero, List.getElem_cons_succ]
    refine tkU 6 (.int .i64 a) rfl hSS ?_ (hy := by rintro w' ⟨g1, g2, g3, g4, g5, g6⟩; go_simp)
    try simp only [Act.put, List.setIfInBounds_toArray, List.set_cons_zero, List.set_cons_succ, List.getElem_toArray, List.getElem_cons_zero, List.getElem_cons_succ]
    refine tkU 7 (.pointer (some ⟨T, 1, none⟩)) rfl hSS ?_ (hy := by rintro w' ⟨g1, g2, g3, g4, g5, g6⟩; go_simp)
    try simp only [Act.put, List.setIfInBounds_toArray, List.set_cons_zero, List.set_cons_succ, List.getElem_toArray, List.getElem_cons_zero, List.getElem_cons_succ]
    refine tkU 8 (.string t) rfl hSS ?_ (hy := by rintro w' ⟨g1, g2, g3, g4, g5, g6⟩; go_simp)
    try simp only [Act.put, List.setIfInBounds_toArray, List.set_cons_zero, List.set_cons_succ, List.getElem_toArray, List.getElem_cons_zero, List.getElem_cons_succ]
    refine tkU 9 (PT r) rfl hSS ?_ (hy := by rintro w' ⟨g1, g2, g3, g4, g5, g6⟩; go_simp)
    try simp only [Act.put, List.setIfInBounds_toArray, List.set_cons_zero, List.set_cons_succ, List.getElem_toArray, List.getElem_cons_zero, List.getElem_cons_succ]
    refine tkU 10 (PT r) rfl hSS ?_ (hy := by rintro w' ⟨g1, g2, g3, g4, g5, g6⟩; go_simp)
    try simp only [Act.put, List.setIfInBounds_toArray, List.set_cons_zero, List.set_cons_succ, List.getElem_toArray, List.getElem_cons_zero, List.getElem_cons_succ]
    refine tkU 11 (.pointer (some ⟨r, 4, none⟩)) rfl hSS ?_ (hy := by rintro w' ⟨g1, g2, g3, g4, g5, g6⟩; go_simp)
    try simp only [Act.put, List.setIfInBounds_toArray, List.set_cons_zero, List.set_cons_succ, List.getElem_toArray, List.getElem_cons_zero, List.getElem_cons_succ]
    refine tkU 12 (.pointer (some ⟨r, 4, none⟩)) rfl hSS ?_ (hy := by rintro w' ⟨g1, g2, g3, g4, g5, g6⟩; go_simp)
    try simp only [Act.put, List.setIfInBounds_toArray, List.set_cons_zero, List.set_cons_succ, List.getElem_toArray, List.getElem_cons_zero, List.getElem_cons_succ]
    refine tkU 13 (.int .i64 s.num) rfl hSS ?_ (hy := by rintro w' ⟨g1, g2, g3, g4, g5, g6⟩; go_simp)
    try simp only [Act.put, List.setIfInBounds_toArray, List.set_cons_zero, List.set_cons_succ, List.getElem_toArray, List.getElem_cons_zero, List.getElem_cons_succ]
    refine tkU 14 (.pointer (some ⟨T + 1, 0, none⟩)) rfl hSS ?_ (hy := by rintro w' ⟨g1, g2, g3, g4, g5, g6⟩; go_simp)
    try simp only [Act.put, List.setIfInBounds_toArray, List.set_cons_zero, List.set_cons_succ, List.getElem_toArray, List.getElem_cons_zero, List.getElem_cons_succ]
    refine tkU 15 (.int .i64 o) rfl hSS ?_ (hy := by rintro w' ⟨g1, g2, g3, g4, g5, g6⟩; go_simp)
    try simp only [Act.put, List.setIfInBounds_toArray, List.set_cons_zero, List.set_cons_succ, List.getElem_toArray, List.getElem_cons_zero, List.getElem_cons_succ]
    refine tkU 16 (.pointer (some ⟨T + 1, 1, none⟩)) rfl hSS ?_ (hy := by rintro w' ⟨g1, g2, g3, g4, g5, g6⟩; go_simp)
    try simp only [Act.put, List.setIfInBounds_toArray, List.set_cons_zero, List.set_cons_succ, List.getElem_toArray, List.getElem_cons_zero, List.getElem_cons_succ]
    refine tkU 17 (.int .i64 n) rfl hSS ?_ (hy := by rintro w' ⟨g1, g2, g3, g4, g5, g6⟩; go_simp)
    try simp only [Act.put, List.setIfInBounds_toArray, List.set_cons_zero, List.set_cons_succ, List.getElem_toArray, List.getElem_cons_zero, List.getElem_cons_succ]
    refine tkU 18 (.agg #[.int .i64 a, .string t, .int .i64 s.num, .int .i64 o, .int .i64 n, .bool false]) rfl hSS ?_ (hy := by rintro w' ⟨g1, g2, g3, g4, g5, g6⟩; go_simp)
    try simp only [Act.put, List.setIfInBounds_toArray, List.set_cons_zero, List.set_cons_succ, List.getElem_toArray, List.getElem_cons_zero, List.getElem_cons_succ]
    refine rdO (i := 19) (p := .buildSlice 22 1 #[(0, .tmp 46)]) ⟨_, rfl, rfl, rfl, rfl, rfl⟩ (fun oo K hd hp ht hK => ?_) (by kernel_rfl)
    unfold Oper.wp
    rw [ubslice_op (u := ⟨a, t, s.num, o, n, false⟩) hp rfl]
    have ka : Kept No Y (Y.alloc (.cells (usC ⟨a, t, s.num, o, n, false⟩).toArray 36)) := (Kept.refl No Y).alloc _
    have hN := World.alloc_heap_new Y (.cells (usC ⟨a, t, s.num, o, n, false⟩).toArray 36)
    have HR2 : Hid (Rv (Y.alloc (.cells (usC ⟨a, t, s.num, o, n, false⟩).toArray 36)) r sb M nm' B v u { s with far := F } ∧ PassR r sb M v u w v u (Y.alloc (.cells (usC ⟨a, t, s.num, o, n, false⟩).toArray 36)) ∧ nm' ≤ nm + 1) := ⟨HR.out.1.no ka, HR.out.2.1.trans (.no ka), HR.out.2.2⟩
    have hb1 := ka.heap HB0.out.1 id
    have hb2 := ka.heap HB0.out.2 id
    refine hK _ _ (fun _ => HS.out _ HR2.out.1.box hb1 hb2) ?_
    rw [hd]
    generalize Y.alloc (.cells (usC ⟨a, t, s.num, o, n, false⟩).toArray 36) = Z at HR2 hb1 hb2 hN ⊢
    generalize Y.heap.size = N at hN ⊢
    clear hK K hd hp ht oo ka hSS HR HB0
    try simp only [Act.put, List.setIfInBounds_toArray, List.set_cons_zero, List.set_cons_succ, List.getElem_toArray, List.getElem_cons_zero, List.getElem_cons_succ]
    refine rdO (i := 20) (p := .call { callee := .builtin .append, args := #[.tmp 32, .tmp 47], argTypes := #[22, 22] }) ⟨_, rfl, rfl, rfl, rfl, rfl⟩ (fun oo K hd hp ht hK => ?_) (by kernel_rfl)
    refine app_u (.tmp 32) (.tmp 47) hp rfl HR2.out.1.row N ⟨a, t, s.num, o, n, false⟩ rfl hN (by have := HB.out.2.2.2.1; show s.us.length + 1 ≤ _; omega) HR2.out.1.stk.le (fun u1 Z1 h1 h2 h3 h4 => ?_)
    obtain ⟨hF1, hF2, hF3⟩ := HR2.out.1.use h2.out h1.out h3.out
    have hkz : Kept (fun b => u.ownBlock = some b) Z Z1 := (Kept.refl _ Z).grown h2.out (fun k e => .inl e)
    have hty : ∀ {b : Nat} {c : Array Value} {e : TypeId} {f : Nat × Nat}, Z.heap[b]? = some (.cells c e f) → e ≠ 36 → ¬ u.ownBlock = some b := fun hb hne e => by
      obtain ⟨c2, h2⟩ := row_blk HR2.out.1.row e
      exact apart hb h2 hne rfl
    have hs1 := HS.out _ hF3 (hkz.heap hb1 (hty hb1 (by decide))) (hkz.heap hb2 (hty hb2 (by decide)))
    refine hK _ _ (fun _ => hs1) ?_
    rw [hd]
    obtain ⟨uo, un, uc, rfl⟩ := h4
    have hfz := frozen_of hF3 9
    have HE : Hid (Rv (Z1.setCell ⟨r, 9, none⟩ (.slice uo un uc)) r sb M nm' B v (.slice uo un uc) { s with far := F, us := s.us ++ [⟨a, t, s.num, o, n, false⟩] } ∧ PassR r sb M v u w v (.slice uo un uc) (Z1.setCell ⟨r, 9, none⟩ (.slice uo un uc)) ∧ nm' ≤ nm + 1) := ⟨hF1, HR2.out.2.1.trans hF2, HR2.out.2.2⟩
    clear hK K hd hp ht oo hkz hty hF1 hF2 hF3 h1 h2 h3 hb1 hb2 hN HR2
    try simp only [Act.put, List.setIfInBounds_toArray, List.set_cons_zero, List.set_cons_succ, List.getElem_toArray, List.getElem_cons_zero, List.getElem_cons_succ]
    refine tkU 21 (PT r) rfl hs1 ?_ (hy := by rintro w' ⟨g1, g2, g3, g4, g5, g6⟩; go_simp)
    try simp only [Act.put, List.setIfInBounds_toArray, List.set_cons_zero, List.set_cons_succ, List.getElem_toArray, List.getElem_cons_zero, List.getElem_cons_succ]
    refine tkU 22 (.pointer (some ⟨r, 9, none⟩)) rfl hs1 ?_ (hy := by rintro w' ⟨g1, g2, g3, g4, g5, g6⟩; go_simp)
    try simp only [Act.put, List.setIfInBounds_toArray, List.set_cons_zero, List.set_cons_succ, List.getElem_toArray, List.getElem_cons_zero, List.getElem_cons_succ]
    refine rdO (i := 23) (p := .store 22 (.tmp 50) (.tmp 48)) ⟨_, rfl, rfl, rfl, rfl, rfl⟩ (fun oo K hd hp ht hK => ?_) (by kernel_rfl)
    unfold Oper.wp
    rw [ustore_op hp rfl rfl hs1.2.1 hfz]
    refine hK _ _ (fun e => absurd rfl e) ?_
    rw [hd]
    clear hK K hd hp ht oo
    try simp only [Act.put, List.setIfInBounds_toArray, List.set_cons_zero, List.set_cons_succ, List.getElem_toArray, List.getElem_cons_zero, List.getElem_cons_succ]
    refine dnU ?_ (by kernel_rfl) _
    go_wp2_with fail
    refine bodyPost_end (results_none Tryz.results35 _ _ _) rfl ⟨rfl, _, nm', HE.out.2.2, ?_, HE.out.2.1⟩
    unfold useS
    rw [HF.out]
    exact HE.out.1
end Go.Proofs.YtgkgpjbbmnfnmaaGreatDoor
