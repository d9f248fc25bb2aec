/- Scope: a source is resolved. -/
import Derived.Test.YtgkgpjbbmnfnmaaGreatDoorS16
import Derived.Test.YtgkgpjbbmnfnmaaGreatDoorGL
namespace Go.Proofs.YtgkgpjbbmnfnmaaGreatDoor
open Go.RowKit
set_option linter.unusedSimpArgs false
set_option linter.unusedVariables false

/-- What is made of a tree, or of an error. -/
def resM (T : Except (Int × Int) Tr) : Except (Int × Int) St := match T with
  | .error e => .error e
  | .ok x => if (wk x s0).err = 0 then .ok (wk x s0) else .error ((wk x s0).at', (wk x s0).err)
theorem s0_sml : Sml 0 s0 := ⟨by decide, by decide, fun _ _ => ⟨by show (0 : Int) ≤ 0; decide, by show (0 : Int) ≤ _; decide⟩, by decide, by decide, by decide, by decide, by simp [s0], by simp [s0]⟩
/-- The uses that are found. -/
def FoundIs (w w' : World) (s : St) (e : Value) : Prop := ∃ (L : List Us) (ao : Option Addr) (cap B : Nat), e = .slice ao L.length cap ∧ w.heap.size ≤ B ∧ List.Perm L (s.us.map (heldU s.far)) ∧ List.Pairwise (fun (x y : Us) => x.a ≤ y.a) L ∧ w'.ownsRow B 36 6 (.slice ao L.length cap) L.length (flU L)
def RsRes (w : World) (T : Except (Int × Int) Tr) (e : Ending) (w' : World) : Prop := Kept No w w' ∧ match resM T with
  | .error (a, x) => e = .returned (.tuple #[.agg nz.toArray, .slice none 0 0, .int .i64 a, .int .i64 x])
  | .ok s => ∃ (k : Int) (t : ByteArray) (vt vn n : Int) (ao : Option Addr) (ln cp : Nat) (a : Int) (u : Value), e = .returned (.tuple #[.agg (ncs k t vt vn n (.slice ao ln cp) a).toArray, u, .int .i64 0, .int .i64 0]) ∧ FoundIs w w' s u
theorem nstore_op {o : Oper} {a : Act} {w : World} {T : Nat} {x y : Tmp} {k vt vn n na : Int} {t : ByteArray} {ao : Option Addr} {ln cp : Nat} (hp : o.op = .store 43 (.tmp x) (.tmp y)) (e : a.eval (.tmp x) = .pointer (some ⟨T, 0, none⟩)) (e2 : a.eval (.tmp y) = .agg #[.int .i64 k, .string t, .int .i64 vt, .int .i64 vn, .int .i64 n, .slice ao ln cp, .int .i64 na]) (h : w.heap[T]? = some (nb nz)) :
    (execOp a.eval o).run Tryz.prog w = .ok .skip (((((((w.setCell ⟨T, 0, none⟩ (.int .i64 k)).setCell ⟨T, 1, none⟩ (.string t)).setCell ⟨T, 2, none⟩ (.int .i64 vt)).setCell ⟨T, 3, none⟩ (.int .i64 vn)).setCell ⟨T, 4, none⟩ (.int .i64 n)).setCell ⟨T, 5, none⟩ (.slice ao ln cp)).setCell ⟨T, 6, none⟩ (.int .i64 na)) := by
  obtain ⟨r0, r1, r2, r3, r4, r5, r6⟩ := nb_cells h
  have rf := fun o => nb_frozen h o
  unfold execOp
  rw [hp]
  simp only [e, e2]
  go_simp
set_option maxRecDepth 20000 in
set_option maxHeartbeats 4000000 in
theorem resolve_any {s : ByteArray} {w : World} {T : Except (Int × Int) Tr} (hP : ∀ W, Kept No w W → Calls Tryz.prog 18 #[.string s] W (WRes W T)) (hE : ∀ a x, T = .error (a, x) → x ≠ 0) (hO : ∀ x, T = .ok x → Shp x ∧ nn x ≤ 80000) :
    Calls Tryz.prog 12 #[.string s] w (RsRes w T) := by
  obtain ⟨W0, HW0⟩ : ∃ W0, Hid (w.alloc (nb nz) = W0) := ⟨_, show _ = _ from rfl⟩
  have HK0 : Hid (Kept No w W0) := by show Kept _ _ _; rw [← HW0.out]; exact (Kept.refl No w).alloc _
  have HT0 : Hid (W0.heap[w.heap.size]? = some (nb nz)) := by show _ = _; rw [← HW0.out]; exact World.alloc_heap_new w _
  have HA : Hid _ := hP W0 HK0.out
  have HE : Hid _ := hE
  have HO : Hid _ := hO
  obtain ⟨A, HAz⟩ : ∃ A, Hid (w.heap.size = A) := ⟨_, show _ = _ from rfl⟩
  unfold nb nz ncs at HW0
  clear hP hE hO
  go_enter Tryz.func12, Tryz.ntmps12
  go_wp2_with fail
  rw [HW0.out]
  refine Calls.mono HA.out ?_
  rintro e W1 ⟨hk1, h1⟩
  clear HA HW0
  cases T with
  | error e =>
    obtain ⟨a, x⟩ := e
    obtain rfl := h1
    have hx := HE.out a x rfl
    have qx : (x == 0) = false := by simpa using hx
    have kx : Kept No W1 (W1.alloc (nb nz)) := (Kept.refl No W1).alloc _
    have hR1 := kx.heap (hk1.heap HT0.out id) id
    obtain ⟨r0, r1, r2, r3, r4, r5, r6⟩ := nb_cells hR1
    have rf := fun o => nb_frozen hR1 o
    have HK1 : Hid (Kept No w (W1.alloc (nb nz))) := (HK0.out.trans hk1).trans kx
    clear kx hk1 hR1 HT0 HK0 HE HO hx
    unfold nb nz ncs at r0 r1 r2 r3 r4 r5 r6 rf HK1
    unfold nz ncs
    go_wp2_with fail
    refine bodyPost_ret (v := .tuple #[.agg nz.toArray, .slice none 0 0, .int .i64 a, .int .i64 x]) (by simp [results, Tryz.results12, go_sem, nz, ncs, r0, r1, r2, r3, r4, r5, r6, rf]) rfl ⟨?_, rfl⟩
    repeat refine Kept.set ?_ _ _ _ (Or.inr (Nat.le_refl _))
    exact HK1.out
  | ok x =>
    obtain ⟨cs, rfl, hX⟩ := h1
    obtain ⟨hS, hN⟩ := HO.out x rfl
    have hX2 : NodeIs (fun b => b < w.heap.size ∨ W1.heap.size ≤ b) W1 x cs := NodeIs.mono (fun b hb => hb.imp (fun h => Nat.lt_of_lt_of_le h HK0.out.size) id) _ _ (NodeIs.more _ _ hX)
    obtain ⟨k, t, vt, vn, n, l, a⟩ := x
    obtain ⟨sv, rfl, hl⟩ := NodeIs.cs.1 hX
    obtain ⟨ao, ln, cp, rfl⟩ := slice_of hl
    obtain ⟨X1, HX1⟩ : ∃ X1, Hid (W1.alloc (nb (ncs k t vt vn n (.slice ao ln cp) a)) = X1) := ⟨_, show _ = _ from rfl⟩
    have kx : Kept No W1 X1 := by rw [← HX1.out]; exact (Kept.refl No W1).alloc _
    have hR1 := kx.heap (hk1.heap HT0.out id) id
    have hB1 : X1.heap[W1.heap.size]? = some (nb (ncs k t vt vn n (.slice ao ln cp) a)) := by rw [← HX1.out]; exact World.alloc_heap_new W1 _
    have hz1 : X1.heap.size = W1.heap.size + 1 := by rw [← HX1.out]; simp
    obtain ⟨D, HD⟩ : ∃ D, Hid (W1.heap.size = D) := ⟨_, show _ = _ from rfl⟩
    rw [HD.out] at hB1 hz1 hX2
    have H1 : Hid (Kept No w X1 ∧ X1.heap[w.heap.size]? = some (nb nz) ∧ X1.heap[D]? = some (nb (ncs k t vt vn n (.slice ao ln cp) a)) ∧ NodeIs (fun b => b < w.heap.size ∨ D ≤ b) X1 (.mk k t vt vn n l a) (ncs k t vt vn n (.slice ao ln cp) a) ∧ X1.heap.size = D + 1 ∧ Shp (.mk k t vt vn n l a) ∧ nn (.mk k t vt vn n l a) ≤ 80000) := ⟨(HK0.out.trans hk1).trans kx, hR1, hB1, hX2.kept kx.no _ _, hz1, hS, hN⟩
    have HwD : Hid (w.heap.size < D) := by
      have := (Array.getElem?_eq_some_iff.1 (hk1.heap HT0.out id)).1
      rw [HD.out] at this
      exact this
    have HZ0 : Hid (∀ b, RZ (D + 1 + 3) (D + 1 + 1) (D + 1 + 2) (.slice none 0 0) (.slice none 0 0) b → D ≤ b) := by
      rintro b (rfl | rfl | rfl | e | e)
      · omega
      · omega
      · omega
      · cases e
      · cases e
    have HNR : Hid _ := newResolver_any X1
    unfold nb ncs at HX1
    unfold ncs
    clear kx hk1 hR1 hB1 HT0 HK0 HE HO hX hX2 hl hS hN hz1
    go_wp2_with (first | rw [HX1.out])
    rw [HD.out]
    refine Calls.mono HNR.out ?_
    rintro e W3 ⟨rfl, hk3, hrv⟩
    have hz := H1.out.2.2.2.2.1
    rw [hz] at hrv ⊢
    have hkk := H1.out.2.2.2.1.kept hk3.no
    have HW : Hid (Calls Tryz.prog 20 #[PT (D + 1 + 3), .agg (ncs k t vt vn n (.slice ao ln cp) a).toArray] W3 (WR D (0 + nn (.mk k t vt vn n l a)) (D + 1 + 4) W3 (D + 1 + 3) (D + 1 + 1) (D + 1 + 2) (.slice none 0 0) (.slice none 0 0) (wk (.mk k t vt vn n l a) s0))) := by
      refine walk_is _ H1.out.2.2.2.2.2.1 ⟨hrv, Nat.le_refl _, HZ0.out, s0_sml, ?_⟩ (NodeIs.mono (fun b hb => .inr hb) _ _ (NodeIs.kept hk3.no _ _ H1.out.2.2.2.1)) (by have := H1.out.2.2.2.2.2.2; omega)
      have := hk3.size
      omega
    have hB3 := hk3.heap H1.out.2.2.1 id
    have hT3 := hk3.heap H1.out.2.1 id
    have H3 : Hid (Kept No w W3 ∧ W3.heap[w.heap.size]? = some (nb nz) ∧ W3.heap[D]? = some (nb (ncs k t vt vn n (.slice ao ln cp) a)) ∧ Rv W3 (D + 1 + 3) (D + 1 + 1) (D + 1 + 2) 0 (D + 1 + 4) (.slice none 0 0) (.slice none 0 0) s0) := ⟨H1.out.1.trans hk3, hT3, hB3, hrv⟩
    obtain ⟨y0, y1, y2, y3, y4, y5, y6⟩ := nb_cells hB3
    obtain ⟨S2, HS2⟩ : ∃ S2, Hid (wk (.mk k t vt vn n l a) s0 = S2) := ⟨_, show _ = _ from rfl⟩
    rw [HS2.out] at HW
    have HRs : Hid (resM (.ok (.mk k t vt vn n l a)) = if S2.err = 0 then .ok S2 else .error (S2.at', S2.err)) := by
      show _ = _
      rw [← HS2.out]; rfl
    clear hz hkk hB3 hT3 hk3 hrv
    unfold ncs at HW
    go_wp2_with fail
    refine Calls.mono HW.out ?_
    rintro e W4 ⟨rfl, v4, u4, nm4, hrz, hpass⟩
    have hT4 := hpass.kept.heap H3.out.2.1 (H3.out.2.2.2.other H3.out.2.1 (by decide) (by decide) (by decide) (by decide))
    have hB4 := hpass.kept.heap H3.out.2.2.1 (H3.out.2.2.2.other H3.out.2.2.1 (by decide) (by decide) (by decide) (by decide))
    have H4 : Hid (Kept No w W4 ∧ W4.heap[w.heap.size]? = some (nb nz) ∧ W4.heap[D]? = some (nb (ncs k t vt vn n (.slice ao ln cp) a)) ∧ Rz D (0 + nn (.mk k t vt vn n l a)) (D + 1 + 4) W4 (D + 1 + 3) (D + 1 + 1) (D + 1 + 2) nm4 v4 u4 S2) := ⟨H3.out.1.trans' hpass.kept (fun b hb => .inr (Nat.le_trans (Nat.le_of_lt HwD.out) (HZ0.out b hb))), hT4, hB4, hrz⟩
    obtain ⟨c0, c1, c2, c3, c4, c5, c6, c7, c8, c9, c10, c11⟩ := RC_cells hrz.rv.box
    obtain ⟨r0, r1, r2, r3, r4, r5, r6⟩ := nb_cells hT4
    have rf := fun o => nb_frozen hT4 o
    clear c0 c1 c2 c3 c4 c5 c6 c7 c8 c9 hT4 hB4 hrz hpass HW HNR H3 y0 y1 y2 y3 y4 y5 y6
    unfold nz ncs at *
    cases qe : (S2.err == 0) with
    | false =>
      have HK4 : Hid (Kept No w W4) := H4.out.1
      have hne : ¬ D + 1 + 3 = w.heap.size := by have := HwD.out; omega
      have hne2 : ¬ w.heap.size = D + 1 + 3 := by omega
      have HRr : Hid (resM (.ok (.mk k t vt vn n l a)) = .error (S2.at', S2.err)) := by
        show _ = _
        rw [HRs.out, if_neg (by intro e; rw [e] at qe; cases qe)]
      clear H4 HRs
      go_wp2_with fail
      go_region_held3 (fun w' => w'.cell? ⟨D + 1 + 3, 10, none⟩ = some (.int .i64 S2.at') ∧ w'.cell? ⟨D + 1 + 3, 11, none⟩ = some (.int .i64 S2.err)) (go_keep) (first | (fail))
      go_wp2_with fail
      refine bodyPost_ret (v := .tuple #[.agg nz.toArray, .slice none 0 0, .int .i64 S2.at', .int .i64 S2.err]) (by simp [results, Tryz.results12, go_sem, nz, ncs, r0, r1, r2, r3, r4, r5, r6, rf]) rfl ⟨?_, ?_⟩
      · refine Kept.drew ?_
        repeat refine Kept.set ?_ _ _ _ (Or.inr (Nat.le_refl _))
        exact HK4.out
      · rw [HRr.out]
    | true =>
      have HK4 : Hid (Kept No w W4) := H4.out.1
      have HRr : Hid (resM (.ok (.mk k t vt vn n l a)) = .ok S2) := by
        show _ = _
        rw [HRs.out, if_pos (by simpa using qe)]
      obtain ⟨y0, y1, y2, y3, y4, y5, y6⟩ := nb_cells H4.out.2.2.1
      have HFd : Hid (∀ X, Kept No W4 X → Calls Tryz.prog 21 #[PT (D + 1 + 3)] X fun e w' => ∃ u, e = .returned u ∧ FoundIs w w' S2 u ∧ Kept No w w' ∧ w'.heap[w.heap.size]? = some (nb nz) ∧ w'.heap[D]? = some (nb (ncs k t vt vn n (.slice ao ln cp) a))) := fun X hk => by
        have hr := H4.out.2.2.2.no hk
        refine (found_any hr (by have := H1.out.2.2.2.2.2.2; omega)).mono ?_
        rintro e w' ⟨L, ao', cap, rfl, hp, hs, hrow, hkk⟩
        have hT := hk.heap H4.out.2.1 id
        have hB := hk.heap H4.out.2.2.1 id
        exact ⟨_, rfl, ⟨L, ao', cap, D + 1 + 4, rfl, by have := HwD.out; omega, hp, hs, hrow⟩, (H4.out.1.trans hk).trans' hkk (fun b hb => .inr (Nat.le_trans (Nat.le_of_lt HwD.out) (hr.hz b hb))), hkk.heap hT (hr.rv.other hT (by decide) (by decide) (by decide) (by decide)), hkk.heap hB (hr.rv.other hB (by decide) (by decide) (by decide) (by decide))⟩
      have HFd := HFd.out W4.drew ((Kept.refl No W4).drew)
      clear H4 HRs
      go_wp2_with fail
      refine regionU (fun Y => Y.cell? ⟨D, 0, none⟩ = some (.int .i64 k) ∧ Y.cell? ⟨D, 1, none⟩ = some (.string t) ∧ Y.cell? ⟨D, 2, none⟩ = some (.int .i64 vt) ∧ Y.cell? ⟨D, 3, none⟩ = some (.int .i64 vn) ∧ Y.cell? ⟨D, 4, none⟩ = some (.int .i64 n) ∧ Y.cell? ⟨D, 5, none⟩ = some (.slice ao ln cp) ∧ Y.cell? ⟨D, 6, none⟩ = some (.int .i64 a)) 6 ⟨y0, y1, y2, y3, y4, y5, y6⟩ (fun hSS => ?_)
      generalize W4.drew = Y at HFd hSS ⊢
      clear y0 y1 y2 y3 y4 y5 y6 r0 r1 r2 r3 r4 r5 r6 rf c10 c11
      refine tkU 0 (.agg #[.int .i64 k, .string t, .int .i64 vt, .int .i64 vn, .int .i64 n, .slice ao ln cp, .int .i64 a]) rfl hSS ?_ (hy := by rintro w' ⟨g1, g2, g3, g4, g5, g6, g7⟩; go_simp)
      try simp only [Act.put, List.setIfInBounds_toArray, List.set_cons_zero, List.set_cons_succ, List.getElem_toArray, List.getElem_cons_zero, List.getElem_cons_succ]
      refine tkU 1 (PT (D + 1 + 3)) rfl hSS ?_ (hy := by rintro w' ⟨g1, g2, g3, g4, g5, g6, g7⟩; go_simp)
      try simp only [Act.put, List.setIfInBounds_toArray, List.set_cons_zero, List.set_cons_succ, List.getElem_toArray, List.getElem_cons_zero, List.getElem_cons_succ]
      have HFd : Hid _ := HFd
      refine rdU 2 rfl (fun K hK => ?_)
      go_simp
      refine Calls.mono HFd.out ?_
      rintro e W5 ⟨u5, rfl, hF5, hk5, hT5, hB5⟩
      have hS5 := nb_cells hB5
      refine hK.out _ _ (fun _ => hS5) ?_
      clear hK K HFd hSS
      try simp only [Act.put, List.setIfInBounds_toArray, List.set_cons_zero, List.set_cons_succ, List.getElem_toArray, List.getElem_cons_zero, List.getElem_cons_succ]
      refine rdO (i := 3) (p := .store 43 (.tmp 2) (.tmp 39)) ⟨_, rfl, rfl, rfl, rfl, rfl⟩ (fun oo K hd hp ht hK => ?_) (by kernel_rfl)
      unfold Oper.wp
      rw [nstore_op hp rfl rfl hT5]
      obtain ⟨Z, HZ⟩ : ∃ Z, Hid ((((((((W5.setCell ⟨w.heap.size, 0, none⟩ (.int .i64 k)).setCell ⟨w.heap.size, 1, none⟩ (.string t)).setCell ⟨w.heap.size, 2, none⟩ (.int .i64 vt)).setCell ⟨w.heap.size, 3, none⟩ (.int .i64 vn)).setCell ⟨w.heap.size, 4, none⟩ (.int .i64 n)).setCell ⟨w.heap.size, 5, none⟩ (.slice ao ln cp)).setCell ⟨w.heap.size, 6, none⟩ (.int .i64 a)) = Z) := ⟨_, show _ = _ from rfl⟩
      rw [HZ.out]
      have kz : Kept (fun b => b = w.heap.size) W5 Z := by
        rw [← HZ.out]
        repeat refine Kept.set ?_ _ _ _ (Or.inl rfl)
        exact Kept.refl _ _
      have hTz : Z.heap[w.heap.size]? = some (nb (ncs k t vt vn n (.slice ao ln cp) a)) := by
        rw [← HZ.out]
        exact set_same (set_same (set_same (set_same (set_same (set_same (set_same hT5 0 _) 1 _) 2 _) 3 _) 4 _) 5 _) 6 _
      have hSz := nb_cells (kz.heap hB5 (show ¬ D = w.heap.size by have := HwD.out; omega))
      have HFz : Hid (FoundIs w Z S2 u5 ∧ Kept No w Z ∧ Z.heap[w.heap.size]? = some (nb (ncs k t vt vn n (.slice ao ln cp) a))) := by
        refine ⟨?_, hk5.trans' kz (fun b hb => .inr (by rw [hb]; exact Nat.le_refl _)), hTz⟩
        obtain ⟨L, ao', cap, B, e1, e2, e3, e4, e5⟩ := hF5
        refine ⟨L, ao', cap, B, e1, e2, e3, e4, ?_⟩
        obtain ⟨o1, o2 | ⟨g', cap', cur, o3, o4, o5, o6⟩⟩ := e5
        · exact ⟨o1, .inl o2⟩
        · exact ⟨o1, .inr ⟨g', cap', cur, o3, o4, kz.heap o5 (fun e => apart o5 hT5 (by decide) e), o6⟩⟩
      refine hK _ _ (fun _ => hSz) ?_
      rw [hd]
      clear hK K hd hp ht oo HZ kz hTz hF5 hk5 hT5 hB5 hS5
      try simp only [Act.put, List.setIfInBounds_toArray, List.set_cons_zero, List.set_cons_succ, List.getElem_toArray, List.getElem_cons_zero, List.getElem_cons_succ]
      refine rdU 4 rfl (fun K hK => ?_)
      go_simp
      refine hK.out _ _ (fun _ => hSz) ?_
      clear hK K
      try simp only [Act.put, List.setIfInBounds_toArray, List.set_cons_zero, List.set_cons_succ, List.getElem_toArray, List.getElem_cons_zero, List.getElem_cons_succ]
      refine rdU 5 rfl (fun K hK => ?_)
      go_simp
      refine hK.out _ _ (fun _ => hSz) ?_
      clear hK K
      try simp only [Act.put, List.setIfInBounds_toArray, List.set_cons_zero, List.set_cons_succ, List.getElem_toArray, List.getElem_cons_zero, List.getElem_cons_succ]
      refine rdU 6 rfl (fun K hK => ?_)
      go_simp
      refine hK.out _ _ (fun e => absurd rfl e) ?_
      clear hK K
      try simp only [Act.put, List.setIfInBounds_toArray, List.set_cons_zero, List.set_cons_succ, List.getElem_toArray, List.getElem_cons_zero, List.getElem_cons_succ]
      refine dnU ?_ (by kernel_rfl) _
      go_wp2_with fail
      obtain ⟨z0, z1, z2, z3, z4, z5, z6⟩ := nb_cells HFz.out.2.2
      refine bodyPost_ret (v := .tuple #[.agg #[.int .i64 k, .string t, .int .i64 vt, .int .i64 vn, .int .i64 n, .slice ao ln cp, .int .i64 a], u5, .int .i64 0, .int .i64 0]) (by simp [results, Tryz.results12, go_sem, z0, z1, z2, z3, z4, z5, z6]) rfl ⟨HFz.out.2.1, ?_⟩
      rw [HRr.out]
      exact ⟨k, t, vt, vn, n, ao, ln, cp, a, u5, rfl, HFz.out.1⟩
end Go.Proofs.YtgkgpjbbmnfnmaaGreatDoor
