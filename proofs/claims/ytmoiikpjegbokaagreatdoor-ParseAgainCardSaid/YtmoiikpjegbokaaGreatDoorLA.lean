/- ParseAgain. -/
import Derived.BigQuiet
import Derived.Deep.QuietTactic
import Derived.StillTail
import Derived.Test.YtmoiikpjegbokaaGreatDoorUW
import Derived.Test.YtmoiikpjegbokaaGreatDoorGT
set_option linter.unusedSimpArgs false
set_option linter.unusedVariables false
set_option maxRecDepth 20000
set_option maxHeartbeats 4000000
namespace Go.Proofs.YtmoiikpjegbokaaGreatDoor
open Calls renaming mono → cmo
open NodeIs renaming kept → nkp
open Go.RowKit
section
variable {P : Program} {ops : Array Oper} {md : Region.Mode} {C : World → Prop}
theorem region_quiet_class {id : Nat} {Q : Exit → Act → World → Prop} {a : Act} {w : World} {l : List Oper} (hm : P.follows .mixedOrders = true) (hB : Region.lexB .any l.toArray = true) (hC : C w.drew)
    (h : wpQuiet P l.toArray C (fun a' => ∀ w', C w' → Q .normal a' w') l a) : (Code.region id l.toArray true).wp P Q a w :=
  wp_region_quiet (C := C) hm hB hC (by simpa using h)
theorem q_op {o : Oper} {rest : List Oper} {K : Act → Prop} {a : Act} (v : Value) (hw : Region.wanted o (yielded ops a.tmps) = true) (h : ∀ w, C w → (execOp a.eval o).run P w = .ok (.value v) w)
    (hk : wpQuiet P ops C K rest (a.put o.dst v)) : wpQuiet P ops C K (o :: rest) a :=
  BigFrame.wpQuiet_want hw fun _ hK => ⟨v, fun w hC => by unfold Oper.quietAt; rw [h w hC]; exact ⟨rfl, rfl⟩, hK _ hk⟩
theorem q_call {o : Oper} {rest : List Oper} {K : Act → Prop} {a : Act} (f : FuncId) (args : Array Value) (v : Value) (hw : Region.wanted o (yielded ops a.tmps) = true) (h : ∀ w, C w → (execOp a.eval o).run P w = .ok (.enter f args) w)
    (hc : ∀ w, C w → Calls P f args w fun e w' => e = .returned v ∧ C w') (hk : wpQuiet P ops C K rest (a.put o.dst v)) : wpQuiet P ops C K (o :: rest) a :=
  BigFrame.wpQuiet_want hw fun _ hK => ⟨v, fun w hC => by unfold Oper.quietAt; rw [h w hC]; exact ⟨rfl, hc w hC⟩, hK _ hk⟩
end
theorem again_data {s p : ByteArray} {hs : s.size ≤ 8192} {L : List Tk} (hL : Lx s hs (skipB false (bl s)) none L) {x : Tr} (h : whole ⟨L, (s.size : Int)⟩ = .ok x) (w : World) (he : ErrIs w) (hb : bl p = jT (prT ntT qtT x)) {R : Except (Int × Int) Tr} (hR : PsR p R) :
    (¬ p.size ≤ 8192 ∧ cdOf R = 3) ∨ cdOf R = 14 ∨ (cdOf R = 0 ∧ TI (trOf R) ∧ tz (trOf R) = tz x) := by
  rcases hR with ⟨hp, rfl⟩ | ⟨hp, e, M, hM, rfl⟩
  · exact .inl ⟨hp, rfl⟩
  · right
    obtain ⟨L', h1, h2⟩ := again_src hL h w he hp hb;obtain ⟨rfl, rfl⟩ := Lx.det hM h1;dsimp only;rcases h2 with ⟨x', h2, h3⟩ | ⟨a, h2⟩
    · right
      rw [h2];have hl := h1.len;exact ⟨rfl, (whole_c (ti_clo (V := ⟨M, (p.size : Int)⟩) h1.cut0 (by show M.length ≤ _; omega) w he) h2).1, h3⟩
    · left; rw [h2]; rfl
theorem again_any {s : ByteArray} {hs : s.size ≤ 8192} {L : List Tk} (hL : Lx s hs (skipB false (bl s)) none L) {x : Tr} (h : whole ⟨L, (s.size : Int)⟩ = .ok x) {w : World} (he : ErrIs w) (hg : SgIs w) (ht : Tab10 w) (hd : w.cell? ⟨7, 15, none⟩ = some (.int .u8 4)) {S : Nat → Prop} {cs : List Value} (hX : NodeIs S w x cs) :
    Calls Tryz.prog 19 #[.string (joinB (prT ntT qtT x)), .agg cs.toArray] w fun r w' => r = .returned (.bool true) ∧ Kept No w w' := by
  obtain ⟨p, HPp⟩ := nm (joinB (prT ntT qtT x));have hb : bl p = jT (prT ntT qtT x) := by rw [← HPp.out]; exact bl_join _
  obtain ⟨R, hR⟩ := PsR.all p;have hda := again_data hL h w he hb hR;rw [HPp.out];have HE : Hid (∀ W, Kept No w W → ErrIs W ∧ SgIs W ∧ Tab10 W ∧ W.cell? ⟨7, 15, none⟩ = some (.int .u8 4)) := fun W hk => ⟨he.no hk, hg.no hk, tab10_below ht hk.below, kept_cell hk id hd⟩
  have HP : Hid (∀ W, Kept No w W → _) := fun W hk => Parse_u p W (HE.out W hk).1 (HE.out W hk).2.1 hR
  have HPr : Hid (∀ (W : World) (ds : List Value) (S' : Nat → Prop), Kept No w W → TI (trOf R) → tz (trOf R) = tz x → NodeIs S' W (trOf R) ds → Calls Tryz.prog 11 #[.agg ds.toArray] W fun r w' => r = .returned (.string p) ∧ Kept No W w') := fun W ds S' hk h1 h2 h3 => by
    have := Print_src hL h (HE.out W hk).1 (HE.out W hk).2.2.1 (HE.out W hk).2.2.2 h1 (prT_alike h2) h3
    rwa [HPp.out] at this
  have HSm : Hid (∀ (W : World) (S' S'' : Nat → Prop) (cs ds : List Value), tz (trOf R) = tz x → NodeIs S' W (trOf R) cs → NodeIs S'' W x ds → Calls Tryz.prog 15 #[.agg cs.toArray, .agg ds.toArray] W fun r w' => r = .returned (.bool true) ∧ Kept No W w') := fun W S' S'' cs ds h1 h2 h3 => by
    have := Same_u hR S' S'' x W cs ds h2 h3
    rwa [(smB_iff _ _).2 h1] at this
  clear he hg ht hd hL h hb hR HPp;obtain ⟨k, t, vt, vn, n, xl, xa⟩ := x;obtain ⟨sv, rfl, hll⟩ := NodeIs.cs.1 hX;obtain ⟨ao, ln, cp, rfl⟩ := slice_of hll;obtain ⟨W0, HW0⟩ := nm (w.alloc (nb (ncs k t vt vn n (.slice ao ln cp) xa)));have hk0 : Kept No w W0 := by rw [← HW0.out]; exact (Kept.refl No w).alloc _
  have hb0 : W0.heap[w.heap.size]? = some (nb (ncs k t vt vn n (.slice ao ln cp) xa)) := by rw [← HW0.out]; exact World.alloc_heap_new w _
  have HC0 : Hid _ := HP.out W0 hk0;have H0 : Hid (Kept No w W0 ∧ W0.heap[w.heap.size]? = some (nb (ncs k t vt vn n (.slice ao ln cp) xa)) ∧ NodeIs S W0 (.mk k t vt vn n xl xa) (ncs k t vt vn n (.slice ao ln cp) xa)) := ⟨hk0, hb0, nkp hk0.no _ _ hX⟩;unfold nb ncs at HW0;clear hX hll hk0 hb0 HP;unfold ncs;go_enter Tryz.func19, Tryz.ntmps19
  go_wp2_with (first | rw [HW0.out])
  clear HW0;refine cmo HC0.out ?_;rintro r W1 ⟨hk1, cs1, rfl, hY⟩;obtain ⟨y, HY0⟩ := nm (trOf R);rw [HY0.out] at hY HPr HSm hda;obtain ⟨yk, yt, yvt, yvn, yn, yl, ya⟩ := y;obtain ⟨sv, rfl, hll⟩ := NodeIs.cs.1 hY;obtain ⟨ao1, ln1, cp1, rfl⟩ := slice_of hll;obtain ⟨X1, HW1⟩ := nm (W1.alloc (nb (ncs yk yt yvt yvn yn (.slice ao1 ln1 cp1) ya)));have ka : Kept No W1 X1 := by rw [← HW1.out]; exact (Kept.refl No W1).alloc _
  have hb1 : X1.heap[W1.heap.size]? = some (nb (ncs yk yt yvt yvn yn (.slice ao1 ln1 cp1) ya)) := by rw [← HW1.out]; exact World.alloc_heap_new W1 _
  have hk2 := hk1.trans ka;have HX1 : Hid (Kept No w X1 ∧ NodeIs (fun b => b < W0.heap.size) X1 (.mk yk yt yvt yvn yn yl ya) (ncs yk yt yvt yvn yn (.slice ao1 ln1 cp1) ya) ∧ NodeIs S X1 (.mk k t vt vn n xl xa) (ncs k t vt vn n (.slice ao ln cp) xa)) := ⟨H0.out.1.trans hk2, nkp ka.no _ _ hY, nkp hk2.no _ _ H0.out.2.2⟩;have hb0 := hk2.heap H0.out.2.1 id;have HB : Hid (X1.heap[W1.heap.size]? = some (nb (ncs yk yt yvt yvn yn (.slice ao1 ln1 cp1) ya))) := hb1;obtain ⟨r00, r01, r02, r03, r04, r05, r06⟩ := nb_cells hb0;obtain ⟨r10, r11, r12, r13, r14, r15, r16⟩ := nb_cells hb1;clear hk1 hY hll ka hb1 hk2 hb0 H0 HC0;unfold nb ncs at HW1;unfold ncs;obtain ⟨cd, HCd⟩ := nm (cdOf R);rw [HCd.out] at hda ⊢;rcases hda with ⟨h1, rfl⟩ | rfl | ⟨rfl, h1, h2⟩
  · have k1 : (8192 : Int) < (p.size : Int) := by omega
    clear r00 r01 r02 r03 r04 r05 r06 r10 r11 r12 r13 r14 r15 r16 h1 HPr HSm;go_wp2_with (first | rw [HW1.out] | (go_at_call 18; refine cmo (no_any _ _) ?_; rintro e w1 ⟨rfl, rfl⟩))
    go_ret
    exact ⟨rfl, HX1.out.1⟩
  · clear r00 r01 r02 r03 r04 r05 r06 r10 r11 r12 r13 r14 r15 r16 HPr HSm;go_wp2_with (first | rw [HW1.out] | (go_at_call 18; refine cmo (no_any _ _) ?_; rintro e w1 ⟨rfl, rfl⟩))
    go_ret
    exact ⟨rfl, HX1.out.1⟩
  · have HC1 : Hid _ := HSm.out X1 _ _ _ _ h2 HX1.out.2.1 HX1.out.2.2;have H12 : Hid (TI (.mk yk yt yvt yvn yn yl ya) ∧ tz (.mk yk yt yvt yvn yn yl ya) = tz (.mk k t vt vn n xl xa)) := ⟨h1, h2⟩;clear HSm h1 h2;go_wp2_with (first | rw [HW1.out] | (go_at_call 18; refine cmo (no_any _ _) ?_; rintro e w1 ⟨rfl, rfl⟩))
    refine cmo HC1.out ?_;rintro r W2 ⟨rfl, hk3⟩;have HC2 : Hid _ := HPr.out W2 _ _ (HX1.out.1.trans hk3) H12.out.1 H12.out.2 (nkp hk3.no _ _ HX1.out.2.1);obtain ⟨r10, r11, r12, r13, r14, r15, r16⟩ := nb_cells (hk3.heap HB.out id);have HK2 : Hid (Kept No w W2) := HX1.out.1.trans hk3;clear hk3 r00 r01 r02 r03 r04 r05 r06 HC1 HPr HX1 HB;go_wp2_with fail
    refine cmo HC2.out ?_;rintro r W3 ⟨rfl, hk4⟩;have HK3 : Hid (Kept No w W3) := HK2.out.trans hk4;clear hk4 r10 r11 r12 r13 r14 r15 r16 HC2 HK2;go_wp2_with fail
    go_ret
    exact ⟨rfl, HK3.out⟩
theorem ParseAgain_any (s : ByteArray) (w : World) (hz : s.size ≤ 140737488351232) (he : ErrIs w) (hg : SgIs w) (ht : Tab10 w) (hd : w.cell? ⟨7, 15, none⟩ = some (.int .u8 4)) :
    Calls Tryz.prog 4 #[.string s] w fun r w' => r = .returned (.bool true) ∧ Kept No w w' := by
  obtain ⟨R, hR⟩ := PsR.all s;have HP : Hid _ := Parse_u s w he hg hR;have HE : Hid (∀ W, Kept No w W → ErrIs W ∧ SgIs W ∧ Tab10 W ∧ W.cell? ⟨7, 15, none⟩ = some (.int .u8 4)) := fun W hk => ⟨he.no hk, hg.no hk, tab10_below ht hk.below, kept_cell hk id hd⟩
  have HA : Hid (∀ W, Kept No w W → Calls Tryz.prog 10 #[] W fun r w' => r = .returned (.bool true) ∧ Kept No W w') := fun W hk => alive_any (he.no hk) (hg.no hk) (tab10_below ht hk.below)
  have hda : (cdOf R == 0) = false ∨ (cdOf R = 0 ∧ ∃ (hs : s.size ≤ 8192) (L : List Tk), Lx s hs (skipB false (bl s)) none L ∧ whole ⟨L, (s.size : Int)⟩ = .ok (trOf R)) := by
    by_cases h0 : cdOf R = 0
    · right
      refine ⟨h0, ?_⟩;obtain ⟨l, a, e⟩ := hR.zero h0;rcases hR with ⟨_, rfl⟩ | ⟨hs, e', L, hL, rfl⟩
      · cases e
      · cases e' with
        | some z => cases e
        | none => exact ⟨hs, L, hL, by dsimp only at e ⊢; rw [e]; rfl⟩
    · left; simpa using h0
  clear hR he hg ht hd;obtain ⟨y, HY0⟩ := nm (trOf R);rw [HY0.out] at HP hda;obtain ⟨cd, HCd⟩ := nm (cdOf R);rw [HCd.out] at HP hda;clear HY0 HCd;obtain ⟨yk, yt, yvt, yvn, yn, yl, ya⟩ := y;go_enter Tryz.func4, Tryz.ntmps4
  go_wp2_with fail
  refine cmo HP.out ?_;rintro r W1 ⟨hk1, cs1, rfl, hY⟩;obtain ⟨sv, rfl, hll⟩ := NodeIs.cs.1 hY;obtain ⟨ao1, ln1, cp1, rfl⟩ := slice_of hll;obtain ⟨X1, HW1⟩ := nm (W1.alloc (nb (ncs yk yt yvt yvn yn (.slice ao1 ln1 cp1) ya)));have ka : Kept No W1 X1 := by rw [← HW1.out]; exact (Kept.refl No W1).alloc _
  have hb1 : X1.heap[W1.heap.size]? = some (nb (ncs yk yt yvt yvn yn (.slice ao1 ln1 cp1) ya)) := by rw [← HW1.out]; exact World.alloc_heap_new W1 _
  have HX1 : Hid (Kept No w X1 ∧ NodeIs (fun b => b < w.heap.size) X1 (.mk yk yt yvt yvn yn yl ya) (ncs yk yt yvt yvn yn (.slice ao1 ln1 cp1) ya) ∧ X1.heap[W1.heap.size]? = some (nb (ncs yk yt yvt yvn yn (.slice ao1 ln1 cp1) ya))) := ⟨hk1.trans ka, nkp ka.no _ _ hY, hb1⟩;clear hk1 hY hll ka hb1 HP;unfold nb ncs at HW1;unfold ncs;rcases hda with h1 | ⟨rfl, hs, L, hL, hw⟩
  · go_wp2_with (first | rw [HW1.out] | (go_at_call 18; refine cmo (no_any _ _) ?_; rintro e w1 ⟨rfl, rfl⟩))
    refine cmo (HA.out _ HX1.out.1) ?_;rintro r W2 ⟨rfl, hk2⟩;have HK2 : Hid (Kept No w W2) := HX1.out.1.trans hk2;clear hk2 HX1 HA HE HW1;go_wp2_with fail
    go_ret
    exact ⟨rfl, HK2.out⟩
  · have hT : TI (.mk yk yt yvt yvn yn yl ya) := (whole_c (ti_clo (V := ⟨L, (s.size : Int)⟩) hL.cut0 (by have := hL.len; show L.length ≤ _; omega) w (HE.out w (Kept.refl _ _)).1) hw).1
    have HPr : Hid (∀ W, Kept No X1 W → Calls Tryz.prog 11 #[.agg (ncs yk yt yvt yvn yn (.slice ao1 ln1 cp1) ya).toArray] W fun r w' => r = .returned (.string (joinB (prT ntT qtT (.mk yk yt yvt yvn yn yl ya)))) ∧ Kept No W w') := fun W hk => by
      have h2 := HE.out W (HX1.out.1.trans hk);exact Print_src hL hw h2.1 h2.2.2.1 h2.2.2.2 hT rfl (nkp hk.no _ _ HX1.out.2.1)
    have HAg : Hid (∀ W, Kept No X1 W → Calls Tryz.prog 19 #[.string (joinB (prT ntT qtT (.mk yk yt yvt yvn yn yl ya))), .agg (ncs yk yt yvt yvn yn (.slice ao1 ln1 cp1) ya).toArray] W fun r w' => r = .returned (.bool true) ∧ Kept No W w') := fun W hk => by
      have h2 := HE.out W (HX1.out.1.trans hk);exact again_any hL hw h2.1 h2.2.1 h2.2.2.1 h2.2.2.2 (nkp hk.no _ _ HX1.out.2.1)
    have HA2 : Hid (∀ W, Kept No X1 W → Calls Tryz.prog 10 #[] W fun r w' => r = .returned (.bool true) ∧ Kept No W w') := fun W hk => HA.out W (HX1.out.1.trans hk)
    obtain ⟨p, HPp⟩ := nm (joinB (prT ntT qtT (.mk yk yt yvt yvn yn yl ya)));rw [HPp.out] at HPr HAg;clear hT hw hL HE HPp HA
    go_upto_region 4 with (first | rw [HW1.out] | (go_at_call 18; refine cmo (no_any _ _) ?_; rintro e w1 ⟨rfl, rfl⟩))
    clear HW1;have HL : Hid (∀ W, Kept No X1 W → _) := fun W hk => nb_cells (hk.heap HX1.out.2.2 id)
    unfold ncs at HPr HAg;refine region_quiet_class (C := fun w' => Kept No X1 w') (by kernel_rfl) (by kernel_rfl) (Kept.refl _ _).drew ?_;refine q_op (.agg #[.int .i64 yk, .string yt, .int .i64 yvt, .int .i64 yvn, .int .i64 yn, .slice ao1 ln1 cp1, .int .i64 ya]) (by kernel_rfl) (fun w2 hw2 => by obtain ⟨r0, r1, r2, r3, r4, r5, r6⟩ := HL.out w2 hw2; go_simp) ?_;simp only [Act.put, List.setIfInBounds_toArray, List.set_cons_zero, List.set_cons_succ];refine q_call 11 #[.agg #[.int .i64 yk, .string yt, .int .i64 yvt, .int .i64 yvn, .int .i64 yn, .slice ao1 ln1 cp1, .int .i64 ya]] (.string p) (by kernel_rfl) (fun w2 hw2 => by simp [go_sem]) (fun w2 hw2 => (HPr.out w2 hw2).mono (fun e w3 ⟨he, hb⟩ => ⟨he, hw2.trans hb⟩)) ?_;simp only [Act.put, List.setIfInBounds_toArray, List.set_cons_zero, List.set_cons_succ];refine q_op (.agg #[.int .i64 yk, .string yt, .int .i64 yvt, .int .i64 yvn, .int .i64 yn, .slice ao1 ln1 cp1, .int .i64 ya]) (by kernel_rfl) (fun w2 hw2 => by obtain ⟨r0, r1, r2, r3, r4, r5, r6⟩ := HL.out w2 hw2; go_simp) ?_;simp only [Act.put, List.setIfInBounds_toArray, List.set_cons_zero, List.set_cons_succ];refine q_call 19 #[.string p, .agg #[.int .i64 yk, .string yt, .int .i64 yvt, .int .i64 yvn, .int .i64 yn, .slice ao1 ln1 cp1, .int .i64 ya]] (.bool true) (by kernel_rfl) (fun w2 hw2 => by simp [go_sem]) (fun w2 hw2 => (HAg.out w2 hw2).mono (fun e w3 ⟨he, hb⟩ => ⟨he, hw2.trans hb⟩)) ?_;simp only [Act.put, List.setIfInBounds_toArray, List.set_cons_zero, List.set_cons_succ];refine q_op (.bool true) (by kernel_rfl) (fun w2 hw2 => by simp [go_sem]) ?_;simp only [Act.put, List.setIfInBounds_toArray, List.set_cons_zero, List.set_cons_succ];refine q_call 10 #[] (.bool true) (by kernel_rfl) (fun w2 hw2 => by simp [go_sem]) (fun w2 hw2 => (HA2.out w2 hw2).mono (fun e w3 ⟨he, hb⟩ => ⟨he, hw2.trans hb⟩)) ?_;simp only [Act.put, List.setIfInBounds_toArray, List.set_cons_zero, List.set_cons_succ];refine q_op (.bool true) (by kernel_rfl) (fun w2 hw2 => by simp [go_sem]) ?_;simp only [Act.put, List.setIfInBounds_toArray, List.set_cons_zero, List.set_cons_succ];refine q_op (.bool true) (by kernel_rfl) (fun w2 hw2 => by simp [go_sem]) ?_;simp only [Act.put, List.setIfInBounds_toArray, List.set_cons_zero, List.set_cons_succ];refine wpQuiet_nil ?_;intro w3 H3;have HK3 : Hid (Kept No w w3) := HX1.out.1.trans H3;clear H3 HX1 HPr HAg HA2 HL;go_wp2_with fail
    go_ret
    exact ⟨rfl, HK3.out⟩
end Go.Proofs.YtmoiikpjegbokaaGreatDoor
