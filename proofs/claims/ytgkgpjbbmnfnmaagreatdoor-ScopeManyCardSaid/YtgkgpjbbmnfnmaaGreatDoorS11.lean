/- Scope: a function, in memory. -/
import Derived.Test.YtgkgpjbbmnfnmaaGreatDoorS10
namespace Go.Proofs.YtgkgpjbbmnfnmaaGreatDoor
open Go.RowKit
set_option linter.unusedSimpArgs false
set_option linter.unusedVariables false

theorem fstore_op {o : Oper} {a : Act} {w : World} {r : Nat} {x y : Tmp} {p q c : Int} {C : Array Value} {v4 v5 v6 : Value} (hp : o.op = .store 66 (.tmp x) (.tmp y)) (e : a.eval (.tmp x) = .pointer (some ⟨r, 4, none⟩)) (e2 : a.eval (.tmp y) = .agg #[.int .i64 p, .int .i64 q, .int .i64 c]) (h : w.heap[r]? = some (.cells C 69 (0, 0))) (h4 : C[4]? = some v4) (h5 : C[5]? = some v5) (h6 : C[6]? = some v6) :
    (execOp a.eval o).run Tryz.prog w = .ok .skip (((w.setCell ⟨r, 4, none⟩ (.int .i64 p)).setCell ⟨r, 5, none⟩ (.int .i64 q)).setCell ⟨r, 6, none⟩ (.int .i64 c)) := by
  have c4 := cell_of h 4
  have c5 := cell_of h 5
  have c6 := cell_of h 6
  have f4 := frozen_of h 4
  have f5 := frozen_of h 5
  have f6 := frozen_of h 6
  rw [h4] at c4
  rw [h5] at c5
  rw [h6] at c6
  unfold execOp
  rw [hp]
  simp only [e, e2]
  go_simp
set_option maxRecDepth 20000 in
set_option maxHeartbeats 4000000 in
theorem funR_any {R0 N B : Nat} {w : World} {r sb M nm : Nat} {v u : Value} {s : St} (h : Rz R0 N B w r sb M nm v u s) {ao ao' : Option Addr} (cp cp' : Nat) {ns l : List Tr} (hns : LsA (fun b => R0 ≤ b) w ao ns) (hl : LsA (fun b => R0 ≤ b) w ao' l) (hn : N + 1 + nnL ns + nnL l ≤ 90000) (hW : ∀ x ∈ l, WalkIs x) :
    Calls Tryz.prog 36 #[PT r, .slice ao ns.length cp, .slice ao' l.length cp'] w (WR R0 (N + 1 + nnL ns + nnL l) B w r sb M v u (funS ns (wkR l) s)) := by
  have HB : Hid (∀ X v' u' nm', Rz R0 (N + 1) B X r sb M nm' v' u' (inS s) → Kept (fun b => R0 ≤ b) w X → Calls Tryz.prog 37 #[PT r, .slice ao ns.length cp, .slice ao' l.length cp'] X (WR R0 (N + 1 + nnL ns + nnL l) B X r sb M v' u' (blkS ns (wkR l) (inS s)))) := fun X v' u' nm' hr hk => blkR_any hr cp cp' (hns.kept hk) (hl.kept hk) hn hW
  obtain ⟨W0, HW0⟩ : ∃ W0, Hid (w.alloc (.cells #[.int .i64 s.num, .int .i64 s.base, .int .i64 s.made] 66) = W0) := ⟨_, show _ = _ from rfl⟩
  obtain ⟨T, HT⟩ : ∃ T, Hid (w.heap.size = T) := ⟨_, show _ = _ from rfl⟩
  have k0 : Kept No w W0 := by rw [← HW0.out]; exact (Kept.refl No w).alloc _
  have b0 : W0.heap[T]? = some (.cells #[.int .i64 s.num, .int .i64 s.base, .int .i64 s.made] 66 (0, 0)) := by rw [← HT.out]; exact HW0.out ▸ World.alloc_heap_new w _
  have hr0 := h.no k0
  have H1 : Hid (Rz R0 N B W0 r sb M nm v u s ∧ Kept No w W0 ∧ W0.heap[T]? = some (.cells #[.int .i64 s.num, .int .i64 s.base, .int .i64 s.made] 66 (0, 0))) := ⟨hr0, k0, b0⟩
  have H0 : Hid (Rz R0 N B w r sb M nm v u s) := h
  obtain ⟨c0, c1, c2, c3, c4, c5, c6, c7, c8, c9, c10, c11⟩ := RC_cells h.rv.box
  obtain ⟨d0, d1, d2, d3, d4, d5, d6, d7, d8, d9, d10, d11⟩ := RC_cells hr0.rv.box
  have f7 := frozen_of hr0.rv.box 7
  have w1 : wrap64 (s.cnt + 1) = s.cnt + 1 := by unfold wrap64; have := h.sml.cnt; omega
  clear c0 c1 c2 c3 c7 c8 c9 c10 c11 d0 d1 d2 d3 d4 d5 d6 d8 d9 d10 d11 k0 b0 hr0 h hns hl hn hW
  go_enter Tryz.func36, Tryz.ntmps36
  go_wp2_with (first | rw [HW0.out])
  rw [HT.out]
  clear HW0 c4 c5 c6 f7 w1 d7
  have kr : Kept (fun b => b = r) W0 (W0.setCell ⟨r, 7, none⟩ (.int .i64 (s.cnt + 1))).drew := ((Kept.refl (fun b => b = r) W0).set r 7 _ (.inl rfl)).drew
  have HV : Hid (Rv (W0.setCell ⟨r, 7, none⟩ (.int .i64 (s.cnt + 1))).drew r sb M nm B v u { s with cnt := s.cnt + 1 } ∧ PassR r sb M v u w v u (W0.setCell ⟨r, 7, none⟩ (.int .i64 (s.cnt + 1))).drew ∧ (W0.setCell ⟨r, 7, none⟩ (.int .i64 (s.cnt + 1))).drew.heap[T]? = some (.cells #[.int .i64 s.num, .int .i64 s.base, .int .i64 s.made] 66 (0, 0))) :=
    ⟨H1.out.1.rv.box' kr (set_same H1.out.1.rv.box 7 (.int .i64 (s.cnt + 1))) rfl rfl rfl, (PassR.no H1.out.2.1).trans (.box kr), kr.heap H1.out.2.2 (apart H1.out.2.2 H1.out.1.rv.box (by decide))⟩
  clear kr H1
  obtain ⟨c0, c1, c2, c3, c4, c5, c6, c7, c8, c9, c10, c11⟩ := RC_cells HV.out.1.box
  unfold kf at c1
  refine regionU (fun Y => Y.cell? ⟨r, 7, none⟩ = some (.int .i64 (s.cnt + 1)) ∧ Y.cell? ⟨r, 1, none⟩ = some (.func (.func 64) #[] #[.pointer (some ⟨sb, 0, none⟩)])) 14 ⟨c7, c1⟩ (fun hSS => ?_)
  generalize (W0.setCell ⟨r, 7, none⟩ (.int .i64 (s.cnt + 1))).drew = Y at HV hSS ⊢
  clear c0 c1 c2 c3 c4 c5 c6 c7 c8 c9 c10 c11
  refine tkU 0 (PT r) rfl hSS ?_ (hy := by rintro w' ⟨g1, g2⟩; go_simp)
  try simp only [Act.put, List.setIfInBounds_toArray, List.set_cons_zero, List.set_cons_succ, List.getElem_toArray, List.getElem_cons_zero, List.getElem_cons_succ]
  refine tkU 1 (PT r) rfl hSS ?_ (hy := by rintro w' ⟨g1, g2⟩; go_simp)
  try simp only [Act.put, List.setIfInBounds_toArray, List.set_cons_zero, List.set_cons_succ, List.getElem_toArray, List.getElem_cons_zero, List.getElem_cons_succ]
  refine tkU 2 (PT r) rfl hSS ?_ (hy := by rintro w' ⟨g1, g2⟩; go_simp)
  try simp only [Act.put, List.setIfInBounds_toArray, List.set_cons_zero, List.set_cons_succ, List.getElem_toArray, List.getElem_cons_zero, List.getElem_cons_succ]
  refine tkU 3 (.pointer (some ⟨r, 7, none⟩)) rfl hSS ?_ (hy := by rintro w' ⟨g1, g2⟩; go_simp)
  try simp only [Act.put, List.setIfInBounds_toArray, List.set_cons_zero, List.set_cons_succ, List.getElem_toArray, List.getElem_cons_zero, List.getElem_cons_succ]
  refine tkU 4 (.int .i64 (s.cnt + 1)) rfl hSS ?_ (hy := by rintro w' ⟨g1, g2⟩; go_simp)
  try simp only [Act.put, List.setIfInBounds_toArray, List.set_cons_zero, List.set_cons_succ, List.getElem_toArray, List.getElem_cons_zero, List.getElem_cons_succ]
  refine tkU 5 (PT r) rfl hSS ?_ (hy := by rintro w' ⟨g1, g2⟩; go_simp)
  try simp only [Act.put, List.setIfInBounds_toArray, List.set_cons_zero, List.set_cons_succ, List.getElem_toArray, List.getElem_cons_zero, List.getElem_cons_succ]
  refine tkU 6 (PT r) rfl hSS ?_ (hy := by rintro w' ⟨g1, g2⟩; go_simp)
  try simp only [Act.put, List.setIfInBounds_toArray, List.set_cons_zero, List.set_cons_succ, List.getElem_toArray, List.getElem_cons_zero, List.getElem_cons_succ]
  refine tkU 7 (.pointer (some ⟨r, 0, none⟩)) rfl hSS ?_ (hy := by rintro w' ⟨g1, g2⟩; go_simp)
  try simp only [Act.put, List.setIfInBounds_toArray, List.set_cons_zero, List.set_cons_succ, List.getElem_toArray, List.getElem_cons_zero, List.getElem_cons_succ]
  refine tkU 8 (.pointer (some ⟨r, 1, none⟩)) rfl hSS ?_ (hy := by rintro w' ⟨g1, g2⟩; go_simp)
  try simp only [Act.put, List.setIfInBounds_toArray, List.set_cons_zero, List.set_cons_succ, List.getElem_toArray, List.getElem_cons_zero, List.getElem_cons_succ]
  refine tkU 9 (.func (.func 64) #[] #[.pointer (some ⟨sb, 0, none⟩)]) rfl hSS ?_ (hy := by rintro w' ⟨g1, g2⟩; go_simp)
  try simp only [Act.put, List.setIfInBounds_toArray, List.set_cons_zero, List.set_cons_succ, List.getElem_toArray, List.getElem_cons_zero, List.getElem_cons_succ]
  have HC : Hid _ := size_any HV.out.1.stk
  refine rdU 10 rfl (fun K hK => ?_)
  go_simp
  refine Calls.mono HC.out ?_
  rintro e W5 ⟨rfl, rfl⟩
  refine hK.out _ _ (fun _ => hSS) ?_
  clear hK K HC
  try simp only [Act.put, List.setIfInBounds_toArray, List.set_cons_zero, List.set_cons_succ, List.getElem_toArray, List.getElem_cons_zero, List.getElem_cons_succ]
  refine tkU 11 (.agg #[.int .i64 (s.cnt + 1), .int .i64 (s.stk.length : Int), .int .i64 0]) rfl hSS ?_ (hy := by rintro w' ⟨g1, g2⟩; go_simp)
  try simp only [Act.put, List.setIfInBounds_toArray, List.set_cons_zero, List.set_cons_succ, List.getElem_toArray, List.getElem_cons_zero, List.getElem_cons_succ]
  refine tkU 12 (PT r) rfl hSS ?_ (hy := by rintro w' ⟨g1, g2⟩; go_simp)
  try simp only [Act.put, List.setIfInBounds_toArray, List.set_cons_zero, List.set_cons_succ, List.getElem_toArray, List.getElem_cons_zero, List.getElem_cons_succ]
  refine tkU 13 (.pointer (some ⟨r, 4, none⟩)) rfl hSS ?_ (hy := by rintro w' ⟨g1, g2⟩; go_simp)
  try simp only [Act.put, List.setIfInBounds_toArray, List.set_cons_zero, List.set_cons_succ, List.getElem_toArray, List.getElem_cons_zero, List.getElem_cons_succ]
  refine rdO (i := 14) (p := .store 66 (.tmp 31) (.tmp 29)) ⟨_, rfl, rfl, rfl, rfl, rfl⟩ (fun oo K hd hp ht hK => ?_) (by kernel_rfl)
  unfold Oper.wp
  rw [fstore_op hp rfl rfl HV.out.1.box rfl rfl rfl]
  refine hK _ _ (fun e => absurd rfl e) ?_
  rw [hd]
  clear hK K hd hp ht oo hSS
  try simp only [Act.put, List.setIfInBounds_toArray, List.set_cons_zero, List.set_cons_succ, List.getElem_toArray, List.getElem_cons_zero, List.getElem_cons_succ]
  refine dnU ?_ (by kernel_rfl) _
  have kr : Kept (fun b => b = r) Y (((Y.setCell ⟨r, 4, none⟩ (.int .i64 (s.cnt + 1))).setCell ⟨r, 5, none⟩ (.int .i64 (s.stk.length : Int))).setCell ⟨r, 6, none⟩ (.int .i64 0)) := (((Kept.refl (fun b => b = r) Y).set r 4 _ (.inl rfl)).set r 5 _ (.inl rfl)).set r 6 _ (.inl rfl)
  have HX : Hid (Rz R0 (N + 1) B (((Y.setCell ⟨r, 4, none⟩ (.int .i64 (s.cnt + 1))).setCell ⟨r, 5, none⟩ (.int .i64 (s.stk.length : Int))).setCell ⟨r, 6, none⟩ (.int .i64 0)) r sb M nm v u (inS s) ∧ PassR r sb M v u w v u (((Y.setCell ⟨r, 4, none⟩ (.int .i64 (s.cnt + 1))).setCell ⟨r, 5, none⟩ (.int .i64 (s.stk.length : Int))).setCell ⟨r, 6, none⟩ (.int .i64 0)) ∧ (((Y.setCell ⟨r, 4, none⟩ (.int .i64 (s.cnt + 1))).setCell ⟨r, 5, none⟩ (.int .i64 (s.stk.length : Int))).setCell ⟨r, 6, none⟩ (.int .i64 0)).heap[T]? = some (.cells #[.int .i64 s.num, .int .i64 s.base, .int .i64 s.made] 66 (0, 0))) := by
    have hp := HV.out.2.1.trans (.box kr)
    have hlow := hp.low H0.out.hz H0.out.le
    have hs := H0.out.sml
    refine ⟨⟨HV.out.1.box' kr (set_same (set_same (set_same HV.out.1.box 4 _) 5 _) 6 _) rfl rfl rfl, by have := H0.out.nm; omega, hlow.2.1, ?_, hlow.2.2⟩, hp, kr.heap HV.out.2.2 (apart HV.out.2.2 HV.out.1.box (by decide))⟩
    have q1 := hs.stk
    have q2 := hs.us
    have q3 := hs.cnt
    exact ⟨by show s.stk.length ≤ _; omega, by show s.us.length ≤ _; omega, fun o n => ⟨(hs.far o n).1, by have := (hs.far o n).2; show s.far o n ≤ _; omega⟩, by show 0 ≤ s.cnt + 1 ∧ s.cnt + 1 ≤ _; omega, by show 0 ≤ (s.stk.length : Int) ∧ (s.stk.length : Int) ≤ _; omega, by show (0 : Int) ≤ 0 ∧ (0 : Int) ≤ _; omega, by show 0 ≤ s.cnt + 1 ∧ s.cnt + 1 ≤ _; omega, fun e he => by have := hs.ent e he; omega, fun x hx => by have := hs.use x hx; omega⟩
  clear kr HV
  generalize ((Y.setCell ⟨r, 4, none⟩ (.int .i64 (s.cnt + 1))).setCell ⟨r, 5, none⟩ (.int .i64 (s.stk.length : Int))).setCell ⟨r, 6, none⟩ (.int .i64 0) = X at HX ⊢
  go_wp2_with fail
  refine Calls.mono (HB.out _ _ _ _ HX.out.1 (HX.out.2.1.low H0.out.hz H0.out.le).1) ?_
  rintro e W6 ⟨rfl, v2, u2, nm2, hrz, hpass⟩
  have hT6 := hpass.kept.heap HX.out.2.2 (HX.out.1.rv.other HX.out.2.2 (by decide) (by decide) (by decide) (by decide))
  have H6 : Hid (Rz R0 (N + 1 + nnL ns + nnL l) B W6 r sb M nm2 v2 u2 (blkS ns (wkR l) (inS s)) ∧ PassR r sb M v u w v2 u2 W6) := ⟨hrz, HX.out.2.1.trans hpass⟩
  obtain ⟨c0, c1, c2, c3, c4, c5, c6, c7, c8, c9, c10, c11⟩ := RC_cells hrz.rv.box
  have fz := fun o => frozen_of hrz.rv.box o
  have t0 := cell_of hT6 0
  have t1 := cell_of hT6 1
  have t2 := cell_of hT6 2
  simp only [List.getElem?_toArray, List.getElem?_cons_zero, List.getElem?_cons_succ] at t0 t1 t2
  have HF : Hid (∀ W, ((W6.setCell ⟨r, 4, none⟩ (.int .i64 s.num)).setCell ⟨r, 5, none⟩ (.int .i64 s.base)).setCell ⟨r, 6, none⟩ (.int .i64 s.made) = W → Rz R0 (N + 1 + nnL ns + nnL l) B W r sb M nm2 v2 u2 (funS ns (wkR l) s) ∧ PassR r sb M v u w v2 u2 W) := by
    rintro W rfl
    have kr : Kept (fun b => b = r) W6 (((W6.setCell ⟨r, 4, none⟩ (.int .i64 s.num)).setCell ⟨r, 5, none⟩ (.int .i64 s.base)).setCell ⟨r, 6, none⟩ (.int .i64 s.made)) := (((Kept.refl (fun b => b = r) W6).set r 4 _ (.inl rfl)).set r 5 _ (.inl rfl)).set r 6 _ (.inl rfl)
    have hp := H6.out.2.trans (.box kr)
    have hlow := hp.low H0.out.hz H0.out.le
    have hs := (H0.out.mono (show N ≤ N + 1 + nnL ns + nnL l by omega)).sml
    have hs2 := H6.out.1.sml
    exact ⟨⟨H6.out.1.rv.box' kr (set_same (set_same (set_same H6.out.1.rv.box 4 _) 5 _) 6 _) rfl rfl rfl, H6.out.1.nm, hlow.2.1, ⟨hs2.stk, hs2.us, hs2.far, hs.num, hs.base, hs.made, hs2.cnt, hs2.ent, hs2.use⟩, hlow.2.2⟩, hp⟩
  clear hrz hpass hT6 HB HX H6 c0 c1 c2 c3 c7 c8 c9 c10 c11
  go_wp2_with fail
  exact bodyPost_end (results_none Tryz.results36 _ _ _) rfl ⟨rfl, v2, u2, nm2, (HF.out _ rfl).1, (HF.out _ rfl).2⟩
end Go.Proofs.YtgkgpjbbmnfnmaaGreatDoor
