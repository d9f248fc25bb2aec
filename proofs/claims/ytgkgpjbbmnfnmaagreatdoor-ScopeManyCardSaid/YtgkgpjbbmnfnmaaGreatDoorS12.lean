/- Scope: the walk at a node, kind by kind. -/
import Derived.Test.YtgkgpjbbmnfnmaaGreatDoorS11
namespace Go.Proofs.YtgkgpjbbmnfnmaaGreatDoor
open Go.RowKit
set_option linter.unusedSimpArgs false
set_option linter.unusedVariables false

theorem lookK_in (l : List Ent) (t : ByteArray) : ∀ k, lookK l t k = (-1, -1) ∨ ∃ e ∈ l, e.t.toList = t.toList ∧ lookK l t k = (e.o, e.n)
  | 0 => .inl rfl
  | k + 1 => by
    unfold lookK
    cases hk : l[k]? with
    | none => exact lookK_in l t k
    | some e =>
      dsimp only
      split
      · rename_i he
        exact .inr ⟨e, List.mem_of_getElem? hk, by simpa using he, rfl⟩
      · exact lookK_in l t k
theorem Sml.look {N : Nat} {s : St} (h : Sml N s) (hN : N ≤ 90000) (t : ByteArray) (k : Nat) : wf (lookK s.stk t k).1 ∧ wf (lookK s.stk t k).2 := by
  rcases lookK_in s.stk t k with e | ⟨e, he, _, q⟩
  · rw [e]
    exact ⟨by unfold wf; decide, by unfold wf; decide⟩
  · rw [q]
    obtain ⟨h1, h2, h3, h4⟩ := h.ent e he
    exact ⟨wf_of h1 (by show e.o ≤ _; omega), wf_of h3 (by show e.n ≤ _; omega)⟩
theorem Sml.look2 {N : Nat} {s : St} (h : Sml N s) (t : ByteArray) (k : Nat) : -1 ≤ (lookK s.stk t k).1 ∧ (lookK s.stk t k).1 ≤ (N : Int) ∧ -1 ≤ (lookK s.stk t k).2 ∧ (lookK s.stk t k).2 ≤ (N : Int) := by
  rcases lookK_in s.stk t k with e | ⟨e, he, _, q⟩
  · rw [e]
    exact ⟨by decide, by show (-1 : Int) ≤ _; omega, by decide, by show (-1 : Int) ≤ _; omega⟩
  · rw [q]
    have := h.ent e he
    show -1 ≤ e.o ∧ e.o ≤ _ ∧ -1 ≤ e.n ∧ e.n ≤ _
    omega
theorem wk_mk (k : Int) (t : ByteArray) (vt vn n : Int) (l : List Tr) (a : Int) (s : St) : wk (.mk k t vt vn n l a) s = nodeS k t n.toNat l a (wkR l) s := by rw [wk]
/-- What a node's box holds, and what is known as the walk begins. -/
structure Bxw (R0 N B : Nat) (w W : World) (T r sb M nm : Nat) (v u : Value) (s : St) (k : Int) (t : ByteArray) (vt vn n : Int) (ao : Option Addr) (cp : Nat) (l : List Tr) (a : Int) : Prop where
  rz : Rz R0 N B W r sb M nm v u s
  kept : Kept No w W
  box : W.heap[T]? = some (.cells (ncs k t vt vn n (.slice ao l.length cp) a).toArray 43 (0, 0))
  ls : LsA (fun b => R0 ≤ b) W ao l

set_option maxRecDepth 20000 in
set_option maxHeartbeats 4000000 in
theorem walk_6 (t : ByteArray) (vt vn n : Int) (l : List Tr) (a : Int) (hW : ∀ x ∈ l, WalkIs x) : WalkIs (.mk 6 t vt vn n l a) := by
  intro R0 N B w r sb M nm v u s cs h hX hN
  obtain ⟨sv, rfl, hli⟩ := NodeIs.cs.1 hX
  obtain ⟨ao, cp, rfl, hcp, hls, hao⟩ := hli.ls
  obtain ⟨W0, HW0⟩ : ∃ W0, Hid (w.alloc (.cells (ncs 6 t vt vn n (.slice ao l.length cp) a).toArray 43) = W0) := ⟨_, show _ = _ from rfl⟩
  obtain ⟨T, HT⟩ : ∃ T, Hid (w.heap.size = T) := ⟨_, show _ = _ from rfl⟩
  have k0 : Kept No w W0 := by rw [← HW0.out]; exact (Kept.refl No w).alloc _
  have b0 : W0.heap[T]? = some (.cells (ncs 6 t vt vn n (.slice ao l.length cp) a).toArray 43 (0, 0)) := by rw [← HT.out]; exact HW0.out ▸ World.alloc_heap_new w _
  have H1 : Hid (Bxw R0 N B w W0 T r sb M nm v u s 6 t vt vn n ao cp l a) := ⟨h.no k0, k0, b0, hls.kept k0.no⟩
  have H0 : Hid (Rz R0 N B w r sb M nm v u s) := h
  have HN : Hid (N + (1 + nnL l) ≤ 90000) := by rw [nn] at hN; exact hN
  have HW : Hid (∀ x ∈ l, WalkIs x) := hW
  have HC : Hid (l.length ≤ cp) := hcp
  have hlen : l.length ≤ 90000 := by have := nnL_len l; have := HN.out; omega
  have w1 : wrap64 ((l.length : Int) - 1) = (l.length : Int) - 1 := by unfold wrap64; omega
  rw [wk_mk, nn]
  have y0 := cell_of b0 0
  have y1 := cell_of b0 1
  have y2 := cell_of b0 2
  have y3 := cell_of b0 3
  have y4 := cell_of b0 4
  have y5 := cell_of b0 5
  have y6 := cell_of b0 6
  simp only [ncs, List.getElem?_toArray, List.getElem?_cons_zero, List.getElem?_cons_succ] at y0 y1 y2 y3 y4 y5 y6
  clear k0 b0 h hX hN hW hls hli hcp
  unfold ncs at HW0
  unfold ncs
  go_enter Tryz.func20, Tryz.ntmps20
  go_wp2_with (first | rw [HW0.out] | rw [HT.out])
  obtain ⟨c0, c1, c2, c3, c4, c5, c6, c7, c8, c9, c10, c11⟩ := RC_cells H1.out.rz.rv.box
  unfold kf at c3
  have kd : Kept No W0 W0.drew := (Kept.refl No W0).drew
  have HV : Hid (Bxw R0 N B w W0.drew T r sb M nm v u s 6 t vt vn n ao cp l a) := ⟨H1.out.rz.no kd, H1.out.kept.trans kd, kd.heap H1.out.box id, H1.out.ls.kept kd.no⟩
  have hS : ∀ Y, Kept No W0 Y → Y.cell? ⟨r, 3, none⟩ = some (.func (.func 66) #[] #[.pointer (some ⟨sb, 0, none⟩)]) ∧ Y.cell? ⟨T, 0, none⟩ = some (.int .i64 6) ∧ Y.cell? ⟨T, 1, none⟩ = some (.string t) ∧ Y.cell? ⟨T, 2, none⟩ = some (.int .i64 vt) ∧ Y.cell? ⟨T, 3, none⟩ = some (.int .i64 vn) ∧ Y.cell? ⟨T, 4, none⟩ = some (.int .i64 n) ∧ Y.cell? ⟨T, 5, none⟩ = some (.slice ao l.length cp) ∧ Y.cell? ⟨T, 6, none⟩ = some (.int .i64 a) := fun Y hk =>
    ⟨kept_cell hk id c3, kept_cell hk id y0, kept_cell hk id y1, kept_cell hk id y2, kept_cell hk id y3, kept_cell hk id y4, kept_cell hk id y5, kept_cell hk id y6⟩
  have HS : Hid _ := hS
  have h0 := hS _ kd
  clear hS c0 c1 c2 c3 c4 c5 c6 c7 c8 c9 c10 c11 y0 y1 y2 y3 y4 y5 y6 H1
  refine regionU (fun Y => Y.cell? ⟨r, 3, none⟩ = some (.func (.func 66) #[] #[.pointer (some ⟨sb, 0, none⟩)]) ∧ Y.cell? ⟨T, 0, none⟩ = some (.int .i64 6) ∧ Y.cell? ⟨T, 1, none⟩ = some (.string t) ∧ Y.cell? ⟨T, 2, none⟩ = some (.int .i64 vt) ∧ Y.cell? ⟨T, 3, none⟩ = some (.int .i64 vn) ∧ Y.cell? ⟨T, 4, none⟩ = some (.int .i64 n) ∧ Y.cell? ⟨T, 5, none⟩ = some (.slice ao l.length cp) ∧ Y.cell? ⟨T, 6, none⟩ = some (.int .i64 a)) 10 h0 (fun hSS => ?_)
  have HK : Hid (Kept No W0 W0.drew) := kd
  generalize W0.drew = Y at HV hSS HK ⊢
  clear h0 kd
  refine tkU 0 (PT r) rfl hSS ?_ (hy := by rintro w' ⟨g1, g2, g3, g4, g5, g6, g7, g8⟩; go_simp)
  try simp only [Act.put, List.setIfInBounds_toArray, List.set_cons_zero, List.set_cons_succ, List.getElem_toArray, List.getElem_cons_zero, List.getElem_cons_succ]
  refine tkU 1 (.agg #[.int .i64 6, .string t, .int .i64 vt, .int .i64 vn, .int .i64 n, .slice ao l.length cp, .int .i64 a]) rfl hSS ?_ (hy := by rintro w' ⟨g1, g2, g3, g4, g5, g6, g7, g8⟩; go_simp)
  try simp only [Act.put, List.setIfInBounds_toArray, List.set_cons_zero, List.set_cons_succ, List.getElem_toArray, List.getElem_cons_zero, List.getElem_cons_succ]
  refine tkU 2 (PT r) rfl hSS ?_ (hy := by rintro w' ⟨g1, g2, g3, g4, g5, g6, g7, g8⟩; go_simp)
  try simp only [Act.put, List.setIfInBounds_toArray, List.set_cons_zero, List.set_cons_succ, List.getElem_toArray, List.getElem_cons_zero, List.getElem_cons_succ]
  refine tkU 3 (PT r) rfl hSS ?_ (hy := by rintro w' ⟨g1, g2, g3, g4, g5, g6, g7, g8⟩; go_simp)
  try simp only [Act.put, List.setIfInBounds_toArray, List.set_cons_zero, List.set_cons_succ, List.getElem_toArray, List.getElem_cons_zero, List.getElem_cons_succ]
  refine tkU 4 (.pointer (some ⟨r, 0, none⟩)) rfl hSS ?_ (hy := by rintro w' ⟨g1, g2, g3, g4, g5, g6, g7, g8⟩; go_simp)
  try simp only [Act.put, List.setIfInBounds_toArray, List.set_cons_zero, List.set_cons_succ, List.getElem_toArray, List.getElem_cons_zero, List.getElem_cons_succ]
  refine tkU 5 (.pointer (some ⟨r, 3, none⟩)) rfl hSS ?_ (hy := by rintro w' ⟨g1, g2, g3, g4, g5, g6, g7, g8⟩; go_simp)
  try simp only [Act.put, List.setIfInBounds_toArray, List.set_cons_zero, List.set_cons_succ, List.getElem_toArray, List.getElem_cons_zero, List.getElem_cons_succ]
  refine tkU 6 (.func (.func 66) #[] #[.pointer (some ⟨sb, 0, none⟩)]) rfl hSS ?_ (hy := by rintro w' ⟨g1, g2, g3, g4, g5, g6, g7, g8⟩; go_simp)
  try simp only [Act.put, List.setIfInBounds_toArray, List.set_cons_zero, List.set_cons_succ, List.getElem_toArray, List.getElem_cons_zero, List.getElem_cons_succ]
  refine tkU 7 (.pointer (some ⟨T, 1, none⟩)) rfl hSS ?_ (hy := by rintro w' ⟨g1, g2, g3, g4, g5, g6, g7, g8⟩; go_simp)
  try simp only [Act.put, List.setIfInBounds_toArray, List.set_cons_zero, List.set_cons_succ, List.getElem_toArray, List.getElem_cons_zero, List.getElem_cons_succ]
  refine tkU 8 (.string t) rfl hSS ?_ (hy := by rintro w' ⟨g1, g2, g3, g4, g5, g6, g7, g8⟩; go_simp)
  try simp only [Act.put, List.setIfInBounds_toArray, List.set_cons_zero, List.set_cons_succ, List.getElem_toArray, List.getElem_cons_zero, List.getElem_cons_succ]
  have HL : Hid _ := last_any HV.out.rz.rv.stk t (by have := HV.out.rz.sml.stk; have := HN.out; omega)
  have hwf := HV.out.rz.sml.look (by have := HN.out; omega) t s.stk.length
  obtain ⟨LK, HLK⟩ : ∃ LK, Hid (lookK s.stk t s.stk.length = LK) := ⟨_, show _ = _ from rfl⟩
  rw [HLK.out] at hwf
  have HL : Hid (Calls Tryz.prog 66 #[.string t, .pointer (some ⟨sb, 0, none⟩)] Y fun r w' => r = .returned (.agg #[.int .i64 LK.1, .int .i64 LK.2]) ∧ Kept No Y w') := by rw [← HLK.out]; exact HL.out
  have HWF : Hid _ := hwf
  clear hwf
  refine rdU 9 rfl (fun K hK => ?_)
  go_simp
  refine Calls.mono HL.out ?_
  rintro e W5 ⟨rfl, hk5⟩
  have H5 : Hid (Rz R0 N B W5 r sb M nm v u s ∧ Kept No w W5) := ⟨HV.out.rz.no hk5, HV.out.kept.trans hk5⟩
  refine hK.out _ _ (fun _ => HS.out _ (HK.out.trans hk5)) ?_
  clear hK K HL hk5 hSS HV HS
  try simp only [Act.put, List.setIfInBounds_toArray, List.set_cons_zero, List.set_cons_succ, List.getElem_toArray, List.getElem_cons_zero, List.getElem_cons_succ]
  have hm := H5.out.1.sml
  have HU : Hid _ := use_any H5.out.1.rv 6 t vt vn n ao l.length cp a LK.1 LK.2 HWF.out.1 HWF.out.2 (by have := H5.out.1.nm; have := HN.out; omega) (by have := hm.us; have := HN.out; omega) ⟨(hm.far _ _).1, by have := (hm.far LK.1 LK.2).2; have := HN.out; omega⟩
  clear hm
  refine rdU 10 rfl (fun K hK => ?_)
  go_simp
  refine Calls.mono HU.out ?_
  rintro e W6 ⟨rfl, u2, nm2, hn2, hrv, hpass⟩
  have HF : Hid (Rz R0 (N + (1 + nnL l)) B W6 r sb M nm2 v u2 (nodeS 6 t n.toNat l a (wkR l) s) ∧ PassR r sb M v u w v u2 W6) := by
    have hp := (PassR.no H5.out.2).trans hpass
    have hlow := hp.low H0.out.hz H0.out.le
    have e : nodeS 6 t n.toNat l a (wkR l) s = useS s a t LK.1 LK.2 := by unfold nodeS; rw [if_pos rfl, HLK.out]
    rw [e]
    exact ⟨⟨hrv, by have := H5.out.1.nm; omega, hlow.2.1, (bump_sml H5.out.1.sml a t _ _ (HLK.out ▸ H5.out.1.sml.look2 t s.stk.length)).mono (by omega), hlow.2.2⟩, hp⟩
  refine hK.out _ _ (fun e => absurd rfl e) ?_
  clear hK K hrv hpass HU H5
  try simp only [Act.put, List.setIfInBounds_toArray, List.set_cons_zero, List.set_cons_succ, List.getElem_toArray, List.getElem_cons_zero, List.getElem_cons_succ]
  refine dnU ?_ (by kernel_rfl) _
  go_wp2_with fail
  exact bodyPost_end (results_none Tryz.results20 _ _ _) rfl ⟨rfl, v, u2, nm2, HF.out.1, HF.out.2⟩

set_option maxRecDepth 20000 in
set_option maxHeartbeats 4000000 in
theorem walk_20 (t : ByteArray) (vt vn n : Int) (l : List Tr) (a : Int) (hW : ∀ x ∈ l, WalkIs x) : WalkIs (.mk 20 t vt vn n l a) := by
  intro R0 N B w r sb M nm v u s cs h hX hN
  obtain ⟨sv, rfl, hli⟩ := NodeIs.cs.1 hX
  obtain ⟨ao, cp, rfl, hcp, hls, hao⟩ := hli.ls
  obtain ⟨W0, HW0⟩ : ∃ W0, Hid (w.alloc (.cells (ncs 20 t vt vn n (.slice ao l.length cp) a).toArray 43) = W0) := ⟨_, show _ = _ from rfl⟩
  obtain ⟨T, HT⟩ : ∃ T, Hid (w.heap.size = T) := ⟨_, show _ = _ from rfl⟩
  have k0 : Kept No w W0 := by rw [← HW0.out]; exact (Kept.refl No w).alloc _
  have b0 : W0.heap[T]? = some (.cells (ncs 20 t vt vn n (.slice ao l.length cp) a).toArray 43 (0, 0)) := by rw [← HT.out]; exact HW0.out ▸ World.alloc_heap_new w _
  have H1 : Hid (Bxw R0 N B w W0 T r sb M nm v u s 20 t vt vn n ao cp l a) := ⟨h.no k0, k0, b0, hls.kept k0.no⟩
  have H0 : Hid (Rz R0 N B w r sb M nm v u s) := h
  have HN : Hid (N + (1 + nnL l) ≤ 90000) := by rw [nn] at hN; exact hN
  have HW : Hid (∀ x ∈ l, WalkIs x) := hW
  have HC : Hid (l.length ≤ cp) := hcp
  have hlen : l.length ≤ 90000 := by have := nnL_len l; have := HN.out; omega
  have w1 : wrap64 ((l.length : Int) - 1) = (l.length : Int) - 1 := by unfold wrap64; omega
  rw [wk_mk, nn]
  have y0 := cell_of b0 0
  have y1 := cell_of b0 1
  have y2 := cell_of b0 2
  have y3 := cell_of b0 3
  have y4 := cell_of b0 4
  have y5 := cell_of b0 5
  have y6 := cell_of b0 6
  simp only [ncs, List.getElem?_toArray, List.getElem?_cons_zero, List.getElem?_cons_succ] at y0 y1 y2 y3 y4 y5 y6
  clear k0 b0 h hX hN hW hls hli hcp
  unfold ncs at HW0
  unfold ncs
  go_enter Tryz.func20, Tryz.ntmps20
  go_wp2_with (first | rw [HW0.out] | rw [HT.out])
  refine Calls.mono (blkR_any (ns := []) H1.out.rz 0 cp (LsA.nil _ _ _) H1.out.ls (by have := HN.out; simp only [nnL]; omega) HW.out) ?_
  rintro e W6 ⟨rfl, v2, u2, nm2, hrz, hpass⟩
  go_wp2_with fail
  exact bodyPost_end (results_none Tryz.results20 _ _ _) rfl ⟨rfl, v2, u2, nm2, hrz.mono (by simp only [nnL]; omega), (PassR.no H1.out.kept).trans hpass⟩

set_option maxRecDepth 20000 in
set_option maxHeartbeats 4000000 in
theorem walk_d (t : ByteArray) (vt vn n : Int) (l : List Tr) (a : Int) (k : Int) (q : k ≠ 6 ∧ k ≠ 7 ∧ k ≠ 20 ∧ k ≠ 21 ∧ k ≠ 26 ∧ k ≠ 29) (hW : ∀ x ∈ l, WalkIs x) : WalkIs (.mk k t vt vn n l a) := by
  intro R0 N B w r sb M nm v u s cs h hX hN
  obtain ⟨sv, rfl, hli⟩ := NodeIs.cs.1 hX
  obtain ⟨ao, cp, rfl, hcp, hls, hao⟩ := hli.ls
  obtain ⟨W0, HW0⟩ : ∃ W0, Hid (w.alloc (.cells (ncs k t vt vn n (.slice ao l.length cp) a).toArray 43) = W0) := ⟨_, show _ = _ from rfl⟩
  obtain ⟨T, HT⟩ : ∃ T, Hid (w.heap.size = T) := ⟨_, show _ = _ from rfl⟩
  have k0 : Kept No w W0 := by rw [← HW0.out]; exact (Kept.refl No w).alloc _
  have b0 : W0.heap[T]? = some (.cells (ncs k t vt vn n (.slice ao l.length cp) a).toArray 43 (0, 0)) := by rw [← HT.out]; exact HW0.out ▸ World.alloc_heap_new w _
  have H1 : Hid (Bxw R0 N B w W0 T r sb M nm v u s k t vt vn n ao cp l a) := ⟨h.no k0, k0, b0, hls.kept k0.no⟩
  have H0 : Hid (Rz R0 N B w r sb M nm v u s) := h
  have HN : Hid (N + (1 + nnL l) ≤ 90000) := by rw [nn] at hN; exact hN
  have HW : Hid (∀ x ∈ l, WalkIs x) := hW
  have HC : Hid (l.length ≤ cp) := hcp
  have hlen : l.length ≤ 90000 := by have := nnL_len l; have := HN.out; omega
  have w1 : wrap64 ((l.length : Int) - 1) = (l.length : Int) - 1 := by unfold wrap64; omega
  rw [wk_mk, nn]
  have en : nodeS k t n.toNat l a (wkR l) s = allS (wkR l) s := by unfold nodeS; rw [if_neg q.1, if_neg q.2.1, if_neg q.2.2.1, if_neg q.2.2.2.1, if_neg q.2.2.2.2.1, if_neg q.2.2.2.2.2]
  rw [en]
  have q6 : (k == 6) = false := by simpa using q.1
  have q7 : (k == 7) = false := by simpa using q.2.1
  have q20 : (k == 20) = false := by simpa using q.2.2.1
  have q21 : (k == 21) = false := by simpa using q.2.2.2.1
  have q26 : (k == 26) = false := by simpa using q.2.2.2.2.1
  have q29 : (k == 29) = false := by simpa using q.2.2.2.2.2
  clear en q
  have y0 := cell_of b0 0
  have y1 := cell_of b0 1
  have y2 := cell_of b0 2
  have y3 := cell_of b0 3
  have y4 := cell_of b0 4
  have y5 := cell_of b0 5
  have y6 := cell_of b0 6
  simp only [ncs, List.getElem?_toArray, List.getElem?_cons_zero, List.getElem?_cons_succ] at y0 y1 y2 y3 y4 y5 y6
  clear k0 b0 h hX hN hW hls hli hcp
  unfold ncs at HW0
  unfold ncs
  go_enter Tryz.func20, Tryz.ntmps20
  go_wp2_with (first | rw [HW0.out] | rw [HT.out])
  refine Calls.mono (all_any H1.out.rz cp H1.out.ls (by have := HN.out; omega) HW.out) ?_
  rintro e W6 ⟨rfl, v2, u2, nm2, hrz, hpass⟩
  go_wp2_with fail
  exact bodyPost_end (results_none Tryz.results20 _ _ _) rfl ⟨rfl, v2, u2, nm2, hrz.mono (by omega), (PassR.no H1.out.kept).trans hpass⟩
end Go.Proofs.YtgkgpjbbmnfnmaaGreatDoor
