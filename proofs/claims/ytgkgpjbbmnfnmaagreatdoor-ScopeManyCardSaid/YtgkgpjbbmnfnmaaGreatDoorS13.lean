/- Scope: the walk at functions, locals, fors, local functions. -/
import Derived.Test.YtgkgpjbbmnfnmaaGreatDoorS12
namespace Go.Proofs.YtgkgpjbbmnfnmaaGreatDoor
open Go.RowKit
set_option linter.unusedSimpArgs false
set_option linter.unusedVariables false

theorem wkR_drop (l : List Tr) (k : Nat) : wkR (l.drop k) = (wkR l).drop k := by rw [wkR_map, wkR_map, List.map_drop]
theorem wkR_take (l : List Tr) (k : Nat) : wkR (l.take k) = (wkR l).take k := by rw [wkR_map, wkR_map, List.map_take]

set_option maxRecDepth 20000 in
set_option maxHeartbeats 4000000 in
theorem walk_7 (t : ByteArray) (vt vn n : Int) (l : List Tr) (a : Int) (q : 1 ≤ l.length) (hW : ∀ x ∈ l, WalkIs x) : WalkIs (.mk 7 t vt vn n l a) := by
  intro R0 N B w r sb M nm v u s cs h hX hN
  obtain ⟨sv, rfl, hli⟩ := NodeIs.cs.1 hX
  obtain ⟨ao, cp, rfl, hcp, hls, hao⟩ := hli.ls
  obtain ⟨W0, HW0⟩ : ∃ W0, Hid (w.alloc (.cells (ncs 7 t vt vn n (.slice ao l.length cp) a).toArray 43) = W0) := ⟨_, show _ = _ from rfl⟩
  obtain ⟨T, HT⟩ : ∃ T, Hid (w.heap.size = T) := ⟨_, show _ = _ from rfl⟩
  have k0 : Kept No w W0 := by rw [← HW0.out]; exact (Kept.refl No w).alloc _
  have b0 : W0.heap[T]? = some (.cells (ncs 7 t vt vn n (.slice ao l.length cp) a).toArray 43 (0, 0)) := by rw [← HT.out]; exact HW0.out ▸ World.alloc_heap_new w _
  have H1 : Hid (Bxw R0 N B w W0 T r sb M nm v u s 7 t vt vn n ao cp l a) := ⟨h.no k0, k0, b0, hls.kept k0.no⟩
  have H0 : Hid (Rz R0 N B w r sb M nm v u s) := h
  have HN : Hid (N + (1 + nnL l) ≤ 90000) := by rw [nn] at hN; exact hN
  have HW : Hid (∀ x ∈ l, WalkIs x) := hW
  have HC : Hid (l.length ≤ cp) := hcp
  have hlen : l.length ≤ 90000 := by have := nnL_len l; have := HN.out; omega
  have w1 : wrap64 ((l.length : Int) - 1) = (l.length : Int) - 1 := by unfold wrap64; omega
  rw [wk_mk, nn]
  have y0 := cell_of b0 0
  have y1 := cell_of b0 1
  have y2 := cell_of b0 2
  have y3 := cell_of b0 3
  have y4 := cell_of b0 4
  have y5 := cell_of b0 5
  have y6 := cell_of b0 6
  simp only [ncs, List.getElem?_toArray, List.getElem?_cons_zero, List.getElem?_cons_succ] at y0 y1 y2 y3 y4 y5 y6
  clear k0 b0 h hX hN hW hls hli hcp
  unfold ncs at HW0
  unfold ncs
  obtain ⟨b, o, rfl⟩ := hao (by intro e; rw [e] at q; simp at q)
  obtain ⟨L, hL⟩ : ∃ L, l.length = L + 1 := ⟨l.length - 1, by omega⟩
  have e1 : (l.length : Int) - 1 = (L : Int) := by omega
  have k1 : (0 : Int) ≤ (L : Int) := by omega
  have k2 : (L : Int) ≤ (cp : Int) := by have := HC.out; omega
  have k3 : (L : Int) ≤ (l.length : Int) := by omega
  have HLn : Hid (l.length = L + 1) := hL
  have k4 : L < cp := by have := HC.out; omega
  clear hL
  have HE1 : Hid _ := e1
  clear e1
  go_enter Tryz.func20, Tryz.ntmps20
  go_wp2_with (first | rw [HW0.out] | rw [HT.out])
  rw [HE1.out]
  have kd : Kept No W0 W0.drew := (Kept.refl No W0).drew
  have HV : Hid (Bxw R0 N B w W0.drew T r sb M nm v u s 7 t vt vn n (some ⟨b, o, none⟩) cp l a) := ⟨H1.out.rz.no kd, H1.out.kept.trans kd, kd.heap H1.out.box id, H1.out.ls.kept kd.no⟩
  have h0 := kept_cell kd id y5
  clear y0 y1 y2 y3 y4 y5 y6 H1
  refine regionU (fun Y => Y.cell? ⟨T, 5, none⟩ = some (.slice (some ⟨b, o, none⟩) l.length cp)) 9 h0 (fun hSS => ?_)
  generalize W0.drew = Y at HV hSS ⊢
  clear h0 kd
  refine tkU 0 (PT r) rfl hSS ?_ (hy := by intro w' g1; go_simp)
  try simp only [Act.put, List.setIfInBounds_toArray, List.set_cons_zero, List.set_cons_succ, List.getElem_toArray, List.getElem_cons_zero, List.getElem_cons_succ]
  refine tkU 1 (.pointer (some ⟨T, 5, none⟩)) rfl hSS ?_ (hy := by intro w' g1; go_simp)
  try simp only [Act.put, List.setIfInBounds_toArray, List.set_cons_zero, List.set_cons_succ, List.getElem_toArray, List.getElem_cons_zero, List.getElem_cons_succ]
  refine tkU 2 (.slice (some ⟨b, o, none⟩) l.length cp) rfl hSS ?_ (hy := by intro w' g1; go_simp)
  try simp only [Act.put, List.setIfInBounds_toArray, List.set_cons_zero, List.set_cons_succ, List.getElem_toArray, List.getElem_cons_zero, List.getElem_cons_succ]
  refine tkU 3 (.int .i64 (L : Int)) rfl hSS ?_ (hy := by intro w' g1; go_simp)
  try simp only [Act.put, List.setIfInBounds_toArray, List.set_cons_zero, List.set_cons_succ, List.getElem_toArray, List.getElem_cons_zero, List.getElem_cons_succ]
  refine tkU 4 (.slice (some ⟨b, o, none⟩) L cp) rfl hSS ?_ (hy := by intro w' g1; go_simp)
  try simp only [Act.put, List.setIfInBounds_toArray, List.set_cons_zero, List.set_cons_succ, List.getElem_toArray, List.getElem_cons_zero, List.getElem_cons_succ]
  refine tkU 5 (.pointer (some ⟨T, 5, none⟩)) rfl hSS ?_ (hy := by intro w' g1; go_simp)
  try simp only [Act.put, List.setIfInBounds_toArray, List.set_cons_zero, List.set_cons_succ, List.getElem_toArray, List.getElem_cons_zero, List.getElem_cons_succ]
  refine tkU 6 (.slice (some ⟨b, o, none⟩) l.length cp) rfl hSS ?_ (hy := by intro w' g1; go_simp)
  try simp only [Act.put, List.setIfInBounds_toArray, List.set_cons_zero, List.set_cons_succ, List.getElem_toArray, List.getElem_cons_zero, List.getElem_cons_succ]
  refine tkU 7 (.int .i64 (L : Int)) rfl hSS ?_ (hy := by intro w' g1; go_simp)
  try simp only [Act.put, List.setIfInBounds_toArray, List.set_cons_zero, List.set_cons_succ, List.getElem_toArray, List.getElem_cons_zero, List.getElem_cons_succ]
  refine tkU 8 (.slice (some ⟨b, o + L * 7, none⟩) (l.length - L) (cp - L)) rfl hSS ?_ (hy := by intro w' g1; go_simp; omega)
  try simp only [Act.put, List.setIfInBounds_toArray, List.set_cons_zero, List.set_cons_succ, List.getElem_toArray, List.getElem_cons_zero, List.getElem_cons_succ]
  have HB : Hid (Calls Tryz.prog 36 #[PT r, .slice (some ⟨b, o, none⟩) L cp, .slice (some ⟨b, o + L * 7, none⟩) (l.length - L) (cp - L)] Y (WR R0 (N + (1 + nnL l)) B Y r sb M v u (nodeS 7 t n.toNat l a (wkR l) s))) := by
    have hq := nnL_split l L
    have h1 : (l.take L).length = L := by rw [List.length_take]; have := HLn.out; omega
    have h2 : (l.drop L).length = l.length - L := List.length_drop
    have := funR_any HV.out.rz cp (cp - L) (HV.out.ls.take L) (HV.out.ls.drop L) (by have := HN.out; omega) (fun x hx => HW.out x (List.mem_of_mem_drop hx))
    rw [h1, h2, show N + 1 + nnL (l.take L) + nnL (l.drop L) = N + (1 + nnL l) by omega, wkR_drop] at this
    have e : nodeS 7 t n.toNat l a (wkR l) s = funS (l.take L) ((wkR l).drop L) s := by
      unfold nodeS
      rw [if_neg (by decide), if_pos rfl, show l.length - 1 = L by have := HLn.out; omega]
    rw [e]
    exact this
  refine rdU 9 rfl (fun K hK => ?_)
  go_simp
  refine Calls.mono HB.out ?_
  rintro e W6 ⟨rfl, v2, u2, nm2, hrz, hpass⟩
  have HF : Hid (Rz R0 (N + (1 + nnL l)) B W6 r sb M nm2 v2 u2 (nodeS 7 t n.toNat l a (wkR l) s) ∧ PassR r sb M v u w v2 u2 W6) := ⟨hrz, (PassR.no HV.out.kept).trans hpass⟩
  refine hK.out _ _ (fun e => absurd rfl e) ?_
  clear hK K hrz hpass HB HV
  try simp only [Act.put, List.setIfInBounds_toArray, List.set_cons_zero, List.set_cons_succ, List.getElem_toArray, List.getElem_cons_zero, List.getElem_cons_succ]
  refine dnU ?_ (by kernel_rfl) _
  go_wp2_with fail
  exact bodyPost_end (results_none Tryz.results20 _ _ _) rfl ⟨rfl, v2, u2, nm2, HF.out.1, HF.out.2⟩

set_option maxRecDepth 20000 in
set_option maxHeartbeats 4000000 in
theorem walk_29 (t : ByteArray) (vt vn n : Int) (l : List Tr) (a : Int) (q : 2 ≤ l.length) (hW : ∀ x ∈ l, WalkIs x) : WalkIs (.mk 29 t vt vn n l a) := by
  intro R0 N B w r sb M nm v u s cs h hX hN
  obtain ⟨sv, rfl, hli⟩ := NodeIs.cs.1 hX
  obtain ⟨ao, cp, rfl, hcp, hls, hao⟩ := hli.ls
  obtain ⟨W0, HW0⟩ : ∃ W0, Hid (w.alloc (.cells (ncs 29 t vt vn n (.slice ao l.length cp) a).toArray 43) = W0) := ⟨_, show _ = _ from rfl⟩
  obtain ⟨T, HT⟩ : ∃ T, Hid (w.heap.size = T) := ⟨_, show _ = _ from rfl⟩
  have k0 : Kept No w W0 := by rw [← HW0.out]; exact (Kept.refl No w).alloc _
  have b0 : W0.heap[T]? = some (.cells (ncs 29 t vt vn n (.slice ao l.length cp) a).toArray 43 (0, 0)) := by rw [← HT.out]; exact HW0.out ▸ World.alloc_heap_new w _
  have H1 : Hid (Bxw R0 N B w W0 T r sb M nm v u s 29 t vt vn n ao cp l a) := ⟨h.no k0, k0, b0, hls.kept k0.no⟩
  have H0 : Hid (Rz R0 N B w r sb M nm v u s) := h
  have HN : Hid (N + (1 + nnL l) ≤ 90000) := by rw [nn] at hN; exact hN
  have HW : Hid (∀ x ∈ l, WalkIs x) := hW
  have HC : Hid (l.length ≤ cp) := hcp
  have hlen : l.length ≤ 90000 := by have := nnL_len l; have := HN.out; omega
  have w1 : wrap64 ((l.length : Int) - 1) = (l.length : Int) - 1 := by unfold wrap64; omega
  rw [wk_mk, nn]
  have y0 := cell_of b0 0
  have y1 := cell_of b0 1
  have y2 := cell_of b0 2
  have y3 := cell_of b0 3
  have y4 := cell_of b0 4
  have y5 := cell_of b0 5
  have y6 := cell_of b0 6
  simp only [ncs, List.getElem?_toArray, List.getElem?_cons_zero, List.getElem?_cons_succ] at y0 y1 y2 y3 y4 y5 y6
  clear k0 b0 h hX hN hW hls hli hcp
  unfold ncs at HW0
  unfold ncs
  obtain ⟨b, o, rfl⟩ := hao (by intro e; rw [e] at q; simp at q)
  have k1 : (1 : Int) ≤ (cp : Int) := by have := HC.out; omega
  have k3 : (1 : Int) ≤ (l.length : Int) := by omega
  have k4 : ¬ cp = 1 := by have := HC.out; omega
  have HQ : Hid (2 ≤ l.length) := q
  have HA : Hid (Calls Tryz.prog 39 #[PT r, .slice (some ⟨b, o, none⟩) 1 cp] W0 (WR R0 (N + 1) B W0 r sb M v u (lrnS (l.take 1) s))) := by
    have h1 : (l.take 1).length = 1 := by rw [List.length_take]; omega
    have := learn_any H1.out.rz cp (H1.out.ls.take 1) (by rw [h1]; have := HN.out; omega)
    rwa [h1] at this
  have HB : Hid (∀ X v' u' nm', Rz R0 (N + 1) B X r sb M nm' v' u' (lrnS (l.take 1) s) → Kept (fun b => R0 ≤ b) W0 X → Calls Tryz.prog 38 #[PT r, .slice (some ⟨b, o + 7, none⟩) (l.length - 1) (cp - 1)] X (WR R0 (N + (1 + nnL l)) B X r sb M v' u' (allS ((wkR l).drop 1) (lrnS (l.take 1) s)))) := fun X v' u' nm' hr hk => by
    have h1 : (l.drop 1).length = l.length - 1 := List.length_drop
    have hq := nnL_split l 1
    have := all_any (hr.mono (show N + 1 ≤ N + (1 + nnL (l.take 1)) by omega)) (cp - 1) ((H1.out.ls.kept hk).drop 1) (by have := HN.out; omega) (fun x hx => HW.out x (List.mem_of_mem_drop hx))
    rwa [h1, wkR_drop, show N + (1 + nnL (l.take 1)) + nnL (l.drop 1) = N + (1 + nnL l) by omega] at this
  have en : nodeS 29 t n.toNat l a (wkR l) s = allS ((wkR l).drop 1) (lrnS (l.take 1) s) := rfl
  rw [en]
  clear en q
  go_enter Tryz.func20, Tryz.ntmps20
  go_wp2_with (first | rw [HW0.out] | rw [HT.out])
  refine Calls.mono HA.out ?_
  rintro e W2 ⟨rfl, v2, u2, nm2, hr2, hp2⟩
  have hlow := hp2.low H1.out.rz.hz H1.out.rz.le
  have hb2 := hp2.kept.heap H1.out.box (H1.out.rz.rv.other H1.out.box (by decide) (by decide) (by decide) (by decide))
  have HB2 : Hid _ := HB.out _ _ _ _ hr2 hlow.1
  have z5 := cell_of hb2 5
  simp only [ncs, List.getElem?_toArray, List.getElem?_cons_zero, List.getElem?_cons_succ] at z5
  have HP2 : Hid (PassR r sb M v u w v2 u2 W2) := (PassR.no H1.out.kept).trans hp2
  clear hlow hb2 HB HA hr2 hp2 y0 y1 y2 y3 y4 y5 y6
  go_wp2_with fail
  refine Calls.mono HB2.out ?_
  rintro e W6 ⟨rfl, v3, u3, nm3, hrz, hpass⟩
  have HF : Hid _ := And.intro hrz (HP2.out.trans hpass)
  clear hrz hpass
  go_wp2_with fail
  exact bodyPost_end (results_none Tryz.results20 _ _ _) rfl ⟨rfl, v3, u3, nm3, HF.out.1, HF.out.2⟩

set_option maxRecDepth 20000 in
set_option maxHeartbeats 4000000 in
theorem walk_26 (t : ByteArray) (vt vn n : Int) (l : List Tr) (a : Int) (q : 2 ≤ l.length) (hW : ∀ x ∈ l, WalkIs x) : WalkIs (.mk 26 t vt vn n l a) := by
  intro R0 N B w r sb M nm v u s cs h hX hN
  obtain ⟨sv, rfl, hli⟩ := NodeIs.cs.1 hX
  obtain ⟨ao, cp, rfl, hcp, hls, hao⟩ := hli.ls
  obtain ⟨W0, HW0⟩ : ∃ W0, Hid (w.alloc (.cells (ncs 26 t vt vn n (.slice ao l.length cp) a).toArray 43) = W0) := ⟨_, show _ = _ from rfl⟩
  obtain ⟨T, HT⟩ : ∃ T, Hid (w.heap.size = T) := ⟨_, show _ = _ from rfl⟩
  have k0 : Kept No w W0 := by rw [← HW0.out]; exact (Kept.refl No w).alloc _
  have b0 : W0.heap[T]? = some (.cells (ncs 26 t vt vn n (.slice ao l.length cp) a).toArray 43 (0, 0)) := by rw [← HT.out]; exact HW0.out ▸ World.alloc_heap_new w _
  have H1 : Hid (Bxw R0 N B w W0 T r sb M nm v u s 26 t vt vn n ao cp l a) := ⟨h.no k0, k0, b0, hls.kept k0.no⟩
  have H0 : Hid (Rz R0 N B w r sb M nm v u s) := h
  have HN : Hid (N + (1 + nnL l) ≤ 90000) := by rw [nn] at hN; exact hN
  have HW : Hid (∀ x ∈ l, WalkIs x) := hW
  have HC : Hid (l.length ≤ cp) := hcp
  have hlen : l.length ≤ 90000 := by have := nnL_len l; have := HN.out; omega
  have w1 : wrap64 ((l.length : Int) - 1) = (l.length : Int) - 1 := by unfold wrap64; omega
  rw [wk_mk, nn]
  have y0 := cell_of b0 0
  have y1 := cell_of b0 1
  have y2 := cell_of b0 2
  have y3 := cell_of b0 3
  have y4 := cell_of b0 4
  have y5 := cell_of b0 5
  have y6 := cell_of b0 6
  simp only [ncs, List.getElem?_toArray, List.getElem?_cons_zero, List.getElem?_cons_succ] at y0 y1 y2 y3 y4 y5 y6
  clear k0 b0 h hX hN hW hls hli hcp
  unfold ncs at HW0
  unfold ncs
  obtain ⟨b, o, rfl⟩ := hao (by intro e; rw [e] at q; simp at q)
  obtain ⟨L, hL⟩ : ∃ L, l.length = L + 1 := ⟨l.length - 1, by omega⟩
  have e1 : (l.length : Int) - 1 = (L : Int) := by omega
  have k0' : (0 : Int) ≤ (L : Int) := by omega
  have k1 : (1 : Int) ≤ (L : Int) := by omega
  have k2 : (L : Int) ≤ (cp : Int) := by have := HC.out; omega
  have k3 : (L : Int) ≤ (l.length : Int) := by omega
  have k5 : (1 : Int) ≤ (cp : Int) := by omega
  have k6 : (1 : Int) ≤ (l.length : Int) := by omega
  have k4 : ¬ cp = 1 := by have := HC.out; omega
  have k7 : ¬ cp = L := by have := HC.out; omega
  have HLn : Hid (l.length = L + 1 ∧ 1 ≤ L) := ⟨hL, by omega⟩
  have w3 : wrap64 (L : Int) = (L : Int) := by unfold wrap64; omega
  have HE1 : Hid _ := e1
  clear e1 hL
  go_enter Tryz.func20, Tryz.ntmps20
  go_wp2_with (first | rw [HW0.out] | rw [HT.out] | rw [HE1.out])
  have HA : Hid (Calls Tryz.prog 38 #[PT r, .slice (some ⟨b, o + 7, none⟩) (L - 1) (cp - 1)] W0 (WR R0 (N + nnL ((l.take L).drop 1)) B W0 r sb M v u (allS (((wkR l).take L).drop 1) s))) := by
    have h1 : ((l.take L).drop 1).length = L - 1 := by rw [List.length_drop, List.length_take]; have := HLn.out; omega
    have q1 := nnL_split l L
    have q2 := nnL_split (l.take L) 1
    have := all_any H1.out.rz (cp - 1) ((H1.out.ls.take L).drop 1) (by have := HN.out; omega) (fun x hx => HW.out x (List.mem_of_mem_take (List.mem_of_mem_drop hx)))
    rwa [h1, wkR_drop, wkR_take] at this
  have HB : Hid (∀ X v' u' nm', Rz R0 (N + nnL ((l.take L).drop 1)) B X r sb M nm' v' u' (allS (((wkR l).take L).drop 1) s) → Kept (fun b => R0 ≤ b) W0 X → Calls Tryz.prog 37 #[PT r, .slice (some ⟨b, o, none⟩) 1 cp, .slice (some ⟨b, o + L * 7, none⟩) (l.length - L) (cp - L)] X (WR R0 (N + (1 + nnL l)) B X r sb M v' u' (nodeS 26 t n.toNat l a (wkR l) s))) := fun X v' u' nm' hr hk => by
    have h1 : (l.take 1).length = 1 := by rw [List.length_take]; have := HLn.out; omega
    have h2 : (l.drop L).length = l.length - L := List.length_drop
    have q1 := nnL_split l L
    have q2 := nnL_split (l.take L) 1
    have q3 : nnL ((l.take L).take 1) = nnL (l.take 1) := by rw [List.take_take, Nat.min_eq_left (by omega)]
    have := blkR_any (hr.mono (show _ ≤ N + 1 + nnL ((l.take L).drop 1) by omega)) cp (cp - L) ((H1.out.ls.kept hk).take 1) ((H1.out.ls.kept hk).drop L) (by have := HN.out; omega) (fun x hx => HW.out x (List.mem_of_mem_drop hx))
    rw [h1, h2, wkR_drop, show N + 1 + nnL ((l.take L).drop 1) + nnL (l.take 1) + nnL (l.drop L) = N + (1 + nnL l) by omega] at this
    have e : nodeS 26 t n.toNat l a (wkR l) s = blkS (l.take 1) ((wkR l).drop L) (allS (((wkR l).take L).drop 1) s) := by
      unfold nodeS
      rw [if_neg (by decide), if_neg (by decide), if_neg (by decide), if_neg (by decide), if_pos rfl, show l.length - 1 = L by have := HLn.out; omega]
    rw [e]
    exact this
  refine Calls.mono HA.out ?_
  rintro e W2 ⟨rfl, v2, u2, nm2, hr2, hp2⟩
  have hlow := hp2.low H1.out.rz.hz H1.out.rz.le
  have hb2 := hp2.kept.heap H1.out.box (H1.out.rz.rv.other H1.out.box (by decide) (by decide) (by decide) (by decide))
  have kd : Kept No W2 W2.drew := (Kept.refl No W2).drew
  have HB2 : Hid _ := HB.out _ _ _ _ (hr2.no kd) (hlow.1.trans kd.no)
  have h0 := cell_of (kd.heap hb2 id) 5
  simp only [ncs, List.getElem?_toArray, List.getElem?_cons_zero, List.getElem?_cons_succ] at h0
  have HP2 : Hid (PassR r sb M v u w v2 u2 W2.drew) := (PassR.no H1.out.kept).trans (hp2.trans (.no kd))
  clear hlow hb2 HB HA hr2 hp2 kd y0 y1 y2 y3 y4 y5 y6
  go_wp2_with fail
  refine regionU (fun Y => Y.cell? ⟨T, 5, none⟩ = some (.slice (some ⟨b, o, none⟩) l.length cp)) 8 h0 (fun hSS => ?_)
  generalize W2.drew = Y at HB2 HP2 hSS ⊢
  clear h0
  refine tkU 0 (PT r) rfl hSS ?_ (hy := by intro w' g1; go_simp)
  try simp only [Act.put, List.setIfInBounds_toArray, List.set_cons_zero, List.set_cons_succ, List.getElem_toArray, List.getElem_cons_zero, List.getElem_cons_succ]
  refine tkU 1 (.pointer (some ⟨T, 5, none⟩)) rfl hSS ?_ (hy := by intro w' g1; go_simp)
  try simp only [Act.put, List.setIfInBounds_toArray, List.set_cons_zero, List.set_cons_succ, List.getElem_toArray, List.getElem_cons_zero, List.getElem_cons_succ]
  refine tkU 2 (.slice (some ⟨b, o, none⟩) l.length cp) rfl hSS ?_ (hy := by intro w' g1; go_simp)
  try simp only [Act.put, List.setIfInBounds_toArray, List.set_cons_zero, List.set_cons_succ, List.getElem_toArray, List.getElem_cons_zero, List.getElem_cons_succ]
  refine tkU 3 (.slice (some ⟨b, o, none⟩) 1 cp) rfl hSS ?_ (hy := by intro w' g1; go_simp)
  try simp only [Act.put, List.setIfInBounds_toArray, List.set_cons_zero, List.set_cons_succ, List.getElem_toArray, List.getElem_cons_zero, List.getElem_cons_succ]
  refine tkU 4 (.pointer (some ⟨T, 5, none⟩)) rfl hSS ?_ (hy := by intro w' g1; go_simp)
  try simp only [Act.put, List.setIfInBounds_toArray, List.set_cons_zero, List.set_cons_succ, List.getElem_toArray, List.getElem_cons_zero, List.getElem_cons_succ]
  refine tkU 5 (.slice (some ⟨b, o, none⟩) l.length cp) rfl hSS ?_ (hy := by intro w' g1; go_simp)
  try simp only [Act.put, List.setIfInBounds_toArray, List.set_cons_zero, List.set_cons_succ, List.getElem_toArray, List.getElem_cons_zero, List.getElem_cons_succ]
  refine tkU 6 (.int .i64 (L : Int)) rfl hSS ?_ (hy := by intro w' g1; go_simp)
  try simp only [Act.put, List.setIfInBounds_toArray, List.set_cons_zero, List.set_cons_succ, List.getElem_toArray, List.getElem_cons_zero, List.getElem_cons_succ]
  refine tkU 7 (.slice (some ⟨b, o + L * 7, none⟩) (l.length - L) (cp - L)) rfl hSS ?_ (hy := by intro w' g1; go_simp)
  try simp only [Act.put, List.setIfInBounds_toArray, List.set_cons_zero, List.set_cons_succ, List.getElem_toArray, List.getElem_cons_zero, List.getElem_cons_succ]
  refine rdU 8 rfl (fun K hK => ?_)
  go_simp
  refine Calls.mono HB2.out ?_
  rintro e W6 ⟨rfl, v3, u3, nm3, hrz, hpass⟩
  have HF : Hid _ := And.intro hrz (HP2.out.trans hpass)
  refine hK.out _ _ (fun e => absurd rfl e) ?_
  clear hK K hrz hpass HB2 HP2
  try simp only [Act.put, List.setIfInBounds_toArray, List.set_cons_zero, List.set_cons_succ, List.getElem_toArray, List.getElem_cons_zero, List.getElem_cons_succ]
  refine dnU ?_ (by kernel_rfl) _
  go_wp2_with fail
  exact bodyPost_end (results_none Tryz.results20 _ _ _) rfl ⟨rfl, v3, u3, nm3, HF.out.1, HF.out.2⟩

set_option maxRecDepth 20000 in
set_option maxHeartbeats 4000000 in
theorem walk_21 (t : ByteArray) (vt vn : Int) (l : List Tr) (a : Int) (m : Nat) (q : 1 ≤ m ∧ m ≤ l.length) (hW : ∀ x ∈ l, WalkIs x) : WalkIs (.mk 21 t vt vn (m : Int) l a) := by
  intro R0 N B w r sb M nm v u s cs h hX hN
  obtain ⟨sv, rfl, hli⟩ := NodeIs.cs.1 hX
  obtain ⟨ao, cp, rfl, hcp, hls, hao⟩ := hli.ls
  obtain ⟨W0, HW0⟩ : ∃ W0, Hid (w.alloc (.cells (ncs 21 t vt vn (m : Int) (.slice ao l.length cp) a).toArray 43) = W0) := ⟨_, show _ = _ from rfl⟩
  obtain ⟨T, HT⟩ : ∃ T, Hid (w.heap.size = T) := ⟨_, show _ = _ from rfl⟩
  have k0 : Kept No w W0 := by rw [← HW0.out]; exact (Kept.refl No w).alloc _
  have b0 : W0.heap[T]? = some (.cells (ncs 21 t vt vn (m : Int) (.slice ao l.length cp) a).toArray 43 (0, 0)) := by rw [← HT.out]; exact HW0.out ▸ World.alloc_heap_new w _
  have H1 : Hid (Bxw R0 N B w W0 T r sb M nm v u s 21 t vt vn (m : Int) ao cp l a) := ⟨h.no k0, k0, b0, hls.kept k0.no⟩
  have H0 : Hid (Rz R0 N B w r sb M nm v u s) := h
  have HN : Hid (N + (1 + nnL l) ≤ 90000) := by rw [nn] at hN; exact hN
  have HW : Hid (∀ x ∈ l, WalkIs x) := hW
  have HC : Hid (l.length ≤ cp) := hcp
  have hlen : l.length ≤ 90000 := by have := nnL_len l; have := HN.out; omega
  have w1 : wrap64 ((l.length : Int) - 1) = (l.length : Int) - 1 := by unfold wrap64; omega
  rw [wk_mk, nn]
  have y0 := cell_of b0 0
  have y1 := cell_of b0 1
  have y2 := cell_of b0 2
  have y3 := cell_of b0 3
  have y4 := cell_of b0 4
  have y5 := cell_of b0 5
  have y6 := cell_of b0 6
  simp only [ncs, List.getElem?_toArray, List.getElem?_cons_zero, List.getElem?_cons_succ] at y0 y1 y2 y3 y4 y5 y6
  clear k0 b0 h hX hN hW hls hli hcp
  unfold ncs at HW0
  unfold ncs
  obtain ⟨b, o, rfl⟩ := hao (by intro e; rw [e] at q; simp only [List.length_nil] at q; omega)
  have k1 : (0 : Int) ≤ (m : Int) := by omega
  have k2 : (m : Int) ≤ (cp : Int) := by have := HC.out; omega
  have k3 : (m : Int) ≤ (l.length : Int) := by omega
  have HA : Hid (∀ ao', (¬ cp = m → ao' = some ⟨b, o + m * 7, none⟩) → Calls Tryz.prog 38 #[PT r, .slice ao' (l.length - m) (cp - m)] W0 (WR R0 (N + nnL (l.drop m)) B W0 r sb M v u (allS ((wkR l).drop m) s))) := fun ao' hao' => by
    have h1 : (l.drop m).length = l.length - m := List.length_drop
    have q1 := nnL_split l m
    have hls : LsA (fun b => R0 ≤ b) W0 ao' (l.drop m) := by
      by_cases e : cp = m
      · have : l.drop m = [] := List.drop_eq_nil_of_le (by have := HC.out; omega)
        rw [this]
        exact LsA.nil _ _ _
      · rw [hao' e]
        exact H1.out.ls.drop m
    have := all_any H1.out.rz (cp - m) hls (by have := HN.out; omega) (fun x hx => HW.out x (List.mem_of_mem_drop hx))
    rwa [h1, wkR_drop] at this
  have HB : Hid (∀ X v' u' nm', Rz R0 (N + nnL (l.drop m)) B X r sb M nm' v' u' (allS ((wkR l).drop m) s) → Kept (fun b => R0 ≤ b) W0 X → Calls Tryz.prog 39 #[PT r, .slice (some ⟨b, o, none⟩) m cp] X (WR R0 (N + nnL (l.drop m) + m) B X r sb M v' u' (lrnS (l.take m) (allS ((wkR l).drop m) s)))) := fun X v' u' nm' hr hk => by
    have h1 : (l.take m).length = m := by rw [List.length_take]; omega
    have q1 := nnL_split l m
    have q2 := nnL_len (l.take m)
    have := learn_any hr cp ((H1.out.ls.kept hk).take m) (by have := HN.out; omega)
    rwa [h1] at this
  have HQ : Hid (m ≤ nnL (l.take m)) := by have := nnL_len (l.take m); rw [List.length_take] at this; show m ≤ _; omega
  have en : nodeS 21 t ((m : Int)).toNat l a (wkR l) s = lrnS (l.take m) (allS ((wkR l).drop m) s) := by
    unfold nodeS
    rw [if_neg (by decide), if_neg (by decide), if_neg (by decide), if_pos rfl, Int.toNat_natCast]
  rw [en]
  clear en q
  rcases Decidable.em (cp = m) with rfl | k4
  all_goals (go_enter Tryz.func20, Tryz.ntmps20)
  all_goals (go_wp2_with (first | rw [HW0.out] | rw [HT.out]))
  · have HA1 : Hid _ := HA.out (some ⟨b, o, none⟩) (fun e => (e trivial).elim)
    try rw [Nat.sub_self] at HA1
    refine Calls.mono HA1.out ?_
    rintro e W2 ⟨rfl, v2, u2, nm2, hr2, hp2⟩
    have hlow := hp2.low H1.out.rz.hz H1.out.rz.le
    have hb2 := hp2.kept.heap H1.out.box (H1.out.rz.rv.other H1.out.box (by decide) (by decide) (by decide) (by decide))
    have HB2 : Hid _ := HB.out _ _ _ _ hr2 hlow.1
    have z3 := cell_of hb2 4
    have z5 := cell_of hb2 5
    simp only [ncs, List.getElem?_toArray, List.getElem?_cons_zero, List.getElem?_cons_succ] at z3 z5
    have HP2 : Hid (PassR r sb M v u w v2 u2 W2) := (PassR.no H1.out.kept).trans hp2
    clear hlow hb2 HB HA HA1 hr2 hp2 y0 y1 y2 y3 y4 y5 y6
    go_wp2_with fail
    refine Calls.mono HB2.out ?_
    rintro e W6 ⟨rfl, v3, u3, nm3, hrz, hpass⟩
    have HF : Hid _ := And.intro (hrz.mono (show _ ≤ N + (1 + nnL l) by have := nnL_split l cp; have := HQ.out; omega)) (HP2.out.trans hpass)
    clear hrz hpass
    go_wp2_with fail
    exact bodyPost_end (results_none Tryz.results20 _ _ _) rfl ⟨rfl, v3, u3, nm3, HF.out.1, HF.out.2⟩
  · have HA1 : Hid _ := HA.out (some ⟨b, o + m * 7, none⟩) (fun _ => rfl)
    refine Calls.mono HA1.out ?_
    rintro e W2 ⟨rfl, v2, u2, nm2, hr2, hp2⟩
    have hlow := hp2.low H1.out.rz.hz H1.out.rz.le
    have hb2 := hp2.kept.heap H1.out.box (H1.out.rz.rv.other H1.out.box (by decide) (by decide) (by decide) (by decide))
    have HB2 : Hid _ := HB.out _ _ _ _ hr2 hlow.1
    have z3 := cell_of hb2 4
    have z5 := cell_of hb2 5
    simp only [ncs, List.getElem?_toArray, List.getElem?_cons_zero, List.getElem?_cons_succ] at z3 z5
    have HP2 : Hid (PassR r sb M v u w v2 u2 W2) := (PassR.no H1.out.kept).trans hp2
    clear hlow hb2 HB HA HA1 hr2 hp2 y0 y1 y2 y3 y4 y5 y6
    go_wp2_with fail
    refine Calls.mono HB2.out ?_
    rintro e W6 ⟨rfl, v3, u3, nm3, hrz, hpass⟩
    have HF : Hid _ := And.intro (hrz.mono (show _ ≤ N + (1 + nnL l) by have := nnL_split l m; have := HQ.out; omega)) (HP2.out.trans hpass)
    clear hrz hpass
    go_wp2_with fail
    exact bodyPost_end (results_none Tryz.results20 _ _ _) rfl ⟨rfl, v3, u3, nm3, HF.out.1, HF.out.2⟩
end Go.Proofs.YtgkgpjbbmnfnmaaGreatDoor
