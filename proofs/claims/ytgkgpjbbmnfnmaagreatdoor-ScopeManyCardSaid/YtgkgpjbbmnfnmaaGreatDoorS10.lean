/- Scope: what is known grows; lists of trees, and blocks. -/
import Derived.Test.YtgkgpjbbmnfnmaaGreatDoorS9
namespace Go.Proofs.YtgkgpjbbmnfnmaaGreatDoor
open Go.RowKit
set_option linter.unusedSimpArgs false
set_option linter.unusedVariables false

theorem learn1_stk (s : St) (x : Tr) : s.stk <+: (learn1 s x).stk := by
  obtain ⟨k, t, vt, vn, n, l, a⟩ := x
  exact ⟨_, rfl⟩
theorem lrnS_stk (l : List Tr) : ∀ s, s.stk <+: (lrnS l s).stk := by
  induction l with
  | nil => intro s; exact List.prefix_refl _
  | cons x r ih => intro s; exact (learn1_stk s x).trans (ih _)
theorem allS_stk {fs : List (St → St)} (hf : ∀ f ∈ fs, ∀ s, s.stk <+: (f s).stk) : ∀ s, s.stk <+: (allS fs s).stk := by
  induction fs with
  | nil => intro s; exact List.prefix_refl _
  | cons f r ih => intro s; exact (hf f (by simp) s).trans (ih (fun g hg => hf g (by simp [hg])) _)
theorem take_pre {l m : List Ent} (h : l <+: m) : m.take l.length = l := by
  obtain ⟨r, rfl⟩ := h
  simp
theorem blkS_pre {fs : List (St → St)} (hf : ∀ f ∈ fs, ∀ s, s.stk <+: (f s).stk) (ns : List Tr) (s : St) : s.stk <+: (allS fs (lrnS ns s)).stk := (lrnS_stk ns s).trans (allS_stk hf _)
theorem blkS_stk {fs : List (St → St)} (hf : ∀ f ∈ fs, ∀ s, s.stk <+: (f s).stk) (ns : List Tr) (s : St) : (blkS ns fs s).stk = s.stk := take_pre (blkS_pre hf ns s)
theorem funS_stk {fs : List (St → St)} (hf : ∀ f ∈ fs, ∀ s, s.stk <+: (f s).stk) (ns : List Tr) (s : St) : (funS ns fs s).stk = s.stk := blkS_stk hf ns (inS s)
theorem nodeS_stk {fs : List (St → St)} (hf : ∀ f ∈ fs, ∀ s, s.stk <+: (f s).stk) (k : Int) (t : ByteArray) (n : Nat) (l : List Tr) (a : Int) (s : St) : s.stk <+: (nodeS k t n l a fs s).stk := by
  have hd : ∀ j, ∀ f ∈ fs.drop j, ∀ s, s.stk <+: (f s).stk := fun j f h => hf f (List.mem_of_mem_drop h)
  unfold nodeS
  split
  · exact List.prefix_refl _
  split
  · rw [funS_stk (hd _)]; exact List.prefix_refl _
  split
  · rw [blkS_stk hf]; exact List.prefix_refl _
  split
  · exact (allS_stk (hd _) _).trans (lrnS_stk _ _)
  split
  · rw [blkS_stk (hd _)]; exact allS_stk (fun f h => hf f (List.mem_of_mem_take (List.mem_of_mem_drop h))) _
  split
  · exact (lrnS_stk _ _).trans (allS_stk (hd _) _)
  · exact allS_stk hf _
mutual
theorem wk_stk : ∀ (x : Tr) (s : St), s.stk <+: (wk x s).stk
  | .mk k t vt vn n l a, s => by
    unfold wk
    exact nodeS_stk (wkR_stk l) _ _ _ _ _ _
theorem wkR_stk : ∀ (l : List Tr) (f : St → St), f ∈ wkR l → ∀ s : St, s.stk <+: (f s).stk
  | [], f, h, s => by simp [wkR] at h
  | x :: r, f, h, s => by
    rw [wkR, List.mem_cons] at h
    rcases h with h | h
    · rw [h]; exact wk_stk x s
    · exact wkR_stk r f h s
end
/-- The walk goes through a tree. -/
def WalkIs (x : Tr) : Prop := ∀ ⦃R0 N B : Nat⦄ ⦃w : World⦄ ⦃r sb M nm : Nat⦄ ⦃v u : Value⦄ ⦃s : St⦄ ⦃cs : List Value⦄, Rz R0 N B w r sb M nm v u s → NodeIs (fun b => R0 ≤ b) w x cs → N + nn x ≤ 90000 →
  Calls Tryz.prog 20 #[PT r, .agg cs.toArray] w (WR R0 (N + nn x) B w r sb M v u (wk x s))
theorem wkR_at (l : List Tr) (s : St) (j : Nat) (hj : j < l.length) {x : Tr} (e : l[j] = x) : allS (wkR (l.take (j + 1))) s = wk x (allS (wkR (l.take j)) s) ∧ nnL (l.take (j + 1)) = nnL (l.take j) + nn x ∧ nnL (l.take (j + 1)) ≤ nnL l := by
  refine ⟨?_, ?_, by have := nnL_split l (j + 1); omega⟩
  · rw [wkR_map, wkR_map, List.take_succ_eq_append_getElem hj, List.map_append, e]
    unfold allS
    rw [List.foldl_append]
    rfl
  · rw [List.take_succ_eq_append_getElem hj, nnL_app, e]
    simp [nnL]
set_option maxRecDepth 20000 in
set_option maxHeartbeats 4000000 in
theorem all_any {R0 N B : Nat} {w : World} {r sb M nm : Nat} {v u : Value} {s : St} (h : Rz R0 N B w r sb M nm v u s) {ao : Option Addr} (cp : Nat) {l : List Tr} (hl : LsA (fun b => R0 ≤ b) w ao l) (hn : N + nnL l ≤ 90000) (hW : ∀ x ∈ l, WalkIs x) :
    Calls Tryz.prog 38 #[PT r, .slice ao l.length cp] w (WR R0 (N + nnL l) B w r sb M v u (allS (wkR l) s)) := by
  have HL : Hid (LsA (fun b => R0 ≤ b) w ao l) := hl
  have H0 : Hid (Rz R0 N B w r sb M nm v u s) := h
  have HWk : Hid (∀ j (hj : j < l.length), WalkIs l[j]) := fun j hj => hW _ (List.getElem_mem hj)
  have HNL : Hid (N + nnL l ≤ 90000) := hn
  obtain ⟨n, HN⟩ : ∃ n, Hid (l.length = n) := ⟨_, show _ = _ from rfl⟩
  rw [HN.out]
  have hlen : n ≤ 90000 := by have := nnL_len l; have := HN.out; omega
  clear h hl hW hn
  go_enter Tryz.func38, Tryz.ntmps38
  go_wp2_with fail
  go_loopw [8] (fun i wr => ∃ (j : Nat) (v' u' : Value) (nm' : Nat), j ≤ n ∧ i = .int .i64 (j : Int) ∧ Hid (Rz R0 (N + nnL (l.take j)) B wr r sb M nm' v' u' (allS (wkR (l.take j)) s)) ∧ Hid (PassR r sb M v u w v' u' wr)) (fun i _ => n - (intOf i).toNat)
  case atStart => exact ⟨0, v, u, nm, by omega, rfl, H0.out, PassR.no (Kept.refl _ _)⟩
  case round =>
    obtain ⟨j, v', u', nm', hj, rfl, HR, HP⟩ := hrel
    by_cases hlt : j < n
    · have k1 : (j : Int) < (n : Int) := by omega
      have j1 : j < l.length := by rw [HN.out]; exact hlt
      have hlow := HP.out.low H0.out.hz H0.out.le
      obtain ⟨b, o, xk, xt, xvt, xvn, xn, xl, xa, yo, yln, yc, rfl, hb, hx, hX, x0, x1, x2, x3, x4, x5, x6⟩ := (HL.out.kept hlow.1).at j j1
      have HW1 := HWk.out j j1
      rw [hx] at HW1
      have HStep := wkR_at l s j j1 hx
      obtain ⟨S1, HS1⟩ : ∃ S1, Hid (allS (wkR (l.take j)) s = S1) := ⟨_, show _ = _ from rfl⟩
      rw [HS1.out] at HR HStep
      have HStep : Hid _ := HStep
      obtain ⟨W0, HW0⟩ : ∃ W0, Hid (wr.alloc (.cells (ncs xk xt xvt xvn xn (.slice yo yln yc) xa).toArray 43) = W0) := ⟨_, show _ = _ from rfl⟩
      have k0 : Kept No wr W0 := by rw [← HW0.out]; exact (Kept.refl No wr).alloc _
      have H1 : Hid (Rz R0 (N + nnL (l.take j)) B W0 r sb M nm' v' u' S1 ∧ PassR r sb M v u w v' u' W0) := ⟨HR.out.no k0, HP.out.trans (.no k0)⟩
      have HC : Hid (Calls Tryz.prog 20 #[PT r, .agg (ncs xk xt xvt xvn xn (.slice yo yln yc) xa).toArray] W0 (WR R0 (N + nnL (l.take j) + nn (.mk xk xt xvt xvn xn xl xa)) B W0 r sb M v' u' (wk (.mk xk xt xvt xvn xn xl xa) S1))) :=
        HW1 H1.out.1 (hX.kept k0.no _ _) (by have := HStep.out.2; have := HNL.out; omega)
      have b0 : W0.heap[wr.heap.size]? = some (.cells (ncs xk xt xvt xvn xn (.slice yo yln yc) xa).toArray 43 (0, 0)) := HW0.out ▸ World.alloc_heap_new wr _
      have y0 := cell_of b0 0
      have y1 := cell_of b0 1
      have y2 := cell_of b0 2
      have y3 := cell_of b0 3
      have y4 := cell_of b0 4
      have y5 := cell_of b0 5
      have y6 := cell_of b0 6
      simp only [ncs, List.getElem?_toArray, List.getElem?_cons_zero, List.getElem?_cons_succ] at y0 y1 y2 y3 y4 y5 y6
      clear k0 b0 hX hb hx hlow HR HP HW1
      unfold ncs at HW0 HC
      go_wp2_with (first | rw [HW0.out])
      refine Calls.mono HC.out ?_
      rintro e W6 ⟨rfl, v2, u2, nm2, hrz, hpass⟩
      have HF : Hid (Rz R0 (N + nnL (l.take (j + 1))) B W6 r sb M nm2 v2 u2 (allS (wkR (l.take (j + 1))) s) ∧ PassR r sb M v u w v2 u2 W6) := by
        refine ⟨?_, H1.out.2.trans hpass⟩
        rw [HStep.out.1]
        exact hrz.mono (by have := HStep.out.2.1; omega)
      clear hrz hpass HC HW0 H1 HStep x0 x1 x2 x3 x4 x5 x6 y0 y1 y2 y3 y4 y5 y6
      go_wp2_with fail
      go_roundw
      case rel => exact ⟨j + 1, v2, u2, nm2, by omega, by go_num, HF.out.1, HF.out.2⟩
      all_goals (simp only [intOf, Int.toNat_natCast]; omega)
    · have k1 : ¬ (j : Int) < (n : Int) := by omega
      obtain rfl : j = n := by omega
      go_wp2_with fail
      refine bodyPost_end (results_none Tryz.results38 _ _ _) rfl ⟨rfl, v', u', nm', ?_, HP.out⟩
      have := HR.out
      rw [List.take_of_length_le (by have := HN.out; omega)] at this
      exact this
set_option maxRecDepth 20000 in
set_option maxHeartbeats 4000000 in
theorem blkR_any {R0 N B : Nat} {w : World} {r sb M nm : Nat} {v u : Value} {s : St} (h : Rz R0 N B w r sb M nm v u s) {ao ao' : Option Addr} (cp cp' : Nat) {ns l : List Tr} (hns : LsA (fun b => R0 ≤ b) w ao ns) (hl : LsA (fun b => R0 ≤ b) w ao' l) (hn : N + nnL ns + nnL l ≤ 90000) (hW : ∀ x ∈ l, WalkIs x) :
    Calls Tryz.prog 37 #[PT r, .slice ao ns.length cp, .slice ao' l.length cp'] w (WR R0 (N + nnL ns + nnL l) B w r sb M v u (blkS ns (wkR l) s)) := by
  have HC1 : Hid (∀ X, Kept No w X → Calls Tryz.prog 64 #[.pointer (some ⟨sb, 0, none⟩)] X fun e w' => e = .returned (.int .i64 (s.stk.length : Int)) ∧ X = w') := fun X hk => size_any (h.rv.stk.no hk)
  have HC2 : Hid (∀ X, Kept No w X → Calls Tryz.prog 39 #[PT r, .slice ao ns.length cp] X (WR R0 (N + ns.length) B X r sb M v u (lrnS ns s))) := fun X hk => learn_any (h.no hk) cp (hns.kept hk.no) (by have := nnL_len ns; omega)
  have HC3 : Hid (∀ X v' u' nm', Rz R0 (N + ns.length) B X r sb M nm' v' u' (lrnS ns s) → Kept (fun b => R0 ≤ b) w X → Calls Tryz.prog 38 #[PT r, .slice ao' l.length cp'] X (WR R0 (N + ns.length + nnL l) B X r sb M v' u' (allS (wkR l) (lrnS ns s)))) := fun X v' u' nm' hr hk => all_any hr cp' (hl.kept hk) (by have := nnL_len ns; omega) hW
  have H0 : Hid (Rz R0 N B w r sb M nm v u s ∧ N + nnL ns + nnL l ≤ 90000 ∧ s.stk.length ≤ (allS (wkR l) (lrnS ns s)).stk.length) := ⟨h, hn, (blkS_pre (wkR_stk l) ns s).length_le⟩
  obtain ⟨c0, c1, c2, c3, c4, c5, c6, c7, c8, c9, c10, c11⟩ := RC_cells h.rv.box
  unfold kf at c1
  clear c0 c2 c3 c4 c5 c6 c7 c8 c9 c10 c11 h hns hl hn hW
  go_enter Tryz.func37, Tryz.ntmps37
  go_wp2_with fail
  refine Calls.mono (HC1.out _ (Kept.refl _ _)) ?_
  rintro e W1 ⟨rfl, rfl⟩
  clear HC1 c1
  go_wp2_with fail
  refine Calls.mono (HC2.out _ (Kept.refl _ _)) ?_
  rintro e W2 ⟨rfl, v2, u2, nm2, hr2, hp2⟩
  have H2 : Hid (Rz R0 (N + ns.length) B W2 r sb M nm2 v2 u2 (lrnS ns s) ∧ PassR r sb M v u w v2 u2 W2) := ⟨hr2, hp2⟩
  clear HC2 hr2 hp2
  go_wp2_with fail
  refine Calls.mono (HC3.out _ _ _ _ H2.out.1 (H2.out.2.low H0.out.1.hz H0.out.1.le).1) ?_
  rintro e W3 ⟨rfl, v3, u3, nm3, hr3, hp3⟩
  have H3 : Hid (Rz R0 (N + ns.length + nnL l) B W3 r sb M nm3 v3 u3 (allS (wkR l) (lrnS ns s)) ∧ PassR r sb M v u w v3 u3 W3) := ⟨hr3, H2.out.2.trans hp3⟩
  obtain ⟨c0, c1, c2, c3, c4, c5, c6, c7, c8, c9, c10, c11⟩ := RC_cells hr3.rv.box
  unfold kf at c2
  clear c0 c1 c3 c4 c5 c6 c7 c8 c9 c10 c11 HC3 H2 hr3 hp3
  go_wp2_with fail
  refine Calls.mono (cut_k H3.out.1.rv.stk s.stk.length H0.out.2.2) ?_
  rintro e W4 ⟨rfl, v4, hs4, hp4⟩
  obtain ⟨hrv, hpass⟩ := H3.out.1.rv.stk' hs4 hp4
  have HF : Hid (Rz R0 (N + nnL ns + nnL l) B W4 r sb M nm3 v4 u3 (blkS ns (wkR l) s) ∧ PassR r sb M v u w v4 u3 W4) := by
    have hp := H3.out.2.trans hpass
    have hlow := hp.low H0.out.1.hz H0.out.1.le
    have hs := (H3.out.1.mono (show N + ns.length + nnL l ≤ N + nnL ns + nnL l by have := nnL_len ns; omega)).sml
    refine ⟨⟨hrv, by have := H3.out.1.nm; have := nnL_len ns; omega, hlow.2.1, ⟨?_, hs.us, hs.far, hs.num, hs.base, hs.made, hs.cnt, fun e he => hs.ent e (List.mem_of_mem_take he), hs.use⟩, hlow.2.2⟩, hp⟩
    show (List.take _ _).length ≤ _
    rw [List.length_take]
    have := H0.out.1.sml.stk
    omega
  clear hs4 hp4 hrv hpass H3 c2
  go_wp2_with fail
  exact bodyPost_end (results_none Tryz.results37 _ _ _) rfl ⟨rfl, v4, u3, nm3, HF.out.1, HF.out.2⟩
end Go.Proofs.YtgkgpjbbmnfnmaaGreatDoor
