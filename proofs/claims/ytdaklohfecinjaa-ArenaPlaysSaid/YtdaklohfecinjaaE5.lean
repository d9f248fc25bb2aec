/- Extend, walked for any arena. -/
import Derived.Test.YtdaklohfecinjaaE4
namespace Go.Proofs.Ytdaklohfecinjaa
open Go.RowKit
set_option linter.unusedSimpArgs false
set_option linter.unusedVariables false

/-- What an arena is behind Extend. -/
theorem Rp.ext {w w1 w5 : World} {A C M F f0 f size least nn k n : Nat} {cs0 cs cs5 : List Int} {hb : List (Nat × Nd)} (h0 : Rp w A C M F f0 size least nn cs0 hb) (hk : k < hb.length)
    (q : Rq w1 A C M F f size least cs (nodes F (rem hb k))) (hn : 1 ≤ n) (hfit : sumS (nodes F (rem hb k)) + n ≤ size) (hA5 : w5.heap[A]? = some (ar C M F f size least)) (hC5 : w5.heap[C]? = some (cl cs5)) (hl5 : cs5.length = size)
    (hs5 : Seg w5 none (comp 0 (nodes F (rem hb k)) ++ [⟨hb[k].2.p, sumS (nodes F (rem hb k)), n⟩]) none) (hM5 : MapIs w5 M nn (look hb)) :
    Rp w5 A C M F f size least nn cs5 (cmpH 0 (rem hb k ++ [(hb[k].1, ⟨hb[k].2.p, 0, n⟩)])) := by
  have hi : rem hb k ++ [(hb[k].1, ⟨hb[k].2.p, 0, n⟩)] = ins (rem hb k) (rem hb k).length (hb[k].1, ⟨hb[k].2.p, 0, n⟩) := by simp [ins]
  have hnx : nodes F (rem hb k ++ [(hb[k].1, ⟨hb[k].2.p, 0, n⟩)]) = nodes F (rem hb k) ++ [⟨hb[k].2.p, 0, n⟩] := by simp [nodes]
  have hcx : nodes F (cmpH 0 (rem hb k ++ [(hb[k].1, ⟨hb[k].2.p, 0, n⟩)])) = comp 0 (nodes F (rem hb k)) ++ [⟨hb[k].2.p, sumS (nodes F (rem hb k)), n⟩] := by
    rw [nodes_cmpH, hnx, comp_append]; simp [comp]
  have hpk := h0.pos hb[k] (List.getElem_mem hk)
  have hlk : look (rem hb k) hb[k].1 = none := by rw [← look_rem hk h0.hnd, if_pos rfl]
  have hlook : ∀ i, look hb i = look (cmpH 0 (rem hb k ++ [(hb[k].1, ⟨hb[k].2.p, 0, n⟩)])) i := fun i => by
    rw [← look_cmpH, hi, ← look_ins hlk]
    by_cases e : i = (hb[k].1 : Int)
    · rw [if_pos e, e, look_mem h0.hnd (List.getElem_mem hk)]
    · rw [if_neg e, ← look_rem hk h0.hnd, if_neg e]
  have hnr : ((rem hb k).map Prod.fst).Nodup := by
    have := (rem_perm hk).map Prod.fst
    have := this.nodup_iff.1 h0.hnd
    rw [List.map_cons, List.nodup_cons] at this
    exact this.2
  refine ⟨hA5, hC5, hl5, by rw [hcx]; exact hs5, ?_, ?_, cmpH_pos 0 _ ?_, h0.sz1, h0.sz, hM5.congr hlook, by rw [cmpH_fst, hi]; exact ins_fst_nodup hnr hlk, ?_, ⟨h0.lst.1, fun i i1 i2 => by rw [← hlook]; exact h0.lst.2 i i1 i2⟩⟩
  · rw [hcx, List.map_append, comp_map]
    have hp2 : ((nodes F hb).map Nd.p).Perm (hb[k].2.p :: (nodes F (rem hb k)).map Nd.p) := by
      rw [nodes_rem F hb hk]
      conv => lhs; rw [nodes_split2 F hb hk]
      simp only [List.map_append, List.map_cons]
      refine List.Perm.trans ?_ List.perm_middle
      refine List.Perm.append_left _ (List.Perm.swap _ _ _)
    have := hp2.nodup_iff.1 h0.nod
    exact (List.perm_append_comm (l₁ := [hb[k].2.p])).nodup_iff.1 this
  · rw [nodes_cmpH]
    refine Geo.comp (o := 0) ?_
    rw [hnx, sumS_append, sumS_cons]
    simp [sumS] at hfit ⊢; omega
  · intro y hy
    rcases List.mem_append.1 hy with hy | hy
    · exact h0.pos y (rem_mem hy)
    · rw [List.mem_singleton] at hy
      subst hy
      exact ⟨hn, hpk.2⟩
  · obtain ⟨j, hj, hf, hz⟩ := q.full
    have hj' : j < (nodes F (cmpH 0 (rem hb k ++ [(hb[k].1, ⟨hb[k].2.p, 0, n⟩)]))).length := by rw [hcx, List.length_append, comp_length]; omega
    refine ⟨j, hj', ?_, fun i hi => by rw [nodes_cmpH]; exact gap_comp 0 _ size i (by rw [hnx, List.length_append]; simp; omega)⟩
    have : (nodes F (cmpH 0 (rem hb k ++ [(hb[k].1, ⟨hb[k].2.p, 0, n⟩)])))[j]? = some ⟨(nodes F (rem hb k))[j].p, 0 + sumS ((nodes F (rem hb k)).take j), (nodes F (rem hb k))[j].s⟩ := by
      rw [hcx, List.getElem?_append_left (by rw [comp_length]; exact hj), List.getElem?_eq_getElem (by rw [comp_length]; exact hj), comp_at 0 _ j hj]
    rw [List.getElem?_eq_getElem hj'] at this
    rw [Option.some.inj this, hf]

theorem comp_last {l : List Nd} (h : l ≠ []) : ∃ X x, comp 0 l = X ++ [x] ∧ x.a + x.s = sumS l := by
  obtain ⟨Y, y, rfl⟩ : ∃ Y y, l = Y ++ [y] := ⟨_, _, (List.dropLast_concat_getLast h).symm⟩
  refine ⟨comp 0 Y, ⟨y.p, 0 + sumS Y, y.s⟩, by rw [comp_append]; rfl, ?_⟩
  rw [sumS_append, sumS_cons]; simp [sumS]

/-- The cells behind Extend. -/
def extC (cs : List Int) (l : List Nd) (b : Nd) (n : Nat) : List Int :=
  putL (layC (cc cs l l.length) b.a (min n b.s) (sumS l) n) (sumS l) ((data cs b).take (min b.s n))

set_option maxHeartbeats 2000000 in
theorem Extend_some {A C M F f size least nn k n : Nat} {cs : List Int} {hb : List (Nat × Nd)} (w : World) (h : Rp w A C M F f size least nn cs hb) (hk : k < hb.length) (hw : wf hb[k].1) (hn : rl n = true) (hf : sumS (nodes F (rem hb k)) + n ≤ size) :
    Calls Try.prog 36 #[.pointer (some ⟨A, 0, none⟩), .int .i64 hb[k].1, .int .i64 n] w fun e w' => e = .returned (.int .i64 0) ∧ (∃ f', Rp w' A C M F f' size least nn (extC cs (nodes F (rem hb k)) hb[k].2 n) (cmpH 0 (rem hb k ++ [(hb[k].1, ⟨hb[k].2.p, 0, n⟩)]))) ∧ Kept (FP A C M F hb) w w' := by
  have hn' := rl_true hn
  have hsn := sum_node (F := F) hk
  have hm : hb[k].2 ∈ nodes F hb := List.mem_cons_of_mem _ (List.mem_map_of_mem (List.getElem_mem hk))
  obtain ⟨ah, bh, hnode⟩ := h.node (List.getElem_mem hk)
  have hle := h.geo.le
  have hsz := h.sz
  have hpk := h.pos hb[k] (List.getElem_mem hk)
  have hbd := h.geo.bd _ hm
  have hlen := h.len
  have HR : Hid (Rp w A C M F f size least nn cs hb ∧ wf hb[k].1 ∧ look hb hb[k].1 = some hb[k].2.p) := ⟨h, hw, look_mem h.hnd (List.getElem_mem hk)⟩
  have HN : Hid (∀ w', Kept No w w' → w'.heap[hb[k].2.p]? = some (nd hb[k].2.a hb[k].2.s ah bh)) := fun w' hk => hk.heap hnode id
  have HA : Hid (∀ w', Kept No w w' → w'.heap[A]? = some (ar C M F f size least)) := fun w' hk => hk.heap h.hA id
  have HD : Hid (∀ w', Kept No w w' → ∀ j, j < hb[k].2.s → w'.cell? ⟨C, hb[k].2.a + j, none⟩ = some (.int .i64 ((data cs hb[k].2).getD j 0))) := fun w' hk j hj => by
    rw [cl_cell (hk.heap h.hC id) (by omega), data_getD (by omega) hj]
  obtain ⟨x0, x1, x2, x3⟩ := nd_cells hnode
  have hs1 : ∀ wx, (Instr.slice 51 (.slice (some ⟨C, 0, none⟩) size size) (some (.int .i64 (hb[k].2.a : Int))) (some (.int .i64 ((hb[k].2.a : Int) + (hb[k].2.s : Int)))) none).run Try.prog wx = .ok (.slice (some ⟨C, hb[k].2.a, none⟩) hb[k].2.s (size - hb[k].2.a)) wx := fun wx => run_sl' wx C size _ _ (by omega) (by omega)
  have i2 : (hb[k].2.a : Int) + (hb[k].2.s : Int) ≤ (size : Int) := by omega
  have i3 : (0 : Int) ≤ (hb[k].2.a : Int) := by omega
  have i4 : (hb[k].2.a : Int) ≤ (hb[k].2.a : Int) + (hb[k].2.s : Int) := by omega
  have hz2 : ¬ size = hb[k].2.a := by omega
  have HDL : Hid ((data cs hb[k].2).length = hb[k].2.s) := by show _ = _; unfold data; simp; omega
  have HB : Hid (1 ≤ hb[k].2.s ∧ hb[k].2.s ≤ 65536 ∧ hb[k].2.a + hb[k].2.s ≤ size ∧ size ≤ 65536 ∧ 1 ≤ n ∧ cs.length = size) := ⟨hpk.1, by omega, hbd, hsz, by omega, hlen⟩
  have HF : Hid (sumS (nodes F (rem hb k)) + n ≤ size) := hf
  generalize hS : sumS (nodes F hb) = S at *
  generalize hT : sumS (nodes F (rem hb k)) = T at *
  have u1 : IntKind.i64.wrap ((S : Int) - (hb[k].2.s : Int)) = (T : Int) := by rw [IntKind.wrap_i64]; omega
  have u2 : IntKind.i64.wrap ((T : Int) + (n : Int)) = (T : Int) + (n : Int) := by rw [IntKind.wrap_i64]; omega
  have hlt : (T : Int) + (n : Int) ≤ (size : Int) := by omega
  have HL : Hid (sumS (nodes F hb) = S ∧ sumS (nodes F (rem hb k)) = T) := ⟨hS, hT⟩
  clear h hw hnode hm hS hT hsn hle hf hpk hbd hlen
  go_enter Try.func36, Try.ntmps36
  go_wp2_with (first | (go_at_call 50; refine (find_some _ _ HR.out.1.hA HR.out.1.map HR.out.2.1 HR.out.2.2).mono ?_; rintro e w' ⟨rfl, rfl⟩) | (go_at_call 38; refine (right_any _ _).mono ?_; rintro e w' ⟨rfl, rfl⟩))
  go_region_held3 (fun w' => w'.cell? ⟨hb[k].2.p, 1, none⟩ = some (.int .i64 (hb[k].2.s : Int))) (go_keep)
    (first
    | (go_at_call 24; refine (Live_rp _ (HR.out.1.no ((Kept.refl No w).drew))).mono ?_; rintro e w1 ⟨rfl, hk1⟩; rw [HL.out.1]; have H1 : Hid (Kept No w w1) := (Kept.refl No w).drew.trans hk1; have x11 := (nd_cells (HN.out w1 H1.out)).2.1; clear hk1)
    | (go_at_call 26; refine (Size_any _ (HR.out.1.no H1.out)).mono ?_; rintro e w2 ⟨rfl, rfl⟩))
  have y0 := (nd_cells (HN.out w1 H1.out)).1
  have b0 := (ar_cells (HA.out w1 H1.out)).1
  go_wp2
  go_region_held3 (fun w' => w'.cell? ⟨A, 0, none⟩ = some (.slice (some ⟨C, 0, none⟩) size size) ∧ w'.cell? ⟨hb[k].2.p, 0, none⟩ = some (.int .i64 (hb[k].2.a : Int))) (go_keep)
    (first
    | (go_at_call 57; refine (end_any _ (HN.out _ H1.out.drew) (by have := HB.out; omega)).mono ?_; rintro e w2 ⟨rfl, nq, rfl⟩)
    | (go_at_call 65; refine (Clone_any C hb[k].2.a hb[k].2.s _ (data cs hb[k].2) _ HDL.out ⟨HB.out.1, HB.out.2.1⟩ (HD.out _ (H1.out.drewN (1 + nq)))).mono ?_; rintro e w3 ⟨g, cap', cur, rfl, hg, hcur, hcell, hk3⟩; have H3 : Hid (w1.heap.size ≤ g ∧ w3.heap[g]? = some (.cells cur 2 (0, 0)) ∧ (∀ j, j < hb[k].2.s → cur[j]? = some (.int .i64 ((data cs hb[k].2).getD j 0))) ∧ Kept No w w3) := ⟨hg, hcur, hcell, (H1.out.drewN (1 + nq)).trans hk3⟩; have z0 := (nd_cells (HN.out w3 H3.out.2.2.2)).1; have zb := (ar_cells (HA.out w3 H3.out.2.2.2)).1; clear hg hcur hcell hk3))
  have HP : Hid (hb[k].2.p ∉ (nodes F (rem hb k)).map Nd.p ∧ (∀ j, j ∈ (nodes F (rem hb k)).map Nd.p → FP A C M F hb j) ∧ FP A C M F hb hb[k].2.p ∧ A ≠ hb[k].2.p ∧ C ≠ hb[k].2.p ∧ M ≠ hb[k].2.p ∧ ¬ FP A C M F hb g ∧ M ∉ (nodes F (rem hb k)).map Nd.p) := by
    have h := HR.out.1
    have hm : hb[k].2 ∈ nodes F hb := List.mem_cons_of_mem _ (List.mem_map_of_mem (List.getElem_mem hk))
    have hp2 : ((nodes F hb).map Nd.p).Perm (hb[k].2.p :: (nodes F (rem hb k)).map Nd.p) := by
      rw [nodes_rem F hb hk]
      conv => lhs; rw [nodes_split2 F hb hk]
      simp only [List.map_append, List.map_cons]
      refine List.Perm.trans ?_ List.perm_middle
      refine List.Perm.append_left _ (List.Perm.swap _ _ _)
    have hsub : ∀ y ∈ nodes F (rem hb k), y ∈ nodes F hb := fun y hy => by
      rw [nodes_rem F hb hk] at hy
      rw [nodes_split2 F hb hk]; exact sub_mem hy
    refine ⟨(List.nodup_cons.1 (hp2.nodup_iff.1 h.nod)).1, fun j e => ?_, .inr (.inr (.inr (List.mem_map_of_mem hm))), h.ne.2.1 _ hm, h.ne.2.2 _ hm, h.map_ne.2.2 _ hm, fun e => ?_, fun e => ?_⟩
    · obtain ⟨y, hy, e⟩ := List.mem_map.1 e
      exact .inr (.inr (.inr (by rw [← e]; exact List.mem_map_of_mem (hsub y hy))))
    · have h1 := h.lt e
      have h2 := H3.out.1
      have h3 := H1.out.size
      omega
    · obtain ⟨y, hy, e⟩ := List.mem_map.1 e
      exact h.map_ne.2.2 y (hsub y hy) e.symm
  go_wp2_with fail
  refine ((HR.out.1.no H3.out.2.2.2).unlink _ hk).mono ?_
  rintro e w5 ⟨⟨v, rfl⟩, ⟨f1, q1⟩, hb1, hM1, hk5⟩
  have H5 : Hid (Rq w5 A C M F f1 size least cs (nodes F (rem hb k)) ∧ (∃ ah bh, w5.heap[hb[k].2.p]? = some (nd hb[k].2.a hb[k].2.s ah bh)) ∧ MapIs w5 M nn (look hb) ∧ Kept (FP A C M F hb) w w5 ∧ w5.heap[g]? = some (.cells cur 2 (0, 0))) :=
    ⟨q1, ⟨_, _, hb1⟩, hM1, H3.out.2.2.2.no.trans hk5, hk5.heap H3.out.2.1 HP.out.2.2.2.2.2.2.1⟩
  clear q1 hb1 hM1 hk5
  go_wp2_with fail
  refine (Compact_any ((rem hb k).map Prod.snd) (nodes F (rem hb k)) rfl w5 H5.out.1.hA H5.out.1.hC H5.out.1.len H5.out.1.seg H5.out.1.nod H5.out.1.geo (fun x hx => by obtain ⟨y, hy, rfl⟩ := List.mem_map.1 hx; exact (HR.out.1.pos y (rem_mem hy)).1) H5.out.1.sz (by
    have h1 := HR.out.1.nodes_len
    have h2 : (nodes F (rem hb k)).length ≤ (nodes F hb).length := by
      rw [nodes_rem F hb hk]
      conv => rhs; rw [nodes_split2 F hb hk]
      simp
    omega)).mono ?_
  rintro e w6 ⟨rfl, hA6, hC6, hs6, hk6⟩
  have hCS : ∀ j, CS C (nodes F (rem hb k)) j → FP A C M F hb j := fun j e => by
    rcases e with e | e
    · exact .inr (.inl e)
    · exact HP.out.2.1 j e
  have H6 : Hid (w6.heap[A]? = some (ar C M F f1 size least) ∧ w6.heap[C]? = some (cl (cc cs (nodes F (rem hb k)) (nodes F (rem hb k)).length)) ∧ Seg w6 none (comp 0 (nodes F (rem hb k))) none ∧ (∃ ah bh, w6.heap[hb[k].2.p]? = some (nd hb[k].2.a hb[k].2.s ah bh)) ∧ MapIs w6 M nn (look hb) ∧ Kept (FP A C M F hb) w w6 ∧ w6.heap[g]? = some (.cells cur 2 (0, 0))) := by
    obtain ⟨q, ⟨a1, b1, hb1⟩, hM1, hk5, hg5⟩ := H5.out
    refine ⟨hA6, hC6, hs6, ⟨a1, b1, hk6.heap hb1 (fun e => ?_)⟩, hM1.kept hk6 (fun e => ?_), hk5.trans (hk6.mono hCS), hk6.heap hg5 (fun e => HP.out.2.2.2.2.2.2.1 (hCS _ e))⟩
    · rcases e with e | e
      · exact HP.out.2.2.2.2.1 e.symm
      · exact HP.out.1 e
    · rcases e with e | e
      · exact HR.out.1.map_ne.2.1 e
      · exact HP.out.2.2.2.2.2.2.2 e
  clear hA6 hC6 hs6 hk6 hCS
  obtain ⟨X, x, hX, hxs⟩ := comp_last (l := nodes F (rem hb k)) (by simp [nodes])
  have HX : Hid (comp 0 (nodes F (rem hb k)) = X ++ [x] ∧ x.a + x.s = T) := ⟨hX, by rw [hxs, HL.out.2]⟩
  have HG : Hid (Geo size 0 (comp 0 (nodes F (rem hb k)))) := Geo.comp (o := 0) (by rw [HL.out.2]; have := HF.out; rw [Nat.zero_add]; omega)
  clear hX hxs
  go_wp2_with fail
  refine (last_any (comp 0 (nodes F (rem hb k))) w6 H6.out.1 H6.out.2.2.1 rfl (by rw [comp_map]; exact H5.out.1.nod) (fun y hy => by have := HG.out.bd y hy; have := HB.out; omega) H5.out.1.sz).mono ?_
  rintro e w7 ⟨rfl, hk7⟩
  have hlp : lastp (comp 0 (nodes F (rem hb k))) none = some x.p := by rw [HX.out.1, lastp_append]; rfl
  rw [hlp, pt_some]
  have H7 : Hid (w7.heap[A]? = some (ar C M F f1 size least) ∧ w7.heap[C]? = some (cl (cc cs (nodes F (rem hb k)) (nodes F (rem hb k)).length)) ∧ Seg w7 none (X ++ [x]) none ∧ (∃ ah bh, w7.heap[hb[k].2.p]? = some (nd hb[k].2.a hb[k].2.s ah bh)) ∧ MapIs w7 M nn (look hb) ∧ Kept (FP A C M F hb) w w7 ∧ w7.heap[g]? = some (.cells cur 2 (0, 0))) := by
    obtain ⟨i1, i2, i3, ⟨a1, b1, i4⟩, i5, i6, i7⟩ := H6.out
    exact ⟨hk7.heap i1 id, hk7.heap i2 id, by rw [← HX.out.1]; exact i3.kept hk7 (fun _ _ => id), ⟨a1, b1, hk7.heap i4 id⟩, i5.kept hk7 id, i6.trans hk7.no, hk7.heap i7 id⟩
  clear hk7 hlp
  have HW : Hid (((X ++ [x]).map Nd.p) = (nodes F (rem hb k)).map Nd.p) := by show _ = _; rw [← HX.out.1, comp_map]
  go_wp2_with fail
  obtain ⟨a1, b1, hnd7⟩ := H7.out.2.2.2.1
  have HND : Hid (w7.heap[hb[k].2.p]? = some (nd hb[k].2.a hb[k].2.s a1 b1)) := hnd7
  clear hnd7
  refine (putB_list (n := n) (X := X) (Y := []) (x := x) w7 H7.out.1 H7.out.2.1 (cc_length H5.out.1.geo H5.out.1.len _) H7.out.2.2.1 (by rw [HW.out]; exact H5.out.1.nod) HND.out (by rw [HW.out]; exact HP.out.1) HB.out.2.2.2.2.1 HB.out.2.2.1 (by rw [HX.out.2]; exact HF.out) HB.out.2.2.2.1 (by have := HB.out; omega)).mono ?_
  rintro e w8 ⟨⟨v, rfl⟩, hC8, hs8, hk8, hz8⟩
  rw [HX.out.2] at hC8 hs8
  have hPB : ∀ j, PB C hb[k].2.p (X ++ [x]) j → j = C ∨ j = hb[k].2.p ∨ j ∈ (nodes F (rem hb k)).map Nd.p := fun j e => by
    rcases e with e | e | e
    · exact .inl e
    · exact .inr (.inl e)
    · rw [HW.out] at e; exact .inr (.inr e)
  have hPF : ∀ j, PB C hb[k].2.p (X ++ [x]) j → FP A C M F hb j := fun j e => by
    rcases hPB j e with e | e | e
    · exact .inr (.inl e)
    · rw [e]; exact HP.out.2.2.1
    · exact HP.out.2.1 j e
  have H8 : Hid (w8.heap[A]? = some (ar C M F f1 size least) ∧ w8.heap[C]? = some (cl (layC (cc cs (nodes F (rem hb k)) (nodes F (rem hb k)).length) hb[k].2.a (min n hb[k].2.s) T n)) ∧ Seg w8 none (X ++ [x] ++ [⟨hb[k].2.p, T, n⟩]) none ∧ MapIs w8 M nn (look hb) ∧ Kept (FP A C M F hb) w w8 ∧ w8.heap[g]? = some (.cells cur 2 (0, 0))) := by
    obtain ⟨i1, i2, i3, ⟨a1, b1, i4⟩, i5, i6, i7⟩ := H7.out
    refine ⟨hk8.heap i1 (fun e => ?_), hC8, by rw [List.append_assoc]; exact hs8, i5.kept hk8 (fun e => ?_), i6.trans (hk8.mono hPF), hk8.heap i7 (fun e => HP.out.2.2.2.2.2.2.1 (hPF _ e))⟩
    · rcases hPB _ e with e | e | e
      · exact H5.out.1.ne.1 e
      · exact HP.out.2.2.2.1 e
      · obtain ⟨y, hy, e⟩ := List.mem_map.1 e
        exact H5.out.1.ne.2.1 y hy e.symm
    · rcases hPB _ e with e | e | e
      · exact HR.out.1.map_ne.2.1 e
      · exact HP.out.2.2.2.2.2.1 e
      · exact HP.out.2.2.2.2.2.2.2 e
  have HN8 : Hid (w8.heap[hb[k].2.p]? = some (nd T n (some x.p) none)) := by
    rw [Seg_append] at hs8
    exact hs8.2.2.1
  clear hC8 hs8 hk8 hz8 hPB hPF
  have c0 := (nd_cells HN8.out).1
  have d0 := (ar_cells H8.out.1).1
  have hs2 : ∀ wx, (Instr.slice 51 (.slice (some ⟨C, 0, none⟩) size size) (some (.int .i64 (T : Int))) (some (.int .i64 ((T : Int) + (n : Int)))) none).run Try.prog wx = .ok (.slice (some ⟨C, T, none⟩) n (size - T)) wx := fun wx => run_sl' wx C size _ _ (by omega) (by omega)
  have k3 : (0 : Int) ≤ (T : Int) := by omega
  have k4 : (T : Int) ≤ (T : Int) + (n : Int) := by omega
  have hz3 : ¬ size = T := by omega
  have HLL : Hid ((layC (cc cs (nodes F (rem hb k)) (nodes F (rem hb k)).length) hb[k].2.a (min n hb[k].2.s) T n).length = size) := by
    have hcl : (cc cs (nodes F (rem hb k)) (nodes F (rem hb k)).length).length = size := cc_length H5.out.1.geo H5.out.1.len _
    have hB := HB.out
    have hF : T + n ≤ size := by omega
    show _ = _
    unfold layC
    rw [putL_length, putL_length]
    · exact hcl
    · simp; omega
    · rw [putL_length (by simp; omega)]; simp; omega
  have HY : Hid (((data cs hb[k].2).take (min hb[k].2.s n)).length = min hb[k].2.s n ∧ (∀ j, j < min hb[k].2.s n → w8.cell? ⟨g, 0 + j, none⟩ = some (.int .i64 (((data cs hb[k].2).take (min hb[k].2.s n)).getD j 0))) ∧ T + min hb[k].2.s n ≤ (layC (cc cs (nodes F (rem hb k)) (nodes F (rem hb k)).length) hb[k].2.a (min n hb[k].2.s) T n).length) := by
    have hB := HB.out
    have hD := HDL.out
    refine ⟨by rw [List.length_take, hD]; omega, fun j hj => ?_, by rw [HLL.out]; omega⟩
    rw [Nat.zero_add, cell_of H8.out.2.2.2.2.2, H3.out.2.2.1 j (by omega)]
    simp [List.getD, List.getElem?_take, show j < min hb[k].2.s n from hj]
  have HQ : Hid (∀ (w10 w9 : World), Hid (w10 = w9.setCells C T (((data cs hb[k].2).take (min hb[k].2.s n)).map (Value.int .i64))) → w9.heap = w8.heap → w10.cell? ⟨A, 0, none⟩ = some (.slice (some ⟨C, 0, none⟩) size size) ∧ w10.cell? ⟨hb[k].2.p, 0, none⟩ = some (.int .i64 (T : Int))) := by
    intro w10 w9 hr he
    have hCA : A ≠ C := H5.out.1.ne.1
    have hCp : hb[k].2.p ≠ C := fun e => HP.out.2.2.2.2.1 e.symm
    have e1 : w10.heap[A]? = some (ar C M F f1 size least) := by rw [hr.out, hp_setCells_other _ _ _ _ _ hCA, he]; exact H8.out.1
    have e2 : w10.heap[hb[k].2.p]? = some (nd T n (some x.p) none) := by rw [hr.out, hp_setCells_other _ _ _ _ _ hCp, he]; exact HN8.out
    exact ⟨(ar_cells e1).1, (nd_cells e2).1⟩
  go_wp2
  go_region_held3 (fun w' => w'.cell? ⟨A, 0, none⟩ = some (.slice (some ⟨C, 0, none⟩) size size) ∧ w'.cell? ⟨hb[k].2.p, 0, none⟩ = some (.int .i64 (T : Int))) (go_keep)
    (first
    | (go_at_call 57; refine (end_any _ (show w8.drew.heap[hb[k].2.p]? = _ from HN8.out) (by omega)).mono ?_; rintro e w9 ⟨rfl, nr, rfl⟩)
    | (refine step_copy_cl (by rfl) _ _ (by rfl) C T n (size - T) g 0 hb[k].2.s cap' (min hb[k].2.s n) (layC (cc cs (nodes F (rem hb k)) (nodes F (rem hb k)).length) hb[k].2.a (min n hb[k].2.s) T n) ((data cs hb[k].2).take (min hb[k].2.s n)) (by rfl) (by rfl) H8.out.2.1 rfl HY.out.1 HY.out.2.1 HY.out.2.2 ?_; intro w10 hr10; obtain ⟨qa, qb⟩ := HQ.out w10 _ hr10 rfl))
  have H10 : Hid (w10.heap[A]? = some (ar C M F f1 size least) ∧ w10.heap[C]? = some (cl (extC cs (nodes F (rem hb k)) hb[k].2 n)) ∧ Seg w10 none (X ++ [x] ++ [⟨hb[k].2.p, T, n⟩]) none ∧ MapIs w10 M nn (look hb) ∧ Kept (FP A C M F hb) w w10) := by
    obtain ⟨i1, i2, i3, i4, i5, i6⟩ := H8.out
    have hk10 : Kept (Only C) w8 w10 := by
      rw [hr10.out]
      exact kept_setCells (S := Only C) C rfl _ _ _ _ ((Kept.refl (Only C) w8).drewN (1 + nr))
    refine ⟨hk10.heap i1 H5.out.1.ne.1, ?_, i3.kept hk10 (fun y hy e => ?_), i4.kept hk10 HR.out.1.map_ne.2.1, i5.trans (hk10.mono (fun j e => .inr (.inl e)))⟩
    · rw [hr10.out]
      unfold extC
      rw [HL.out.2]
      exact hp_setCells C _ T (w8.drewN (1 + nr)) _ i2 (by rw [HY.out.1]; exact HY.out.2.2)
    · rcases List.mem_append.1 hy with hy | hy
      · have hm : y.p ∈ (nodes F (rem hb k)).map Nd.p := by rw [← HW.out]; exact List.mem_map_of_mem hy
        obtain ⟨z, hz, ez⟩ := List.mem_map.1 hm
        exact H5.out.1.ne.2.2 z hz (by rw [ez]; exact e.symm)
      · rw [List.mem_singleton] at hy
        subst hy
        exact HP.out.2.2.2.2.1 e.symm
  clear hr10
  go_wp2
  go_ret
  obtain ⟨i1, i2, i3, i4, i5⟩ := H10.out
  refine ⟨rfl, ⟨f1, HR.out.1.ext hk H5.out.1 HB.out.2.2.2.2.1 (by rw [HL.out.2]; exact HF.out) i1 i2 ?_ (by rw [HX.out.1, HL.out.2]; exact i3) i4⟩, i5⟩
  unfold extC
  rw [HL.out.2, putL_length (by rw [HY.out.1]; exact HY.out.2.2)]
  exact HLL.out
end Go.Proofs.Ytdaklohfecinjaa
