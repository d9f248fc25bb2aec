/- unlink: a handle goes out of its chain. -/
import Derived.Test.YtnfamebihpnjlaaS7
namespace Go.Proofs.Ytnfamebihpnjlaa
open Go.RowKit
set_option linter.unusedSimpArgs false
set_option linter.unusedVariables false

/-- All but one handle. -/
def rm (L : List Ent) (h : Int) : List Ent := L.filter fun e => e.h != h

theorem filter_eraseIdx : ∀ (l : List Int) (i : Nat) (hi : i < l.length), l.Nodup → l.filter (fun y => y != l[i]) = l.eraseIdx i
  | a :: t, 0, hi, hn => by
    rw [List.nodup_cons] at hn
    simp only [List.getElem_cons_zero, List.filter_cons, bne_self_eq_false, Bool.false_eq_true, if_false, List.eraseIdx_cons_zero]
    exact List.filter_eq_self.2 (fun y hy => by
      simp only [bne_iff_ne, ne_eq]
      intro e; subst e; exact hn.1 hy)
  | a :: t, i + 1, hi, hn => by
    rw [List.nodup_cons] at hn
    simp only [List.getElem_cons_succ, List.eraseIdx_cons_succ]
    have hi' : i < t.length := by simpa using hi
    have : (a != t[i]) = true := by
      simp only [bne_iff_ne, ne_eq]
      intro e; exact hn.1 (by rw [e]; exact List.getElem_mem _)
    rw [List.filter_cons, this, if_pos rfl, filter_eraseIdx t i hi' hn.2]
theorem cL_rm (L : List Ent) (n b : Nat) (h : Int) : cL (rm L h) n b = (cL L n b).filter (fun y => y != h) := by
  unfold cL rm
  rw [List.filter_map, List.filter_filter, List.filter_filter]
  congr 1
  apply List.filter_congr
  intro x _
  simp [Bool.and_comm]
theorem cL_nodup {L : List Ent} (hn : (L.map Ent.h).Nodup) (n b : Nat) : (cL L n b).Nodup := by
  unfold cL
  exact hn.sublist (List.Sublist.map _ List.filter_sublist)
theorem cL_rm_other {L : List Ent} (hn : (L.map Ent.h).Nodup) {e : Ent} (he : e ∈ L) {n b : Nat} (hb : b ≠ bk e.s n) : cL (rm L e.h) n b = cL L n b := by
  rw [cL_rm]
  refine List.filter_eq_self.2 (fun y hy => ?_)
  simp only [bne_iff_ne, ne_eq]
  intro e2; subst e2
  obtain ⟨x, hx, hxb, hxh⟩ := mem_cL.1 hy
  have h1 := lookE_mem hn hx
  rw [hxh, lookE_mem hn he] at h1
  injection h1 with h1
  injection h1 with h2 _
  exact hb (by rw [h2, hxb])

set_option maxRecDepth 20000 in
set_option maxHeartbeats 1000000 in
theorem unlink_any {w : World} {B A C M n p nn : Nat} {vs : List Value} {L : List Ent} (h : Rq w B A C M n p nn vs L L) {e : Ent} (he : e ∈ L) :
    Calls Try.prog 41 #[.pointer (some ⟨A, 0, none⟩), .int .i64 e.h] w fun r w' => r = .returned (.tuple #[]) ∧ ∃ vs', Rq w' B A C M n p nn vs' L (rm L e.h) ∧ Kept (FP A C M vs) w w' ∧ ∀ k, FP A C M vs' k → FP A C M vs k ∨ w.heap.size ≤ k := by
  have hb := bk_lt e.s (n := n) h.n1
  obtain ⟨b, HE⟩ : ∃ b, Hid (b = bk e.s n) := ⟨_, rfl⟩
  rw [← HE.out] at hb
  have hbv : b < vs.length := by rw [h.len]; exact hb
  have hrow := h.row b hbv
  have hc := ch_cell h.hC hbv
  obtain ⟨a0, a1, a2⟩ := tb_cells h.hA
  have n1 := h.n1
  have n2 := h.n2
  have HS : Hid (e.s.size ≤ maxLen) := h.good.siz e he
  have HR : Hid (Rq w B A C M n p nn vs L L) := h
  have HC34 : Hid (∀ w, Calls Try.prog 34 #[.string e.s, .int .i64 n] w fun r w' => r = .returned (.int .i64 b) ∧ w = w') := fun w => by
    rw [HE.out]; exact bucket_any e.s n w HS.out (by omega) (by omega)
  have hwf : wf e.h := wf_pos (h.good.pos e he).1 (h.good.pos e he).2
  have hlook : ∀ m, (Instr.lookup 59 (.map (some M)) (.int .i64 e.h) false).run Try.prog (w.drewN m) = .ok (.agg #[.string e.s, .int .i64 e.q]) (w.drewN m) := fun m => by
    have hm2 : MapIs (w.drewN m) M nn L.length (lookE L) := h.map
    rw [hm2.look hwf, lookE_mem h.good.hnd he]; rfl
  have hfd := fd64 e.s e.q
  obtain ⟨l, hl⟩ : ∃ l, Hid (l = cL L n b) := ⟨_, rfl⟩
  rw [← hl.out] at hrow
  have hmem : e.h ∈ l := by rw [hl.out]; exact mem_cL.2 ⟨e, he, HE.out.symm, rfl⟩
  obtain ⟨i, hi, hie⟩ := List.getElem_of_mem hmem
  have hnd : l.Nodup := by rw [hl.out]; exact cL_nodup h.good.hnd n b
  have hll : l.length ≤ 100000 := by rw [hl.out]; have := cL_len L n b; have := h.short; omega
  rcases hrow.2 with ⟨_, h0⟩ | ⟨g, cap, cur, hv, hbg, hcur, hlc, hcm, hcs, htk⟩
  · omega
  rw [hv] at hc
  rw [Nat.mul_one] at hcs htk
  obtain ⟨x, hx⟩ : ∃ x, x = e.h := ⟨_, rfl⟩
  rw [← hx] at hlook hie ⊢
  have HX : Hid (x = e.h) := hx
  have HV : Hid (vs[b] = .slice (some ⟨g, 0, none⟩) l.length cap ∧ e ∈ L) := ⟨hv, he⟩
  have HCur : Hid (w.heap[g]? = some (.cells cur 3 (0, 0)) ∧ cur.size = cap ∧ cur.toList.take l.length = ic l ∧ l.length ≤ cap ∧ cap ≤ maxLen ∧ B ≤ g) := ⟨hcur, hcs, htk, hlc, hcm, hbg⟩
  have HIx : Hid (∀ w' : World, w'.heap[g]? = w.heap[g]? → Calls Try.prog 43 #[.slice (some ⟨g, 0, none⟩) l.length cap, .int .i64 x] w' fun r w'' => r = .returned (.int .i64 i) ∧ w' = w'') := fun w' hw' =>
    Index_any (fun k hk => by
      have := row_cell hrow hv hk
      rw [← this]; simp [World.cell?, hw']) x hi hie (fun k hk hki e2 => by
      have := (List.getElem_inj hnd).1 (e2.trans hie.symm)
      omega) hll
  have HN : Hid (l.Nodup ∧ l[i] = x) := ⟨hnd, hie⟩
  clear h hrow he hx hwf hv hcur hcs htk hnd hie hmem hcm hbg hlc
  have hb1 : (0 : Int) ≤ (b : Int) := by omega
  have hb2 : (b : Int) < (n : Int) := by omega
  have hb3 : (b : Int).toNat = b := by omega
  have hw1 : IntKind.i64.wrap ((i : Int) + 1) = (i : Int) + 1 := by rw [IntKind.wrap_i64]; omega
  go_enter Try.func41, Try.ntmps41
  go_wp2_with fail
  go_quiet (first | (go_at_call 34; exact quiet_same (HC34.out _)))
  go_wp2_with fail
  refine (HIx.out (w.drewN nq) rfl).mono ?_
  rintro r w' ⟨rfl, rfl⟩
  go_wp2_with fail
  have HS0 : Hid ((w.drewN nq).drew.cell? ⟨A, 0, none⟩ = some (.slice (some ⟨C, 0, none⟩) n n)) := a0
  have HR1 : Hid (Rq (w.drewN nq).drew B A C M n p nn vs L L) := HR.out.no ((Kept.refl _ _).drewN nq).drew
  have HK1 : Hid (Kept No w (w.drewN nq).drew ∧ (w.drewN nq).drew.heap.size = w.heap.size) := ⟨((Kept.refl _ _).drewN nq).drew, rfl⟩
  have hc1 : (w.drewN nq).drew.cell? ⟨C, b, none⟩ = some (.slice (some ⟨g, 0, none⟩) l.length cap) := hc
  have HCur1 : Hid ((w.drewN nq).drew.heap[g]? = some (.cells cur 3 (0, 0))) := HCur.out.1
  clear HR hc a0 a1 a2 hlook hfd HC34 HS HIx
  refine wp_region_held_drew (S := fun w' => w'.cell? ⟨A, 0, none⟩ = some (.slice (some ⟨C, 0, none⟩) n n)) (by kernel_rfl) HS0.out (fun _ => ?_)
  generalize (w.drewN nq).drew = w1 at HS0 HR1 HK1 hc1 HCur1 ⊢
  refine wpAnyH_take (i := 0) (v := Value.pointer (some ⟨A, 0, none⟩)) rfl (by kernel_rfl) (by kernel_rfl) (by kernel_rfl) (fun _ _ _ h => h) (Or.inl ⟨by kernel_rfl, ?_⟩) HS0.out ?_
  · intro w' _; rfl
  try simp only [Act.put, List.setIfInBounds_toArray, List.set_cons_zero, List.set_cons_succ, List.getElem_toArray, List.getElem_cons_zero, List.getElem_cons_succ]
  refine wpAnyH_take (i := 1) (v := Value.pointer (some ⟨A, 0, none⟩)) rfl (by kernel_rfl) (by kernel_rfl) (by kernel_rfl) (fun _ _ _ h => h) (Or.inl ⟨by kernel_rfl, ?_⟩) HS0.out ?_
  · intro w' _; simp [go_sem]
  try simp only [Act.put, List.setIfInBounds_toArray, List.set_cons_zero, List.set_cons_succ, List.getElem_toArray, List.getElem_cons_zero, List.getElem_cons_succ]
  refine wpAnyH_take (i := 2) (v := Value.pointer (some ⟨A, 0, none⟩)) rfl (by kernel_rfl) (by kernel_rfl) (by kernel_rfl) (fun _ _ _ h => h) (Or.inl ⟨by kernel_rfl, ?_⟩) HS0.out ?_
  · intro w' _; simp [go_sem]
  try simp only [Act.put, List.setIfInBounds_toArray, List.set_cons_zero, List.set_cons_succ, List.getElem_toArray, List.getElem_cons_zero, List.getElem_cons_succ]
  refine wpAnyH_take (i := 3) (v := Value.slice (some ⟨C, 0, none⟩) n n) rfl (by kernel_rfl) (by kernel_rfl) (by kernel_rfl) (fun _ _ _ h => h) (Or.inl ⟨by kernel_rfl, ?_⟩) HS0.out ?_
  · intro w' r0; simp [go_sem, r0]
  try simp only [Act.put, List.setIfInBounds_toArray, List.set_cons_zero, List.set_cons_succ, List.getElem_toArray, List.getElem_cons_zero, List.getElem_cons_succ]
  refine wpAnyH_take (i := 4) (v := Value.int .i64 (b : Int)) rfl (by kernel_rfl) (by kernel_rfl) (by kernel_rfl) (fun _ _ _ h => h) (Or.inl ⟨by kernel_rfl, ?_⟩) HS0.out ?_
  · intro w' _; rfl
  try simp only [Act.put, List.setIfInBounds_toArray, List.set_cons_zero, List.set_cons_succ, List.getElem_toArray, List.getElem_cons_zero, List.getElem_cons_succ]
  refine wpAnyH_take (i := 5) (v := Value.pointer (some ⟨A, 0, none⟩)) rfl (by kernel_rfl) (by kernel_rfl) (by kernel_rfl) (fun _ _ _ h => h) (Or.inl ⟨by kernel_rfl, ?_⟩) HS0.out ?_
  · intro w' _; rfl
  try simp only [Act.put, List.setIfInBounds_toArray, List.set_cons_zero, List.set_cons_succ, List.getElem_toArray, List.getElem_cons_zero, List.getElem_cons_succ]
  refine wpAnyH_take (i := 6) (v := Value.pointer (some ⟨A, 0, none⟩)) rfl (by kernel_rfl) (by kernel_rfl) (by kernel_rfl) (fun _ _ _ h => h) (Or.inl ⟨by kernel_rfl, ?_⟩) HS0.out ?_
  · intro w' _; simp [go_sem]
  try simp only [Act.put, List.setIfInBounds_toArray, List.set_cons_zero, List.set_cons_succ, List.getElem_toArray, List.getElem_cons_zero, List.getElem_cons_succ]
  refine wpAnyH_take (i := 7) (v := Value.pointer (some ⟨A, 0, none⟩)) rfl (by kernel_rfl) (by kernel_rfl) (by kernel_rfl) (fun _ _ _ h => h) (Or.inl ⟨by kernel_rfl, ?_⟩) HS0.out ?_
  · intro w' _; simp [go_sem]
  try simp only [Act.put, List.setIfInBounds_toArray, List.set_cons_zero, List.set_cons_succ, List.getElem_toArray, List.getElem_cons_zero, List.getElem_cons_succ]
  refine wpAnyH_take (i := 8) (v := Value.slice (some ⟨C, 0, none⟩) n n) rfl (by kernel_rfl) (by kernel_rfl) (by kernel_rfl) (fun _ _ _ h => h) (Or.inl ⟨by kernel_rfl, ?_⟩) HS0.out ?_
  · intro w' r0; simp [go_sem, r0]
  try simp only [Act.put, List.setIfInBounds_toArray, List.set_cons_zero, List.set_cons_succ, List.getElem_toArray, List.getElem_cons_zero, List.getElem_cons_succ]
  refine wpAnyH_take (i := 9) (v := Value.int .i64 (b : Int)) rfl (by kernel_rfl) (by kernel_rfl) (by kernel_rfl) (fun _ _ _ h => h) (Or.inl ⟨by kernel_rfl, ?_⟩) HS0.out ?_
  · intro w' _; rfl
  try simp only [Act.put, List.setIfInBounds_toArray, List.set_cons_zero, List.set_cons_succ, List.getElem_toArray, List.getElem_cons_zero, List.getElem_cons_succ]
  refine wpAnyH_take (i := 10) (v := Value.pointer (some ⟨C, b, none⟩)) rfl (by kernel_rfl) (by kernel_rfl) (by kernel_rfl) (fun _ _ _ h => h) (Or.inl ⟨by kernel_rfl, ?_⟩) HS0.out ?_
  · intro w' _; simp [go_sem, hb1, hb2, hb3]
  try simp only [Act.put, List.setIfInBounds_toArray, List.set_cons_zero, List.set_cons_succ, List.getElem_toArray, List.getElem_cons_zero, List.getElem_cons_succ]
  refine wpAnyH_take (i := 12) (v := Value.int .i64 (i : Int)) rfl (by kernel_rfl) (by kernel_rfl) (by kernel_rfl) (fun _ _ _ h => h) (Or.inl ⟨by kernel_rfl, ?_⟩) HS0.out ?_
  · intro w' _; rfl
  try simp only [Act.put, List.setIfInBounds_toArray, List.set_cons_zero, List.set_cons_succ, List.getElem_toArray, List.getElem_cons_zero, List.getElem_cons_succ]
  refine wpAnyH_take (i := 13) (v := Value.int .i64 (i : Int)) rfl (by kernel_rfl) (by kernel_rfl) (by kernel_rfl) (fun _ _ _ h => h) (Or.inl ⟨by kernel_rfl, ?_⟩) HS0.out ?_
  · intro w' _; rfl
  try simp only [Act.put, List.setIfInBounds_toArray, List.set_cons_zero, List.set_cons_succ, List.getElem_toArray, List.getElem_cons_zero, List.getElem_cons_succ]
  refine wpAnyH_take (i := 14) (v := Value.int .i64 ((i : Int) + 1)) rfl (by kernel_rfl) (by kernel_rfl) (by kernel_rfl) (fun _ _ _ h => h) (Or.inl ⟨by kernel_rfl, ?_⟩) HS0.out ?_
  · intro w' _; simp [go_sem, hw1]
  try simp only [Act.put, List.setIfInBounds_toArray, List.set_cons_zero, List.set_cons_succ, List.getElem_toArray, List.getElem_cons_zero, List.getElem_cons_succ]
  refine wpAnyH_ready (rs := [11]) (by kernel_rfl) (by simp) ?_
  refine AllReadyH.cons rfl (fun K' hK => ?_) AllReadyH.nil
  go_simp
  refine hK.out _ _ HS0.out (fun _ => ?_)
  clear hK
  try simp only [Act.put, List.setIfInBounds_toArray, List.set_cons_zero, List.set_cons_succ, List.getElem_toArray, List.getElem_cons_zero, List.getElem_cons_succ]
  refine wpAnyH_ready (rs := [15]) (by kernel_rfl) (by simp) ?_
  refine AllReadyH.cons rfl (fun K' hK => ?_) AllReadyH.nil
  go_simp
  refine (Delete_any HCur1.out HCur.out.2.1 HCur.out.2.2.1 HCur.out.2.2.2.1 HCur.out.2.2.2.2.1 hi).mono ?_
  rintro r w2 ⟨rfl, ⟨cur2, hg2, hs2, ht2⟩, hk2⟩
  have hown : vs[b].ownBlock = some g := by rw [HV.out.1]; rfl
  have hvb := HR1.out.row b hbv
  have nC : ¬ (C = g) := fun e2 => row3_ne hvb hown HR1.out.hC (by decide) e2.symm
  have nA : ¬ (A = g) := fun e2 => row3_ne hvb hown HR1.out.hA (by decide) e2.symm
  have hC2 : w2.heap[C]? = some (chO vs) := hk2.heap HR1.out.hC nC
  have hA2 : w2.heap[A]? = some (tb C n M p) := hk2.heap HR1.out.hA nA
  have HG : Hid (Kept (fun k => k = g) w1 w2 ∧ w2.heap[C]? = some (chO vs) ∧ w2.heap[g]? = some (.cells cur2 3 (0, 0)) ∧ cur2.size = cap ∧ cur2.toList.take (l.length - 1) = ic (l.eraseIdx i) ∧ ¬ (C = g) ∧ vs[b].ownBlock = some g) := ⟨hk2, hC2, hg2, hs2, ht2, nC, hown⟩
  have hs3 := (tb_cells hA2).1
  have hc3 := ch_cell hC2 hbv
  have hf3 := ch_frozen hC2 b
  rw [HV.out.1] at hc3
  have hAC : A ≠ C := HR1.out.ne.1
  have HS4 : Hid (∀ u, (w2.setCell ⟨C, b, none⟩ u).cell? ⟨A, 0, none⟩ = some (.slice (some ⟨C, 0, none⟩) n n)) := fun u => (tb_cells (hp_set_other hA2 b u hAC)).1
  clear hg2 hs2 ht2 hk2 hown hvb hC2 hA2 nC nA
  refine hK.out _ _ hs3 (fun _ => ?_)
  clear hK
  try simp only [Act.put, List.setIfInBounds_toArray, List.set_cons_zero, List.set_cons_succ, List.getElem_toArray, List.getElem_cons_zero, List.getElem_cons_succ]
  refine wpAnyH_take (i := 16) (v := Value.pointer (some ⟨C, b, none⟩)) rfl (by kernel_rfl) (by kernel_rfl) (by kernel_rfl) (fun _ _ _ h => h) (Or.inl ⟨by kernel_rfl, ?_⟩) hs3 ?_
  · intro w' _; simp [go_sem, hb1, hb2, hb3]
  try simp only [Act.put, List.setIfInBounds_toArray, List.set_cons_zero, List.set_cons_succ, List.getElem_toArray, List.getElem_cons_zero, List.getElem_cons_succ]
  refine wpAnyH_ready (rs := [17]) (by kernel_rfl) (by simp) ?_
  refine AllReadyH.cons rfl (fun K' hK => ?_) AllReadyH.nil
  go_simp
  refine hK.out _ _ (HS4.out _) (fun _ => ?_)
  clear hK
  try simp only [Act.put, List.setIfInBounds_toArray, List.set_cons_zero, List.set_cons_succ, List.getElem_toArray, List.getElem_cons_zero, List.getElem_cons_succ]
  refine wpAnyH_done (by kernel_rfl) ?_ _
  go_end0
  rw [HX.out]
  have h := HR1.out
  obtain ⟨hk2, hC2, hg2, hs2, ht2, nC, hown⟩ := HG.out
  have hk3 : Kept (fun k => k = C ∨ vs[b].ownBlock = some k) w1 (w2.setCell ⟨C, b, none⟩ (.slice (some ⟨g, 0, none⟩) (l.length - 1) cap)) := (hk2.mono (fun k hk => Or.inr (by rw [hown, hk]))).set C b _ (Or.inl (Or.inl rfl))
  have hcl : cL (rm L e.h) n b = l.eraseIdx i := by
    rw [cL_rm, ← hl.out, ← filter_eraseIdx l i hi HN.out.1, HN.out.2, HX.out]
  have hlen : (l.eraseIdx i).length = l.length - 1 := by rw [List.length_eraseIdx, if_pos hi]
  have hrow3 : (w2.setCell ⟨C, b, none⟩ (.slice (some ⟨g, 0, none⟩) (l.length - 1) cap)).ownsRow B 3 1 (.slice (some ⟨g, 0, none⟩) (l.length - 1) cap) (cL (rm L e.h) n b).length (ic (cL (rm L e.h) n b)) := by
    rw [hcl, hlen]
    refine ⟨by rw [ic_length, hlen, Nat.mul_one], Or.inr ⟨g, cap, cur2, rfl, HCur.out.2.2.2.2.2, hp_set_other hg2 b _ (fun e2 => nC e2.symm), ?_, HCur.out.2.2.2.2.1, by rw [Nat.mul_one]; exact hs2, by rw [Nat.mul_one]; exact ht2⟩⟩
    have := HCur.out.2.2.2.1
    omega
  have hv3 : ∀ g', Value.ownBlock (.slice (some ⟨g, 0, none⟩) (l.length - 1) cap) = some g' → vs[b].ownBlock = some g' ∨ w1.heap.size ≤ g' := fun g' hg' => by
    rw [hown]; exact Or.inl hg'
  refine ⟨rfl, _, h.link hbv hk3 (ch_set hC2 b _) hrow3 (fun b' hb' => cL_rm_other h.good.hnd HV.out.2 (by rw [← HE.out]; exact hb')) hv3 ?_, ?_, fun k hk => ?_⟩
  · have := h.short
    have h2 : (rm L e.h).length ≤ L.length := List.length_filter_le _ _
    omega
  · refine (HK1.out.1.no).trans' (hk3.mono ?_) (fun i hi => Or.inl hi)
    rintro k (e2 | e2)
    · exact Or.inr (Or.inl e2)
    · exact Or.inr (Or.inr (Or.inr ⟨_, List.getElem_mem hbv, e2⟩))
  · rw [← HK1.out.2]; exact fp_set hbv hv3 hk
end Go.Proofs.Ytnfamebihpnjlaa
