/- link: a handle comes into its chain. -/
import Derived.Test.YtnfamebihpnjlaaS4
import Derived.Deep.RegionHeld3
namespace Go.Proofs.Ytnfamebihpnjlaa
open Go.RowKit
set_option linter.unusedSimpArgs false
set_option linter.unusedVariables false

theorem info3 : (Try.prog.info? 3).map (fun i => (i.zero, i.size, i.bytes)) = some (some (.int .i64 0), 1, 8) := by kernel_rfl

/-- A table in memory whose texts are L and whose chains have K. -/
structure Rq (w : World) (B A C M n p nn : Nat) (vs : List Value) (L K : List Ent) : Prop where
  hA : w.heap[A]? = some (tb C n M p)
  hC : w.heap[C]? = some (chO vs)
  len : vs.length = n
  n1 : 1 ≤ n
  n2 : n ≤ 100000
  map : MapIs w M nn L.length (lookE L)
  row : ∀ b (hb : b < vs.length), w.ownsRow B 3 1 vs[b] (cL K n b).length (ic (cL K n b))
  apart : ∀ b b' (hb : b < vs.length) (hb' : b' < vs.length) g, b ≠ b' → vs[b].ownBlock = some g → vs[b'].ownBlock ≠ some g
  bA : B ≤ A
  bC : B ≤ C
  bM : B ≤ M
  good : Good L p
  short : K.length ≤ 100000

theorem Rq.kept {S : Nat → Prop} {w w' : World} {B A C M n p nn : Nat} {vs : List Value} {L K : List Ent} (h : Rq w B A C M n p nn vs L K) (hk : Kept S w w') (hS : ∀ k, FP A C M vs k → ¬ S k) : Rq w' B A C M n p nn vs L K :=
  { hA := hk.heap h.hA (hS A (Or.inl rfl)), hC := hk.heap h.hC (hS C (Or.inr (Or.inl rfl))), len := h.len, n1 := h.n1, n2 := h.n2, map := h.map.kept hk (hS M (Or.inr (Or.inr (Or.inl rfl)))),
    row := fun b hb => row_kept (h.row b hb) hk (fun g hg => hS g (Or.inr (Or.inr (Or.inr ⟨_, List.getElem_mem hb, hg⟩)))), apart := h.apart, bA := h.bA, bC := h.bC, bM := h.bM, good := h.good, short := h.short }
theorem Rq.no {w w' : World} {B A C M n p nn : Nat} {vs : List Value} {L K : List Ent} (h : Rq w B A C M n p nn vs L K) (hk : Kept No w w') : Rq w' B A C M n p nn vs L K := h.kept hk (fun _ _ e => e)
theorem Rq.ne {w : World} {B A C M n p nn : Nat} {vs : List Value} {L K : List Ent} (h : Rq w B A C M n p nn vs L K) : A ≠ C ∧ M ≠ A ∧ M ≠ C := by
  refine ⟨fun e => ?_, h.map.not_cells h.hA, h.map.not_cells h.hC⟩
  have h1 := h.hA
  rw [e, h.hC] at h1
  unfold tb chO at h1
  injection h1 with h1
  injection h1 with _ h2
  cases h2
theorem row3_ne {w : World} {B : Nat} {v : Value} {n : Nat} {xs : List Value} (h : w.ownsRow B 3 1 v n xs) {g k : Nat} (hg : v.ownBlock = some g) {c : Array Value} {e : TypeId} {f : Nat × Nat} (hk : w.heap[k]? = some (.cells c e f)) (he : e ≠ 3) : g ≠ k := by
  rcases h.2 with ⟨h1, _⟩ | ⟨g', cap, cur, h1, h2, h3, h4⟩
  · rw [h1] at hg; cases hg
  · rw [h1] at hg
    simp [Value.ownBlock] at hg
    subst hg
    intro e1
    subst e1
    rw [h3] at hk
    injection hk with hk
    injection hk with _ h6
    exact he h6.symm
theorem row3_nm {w : World} {B : Nat} {v : Value} {n : Nat} {xs : List Value} (h : w.ownsRow B 3 1 v n xs) {g : Nat} (hg : v.ownBlock = some g) {M nn c : Nat} {f : Int → Option (ByteArray × Nat)} (hM : MapIs w M nn c f) : g ≠ M := by
  rcases h.2 with ⟨h1, _⟩ | ⟨g', cap, cur, h1, h2, h3, h4⟩
  · rw [h1] at hg; cases hg
  · rw [h1] at hg
    simp [Value.ownBlock] at hg
    subst hg
    exact fun e => hM.not_cells h3 e.symm

theorem cL_snoc (K : List Ent) (n b : Nat) (e : Ent) : cL (K ++ [e]) n b = if bk e.s n = b then cL K n b ++ [e.h] else cL K n b := by
  unfold cL
  rw [List.filter_append, List.map_append]
  by_cases h : bk e.s n = b
  · rw [if_pos h]; simp [h]
  · rw [if_neg h]; simp [h]
theorem cL_len (K : List Ent) (n b : Nat) : (cL K n b).length ≤ K.length := by
  unfold cL; rw [List.length_map]; exact List.length_filter_le _ _

/-- One chain has turned. -/
theorem Rq.link {w w' : World} {B A C M n p nn : Nat} {vs : List Value} {L K : List Ent} (h : Rq w B A C M n p nn vs L K) {b : Nat} (hb : b < vs.length) {v' : Value} {K' : List Ent} (hk : Kept (fun k => k = C ∨ vs[b].ownBlock = some k) w w')
    (hC : w'.heap[C]? = some (chO (vs.set b v'))) (hrow : w'.ownsRow B 3 1 v' (cL K' n b).length (ic (cL K' n b))) (hoth : ∀ b', b' ≠ b → cL K' n b' = cL K n b') (hv : ∀ g, v'.ownBlock = some g → vs[b].ownBlock = some g ∨ w.heap.size ≤ g) (hs : K'.length ≤ 100000) :
    Rq w' B A C M n p nn (vs.set b v') L K' := by
  have hr := h.row b hb
  have nA : ¬ (A = C ∨ vs[b].ownBlock = some A) := by
    rintro (e | e)
    · exact h.ne.1 e
    · exact row3_ne hr e h.hA (by decide) rfl
  have nM : ¬ (M = C ∨ vs[b].ownBlock = some M) := by
    rintro (e | e)
    · exact h.ne.2.2 e
    · exact row3_nm hr e h.map rfl
  refine { hA := hk.heap h.hA nA, hC := hC, len := by rw [List.length_set]; exact h.len, n1 := h.n1, n2 := h.n2, map := h.map.kept hk nM, row := ?_, apart := ?_, bA := h.bA, bC := h.bC, bM := h.bM, good := h.good, short := hs }
  · intro b' hb'
    rw [List.length_set] at hb'
    by_cases e : b' = b
    · subst e; rw [List.getElem_set_self]; exact hrow
    · rw [List.getElem_set_ne (fun e2 => e e2.symm), hoth b' e]
      refine row_kept (h.row b' hb') hk (fun g hg => ?_)
      rintro (e2 | e2)
      · exact row3_ne (h.row b' hb') hg h.hC (by decide) e2
      · exact h.apart b b' hb hb' g (fun e3 => e e3.symm) e2 hg
  · intro b1 b2 h1 h2 g hne hg1 hg2
    have h1' : b1 < vs.length := by simpa using h1
    have h2' : b2 < vs.length := by simpa using h2
    by_cases e1 : b1 = b
    · subst e1
      rw [List.getElem_set_self] at hg1
      rw [List.getElem_set_ne hne] at hg2
      rcases hv g hg1 with h3 | h3
      · exact h.apart b1 b2 h1' h2' g hne h3 hg2
      · have := ((h.row b2 h2').lt g hg2).2; omega
    · rw [List.getElem_set_ne (fun e => e1 e.symm)] at hg1
      by_cases e2 : b2 = b
      · subst e2
        rw [List.getElem_set_self] at hg2
        rcases hv g hg2 with h3 | h3
        · exact h.apart b1 b2 h1' h2' g hne hg1 h3
        · have := ((h.row b1 h1').lt g hg1).2; omega
      · rw [List.getElem_set_ne (fun e => e2 e.symm)] at hg2
        exact h.apart b1 b2 h1' h2' g hne hg1 hg2

/-- The blocks of a table one of whose chains has turned. -/
theorem fp_set {A C M b H : Nat} {vs : List Value} (hb : b < vs.length) {v' : Value} (hv : ∀ g, v'.ownBlock = some g → vs[b].ownBlock = some g ∨ H ≤ g) {k : Nat} (hk : FP A C M (vs.set b v') k) : FP A C M vs k ∨ H ≤ k := by
  rcases hk with h | h | h | ⟨v, h1, h2⟩
  · exact Or.inl (Or.inl h)
  · exact Or.inl (Or.inr (Or.inl h))
  · exact Or.inl (Or.inr (Or.inr (Or.inl h)))
  · rcases List.mem_or_eq_of_mem_set h1 with h3 | h3
    · exact Or.inl (Or.inr (Or.inr (Or.inr ⟨v, h3, h2⟩)))
    · subst h3
      rcases hv k h2 with h4 | h4
      · exact Or.inl (Or.inr (Or.inr (Or.inr ⟨_, List.getElem_mem hb, h4⟩)))
      · exact Or.inr h4

set_option maxRecDepth 20000 in
set_option maxHeartbeats 1000000 in
theorem link_any {w : World} {B A C M n p nn : Nat} {vs : List Value} {L K : List Ent} (h : Rq w B A C M n p nn vs L K) {e : Ent} (he : e ∈ L) (hsz : K.length + 1 ≤ 100000) :
    Calls Try.prog 39 #[.pointer (some ⟨A, 0, none⟩), .int .i64 e.h] w fun r w' => r = .returned (.tuple #[]) ∧ ∃ vs', Rq w' B A C M n p nn vs' L (K ++ [e]) ∧ Kept (FP A C M vs) w w' ∧ ∀ k, FP A C M vs' k → FP A C M vs k ∨ w.heap.size ≤ k := by
  have hb := bk_lt e.s (n := n) h.n1
  obtain ⟨b, HE⟩ : ∃ b, Hid (b = bk e.s n) := ⟨_, rfl⟩
  rw [← HE.out] at hb
  have hbv : b < vs.length := by rw [h.len]; exact hb
  have hrow := h.row b hbv
  have hc := ch_cell h.hC hbv
  obtain ⟨a0, a1, a2⟩ := tb_cells h.hA
  have n1 := h.n1
  have n2 := h.n2
  have HS : Hid (e.s.size ≤ maxLen) := h.good.siz e he
  have HR : Hid (Rq w B A C M n p nn vs L K) := h
  have HC34 : Hid (∀ w, Calls Try.prog 34 #[.string e.s, .int .i64 n] w fun r w' => r = .returned (.int .i64 b) ∧ w = w') := fun w => by
    rw [HE.out]; exact bucket_any e.s n w HS.out (by omega) (by omega)
  have hwf : wf e.h := wf_pos (h.good.pos e he).1 (h.good.pos e he).2
  have hlook : ∀ m, (Instr.lookup 59 (.map (some M)) (.int .i64 e.h) false).run Try.prog (w.drewN m) = .ok (.agg #[.string e.s, .int .i64 e.q]) (w.drewN m) := fun m => by
    have hm2 : MapIs (w.drewN m) M nn L.length (lookE L) := h.map
    rw [hm2.look hwf, lookE_mem h.good.hnd he]; rfl
  have hfd := fd64 e.s e.q
  obtain ⟨v, hv⟩ : ∃ v, Hid (v = vs[b]) := ⟨vs[b], (show vs[b] = vs[b] from rfl)⟩
  rw [← hv.out] at hc hrow
  obtain ⟨l, hl⟩ : ∃ l, Hid (l = cL K n b) := ⟨_, rfl⟩
  rw [← hl.out] at hrow
  have HRow : Hid (w.ownsRow B 3 1 v l.length (ic l)) := hrow
  obtain ⟨x, hx⟩ : ∃ x, x = e.h := ⟨_, rfl⟩
  rw [← hx] at hlook ⊢
  have HX : Hid (x = e.h) := hx
  have HF : Hid (w.frozen? ⟨C, b, none⟩ = false) := ch_frozen h.hC b
  clear h hrow he hx hwf
  go_enter Try.func39, Try.ntmps39
  go_wp2_with fail
  go_quiet (first | (go_at_call 34; exact quiet_same (HC34.out _)))
  go_wp2_with fail
  have hb1 : (0 : Int) ≤ (b : Int) := by omega
  have hb2 : (b : Int) < (n : Int) := by omega
  have hb3 : (b : Int).toNat = b := by omega
  have HS0 : Hid ((w.drewN nq).drew.cell? ⟨A, 0, none⟩ = some (.slice (some ⟨C, 0, none⟩) n n)) := a0
  have HR1 : Hid (Rq (w.drewN nq).drew B A C M n p nn vs L K) := HR.out.no ((Kept.refl _ _).drewN nq).drew
  have HK1 : Hid (Kept No w (w.drewN nq).drew ∧ (w.drewN nq).drew.heap.size = w.heap.size) := ⟨((Kept.refl _ _).drewN nq).drew, rfl⟩
  have hc1 : (w.drewN nq).drew.cell? ⟨C, b, none⟩ = some v := hc
  have HRow1 : Hid ((w.drewN nq).drew.ownsRow B 3 1 v l.length (ic l)) := HRow.out
  clear HR HRow hc a0 a1 a2 hlook hfd HC34 HS HF
  refine wp_region_held_drew (S := fun w' => w'.cell? ⟨A, 0, none⟩ = some (.slice (some ⟨C, 0, none⟩) n n)) (by kernel_rfl) HS0.out (fun _ => ?_)
  generalize (w.drewN nq).drew = w1 at HS0 HR1 HK1 hc1 HRow1 ⊢
  have hC1 : C < w1.heap.size := hp_lt HR1.out.hC
  have hA1 : A < w1.heap.size := hp_lt HR1.out.hA
  have hc2 : (w1.alloc (.cells #[.int .i64 x] 3)).cell? ⟨C, b, none⟩ = some v := by rw [cell_of (((Kept.refl No _).alloc _).heap HR1.out.hC id), ← cell_of HR1.out.hC]; exact hc1
  have HS2 : Hid ((w1.alloc (.cells #[.int .i64 x] 3)).cell? ⟨A, 0, none⟩ = some (.slice (some ⟨C, 0, none⟩) n n)) := (tb_cells (((Kept.refl No _).alloc _).heap HR1.out.hA id)).1
  obtain ⟨i0, hi, hz0, hz1, hz2⟩ := info_parts info3
  have HI : Hid (Try.prog.info? 3 = some i0 ∧ i0.zero = some (.int .i64 0) ∧ i0.size = 1 ∧ i0.bytes = 8) := ⟨hi, hz0, hz1, hz2⟩
  have HLl : Hid (l.length ≤ 100000) := by show _ ≤ _; rw [hl.out]; have := cL_len K n b; omega
  have HB : Hid (B ≤ w1.heap.size) := by have := HR1.out.bA; show _ ≤ _; omega
  clear hi hz0 hz1 hz2
  refine wpAnyH_take (i := 0) (v := Value.pointer (some ⟨A, 0, none⟩)) rfl (by kernel_rfl) (by kernel_rfl) (by kernel_rfl) (fun _ _ _ h => h) (Or.inl ⟨by kernel_rfl, ?_⟩) HS0.out ?_
  · intro w' _; rfl
  try simp only [Act.put, List.setIfInBounds_toArray, List.set_cons_zero, List.set_cons_succ, List.getElem_toArray, List.getElem_cons_zero, List.getElem_cons_succ]
  refine wpAnyH_take (i := 1) (v := Value.pointer (some ⟨A, 0, none⟩)) rfl (by kernel_rfl) (by kernel_rfl) (by kernel_rfl) (fun _ _ _ h => h) (Or.inl ⟨by kernel_rfl, ?_⟩) HS0.out ?_
  · intro w' _; simp [go_sem]
  try simp only [Act.put, List.setIfInBounds_toArray, List.set_cons_zero, List.set_cons_succ, List.getElem_toArray, List.getElem_cons_zero, List.getElem_cons_succ]
  refine wpAnyH_take (i := 2) (v := Value.pointer (some ⟨A, 0, none⟩)) rfl (by kernel_rfl) (by kernel_rfl) (by kernel_rfl) (fun _ _ _ h => h) (Or.inl ⟨by kernel_rfl, ?_⟩) HS0.out ?_
  · intro w' _; simp [go_sem]
  try simp only [Act.put, List.setIfInBounds_toArray, List.set_cons_zero, List.set_cons_succ, List.getElem_toArray, List.getElem_cons_zero, List.getElem_cons_succ]
  refine wpAnyH_take (i := 3) (v := Value.slice (some ⟨C, 0, none⟩) n n) rfl (by kernel_rfl) (by kernel_rfl) (by kernel_rfl) (fun _ _ _ h => h) (Or.inl ⟨by kernel_rfl, ?_⟩) HS0.out ?_
  · intro w' r0; simp [go_sem, r0]
  try simp only [Act.put, List.setIfInBounds_toArray, List.set_cons_zero, List.set_cons_succ, List.getElem_toArray, List.getElem_cons_zero, List.getElem_cons_succ]
  refine wpAnyH_take (i := 4) (v := Value.int .i64 (b : Int)) rfl (by kernel_rfl) (by kernel_rfl) (by kernel_rfl) (fun _ _ _ h => h) (Or.inl ⟨by kernel_rfl, ?_⟩) HS0.out ?_
  · intro w' _; rfl
  try simp only [Act.put, List.setIfInBounds_toArray, List.set_cons_zero, List.set_cons_succ, List.getElem_toArray, List.getElem_cons_zero, List.getElem_cons_succ]
  refine wpAnyH_take (i := 5) (v := Value.pointer (some ⟨A, 0, none⟩)) rfl (by kernel_rfl) (by kernel_rfl) (by kernel_rfl) (fun _ _ _ h => h) (Or.inl ⟨by kernel_rfl, ?_⟩) HS0.out ?_
  · intro w' _; rfl
  try simp only [Act.put, List.setIfInBounds_toArray, List.set_cons_zero, List.set_cons_succ, List.getElem_toArray, List.getElem_cons_zero, List.getElem_cons_succ]
  refine wpAnyH_take (i := 6) (v := Value.pointer (some ⟨A, 0, none⟩)) rfl (by kernel_rfl) (by kernel_rfl) (by kernel_rfl) (fun _ _ _ h => h) (Or.inl ⟨by kernel_rfl, ?_⟩) HS0.out ?_
  · intro w' _; simp [go_sem]
  try simp only [Act.put, List.setIfInBounds_toArray, List.set_cons_zero, List.set_cons_succ, List.getElem_toArray, List.getElem_cons_zero, List.getElem_cons_succ]
  refine wpAnyH_take (i := 7) (v := Value.pointer (some ⟨A, 0, none⟩)) rfl (by kernel_rfl) (by kernel_rfl) (by kernel_rfl) (fun _ _ _ h => h) (Or.inl ⟨by kernel_rfl, ?_⟩) HS0.out ?_
  · intro w' _; simp [go_sem]
  try simp only [Act.put, List.setIfInBounds_toArray, List.set_cons_zero, List.set_cons_succ, List.getElem_toArray, List.getElem_cons_zero, List.getElem_cons_succ]
  refine wpAnyH_take (i := 8) (v := Value.slice (some ⟨C, 0, none⟩) n n) rfl (by kernel_rfl) (by kernel_rfl) (by kernel_rfl) (fun _ _ _ h => h) (Or.inl ⟨by kernel_rfl, ?_⟩) HS0.out ?_
  · intro w' r0; simp [go_sem, r0]
  try simp only [Act.put, List.setIfInBounds_toArray, List.set_cons_zero, List.set_cons_succ, List.getElem_toArray, List.getElem_cons_zero, List.getElem_cons_succ]
  refine wpAnyH_take (i := 9) (v := Value.int .i64 (b : Int)) rfl (by kernel_rfl) (by kernel_rfl) (by kernel_rfl) (fun _ _ _ h => h) (Or.inl ⟨by kernel_rfl, ?_⟩) HS0.out ?_
  · intro w' _; rfl
  try simp only [Act.put, List.setIfInBounds_toArray, List.set_cons_zero, List.set_cons_succ, List.getElem_toArray, List.getElem_cons_zero, List.getElem_cons_succ]
  refine wpAnyH_take (i := 10) (v := Value.pointer (some ⟨C, b, none⟩)) rfl (by kernel_rfl) (by kernel_rfl) (by kernel_rfl) (fun _ _ _ h => h) (Or.inl ⟨by kernel_rfl, ?_⟩) HS0.out ?_
  · intro w' _; simp [go_sem, hb1, hb2, hb3]
  try simp only [Act.put, List.setIfInBounds_toArray, List.set_cons_zero, List.set_cons_succ, List.getElem_toArray, List.getElem_cons_zero, List.getElem_cons_succ]
  refine wpAnyH_take (i := 12) (v := Value.int .i64 x) rfl (by kernel_rfl) (by kernel_rfl) (by kernel_rfl) (fun _ _ _ h => h) (Or.inl ⟨by kernel_rfl, ?_⟩) HS0.out ?_
  · intro w' _; rfl
  try simp only [Act.put, List.setIfInBounds_toArray, List.set_cons_zero, List.set_cons_succ, List.getElem_toArray, List.getElem_cons_zero, List.getElem_cons_succ]
  refine wpAnyH_ready (rs := [11, 13]) (by kernel_rfl) (by simp) ?_
  refine AllReadyH.cons rfl (fun K' hK => ?_) (AllReadyH.cons rfl (fun K' hK => ?_) AllReadyH.nil)
  · go_simp
    refine hK.out _ _ HS0.out (fun _ => ?_)
    clear hK
    try simp only [Act.put, List.setIfInBounds_toArray, List.set_cons_zero, List.set_cons_succ, List.getElem_toArray, List.getElem_cons_zero, List.getElem_cons_succ]
    refine wpAnyH_ready (rs := [13]) (by kernel_rfl) (by simp) ?_
    refine AllReadyH.cons rfl (fun K' hK => ?_) AllReadyH.nil
    go_simp
    refine hK.out _ _ HS2.out (fun _ => ?_)
    clear hK
    try simp only [Act.put, List.setIfInBounds_toArray, List.set_cons_zero, List.set_cons_succ, List.getElem_toArray, List.getElem_cons_zero, List.getElem_cons_succ]
    refine wpAnyH_ready (rs := [14]) (by kernel_rfl) (by simp) ?_
    refine AllReadyH.cons rfl (fun K' hK => ?_) AllReadyH.nil
    refine step_append_lies _ rfl _ _ _ rfl B 3 i0 (.int .i64 0) 1 8 Try.underlying42 HI.out.1 HI.out.2.1 HI.out.2.2.1 HI.out.2.2.2 rfl (by decide) v l.length (ic l) rfl (HRow1.out.alloc _) ⟨w1.heap.size, 0, none⟩ 1 1 [.int .i64 x] rfl rfl
      (World.news_of_block (cs := #[.int .i64 x]) (t := 3) (fr := (0, 0)) (World.alloc_heap_new w1 _)) (by simp [Value.oneCell']) (by decide) (by unfold maxLen; have := HLl.out; omega) (by have := HLl.out; omega) (by have := HB.out; simp; omega) (w1.heap.size + 1) (by simp) ?_
    intro g cap w2 hown2 hgrow2 hor2 hlt2
    have hk12 : Kept (fun k => vs[b].ownBlock = some k) w1 w2 := ((Kept.refl _ w1).alloc _).grown hgrow2 (fun k hk => Or.inl (by rw [← hv.out]; exact hk))
    have hvb := HR1.out.row b hbv
    have hC2 : w2.heap[C]? = some (chO vs) := hk12.heap HR1.out.hC (fun e2 => row3_ne hvb e2 HR1.out.hC (by decide) rfl)
    have hA2 : w2.heap[A]? = some (tb C n M p) := hk12.heap HR1.out.hA (fun e2 => row3_ne hvb e2 HR1.out.hA (by decide) rfl)
    have HG : Hid (Kept (fun k => vs[b].ownBlock = some k) w1 w2 ∧ w2.heap[C]? = some (chO vs) ∧ w2.heap[A]? = some (tb C n M p) ∧ w2.ownsRow B 3 1 (.slice (some ⟨g, 0, none⟩) (l.length + 1) cap) (l.length + 1) (ic l ++ [.int .i64 x]) ∧ (v.ownBlock = some g ∨ g = w1.heap.size + 1)) := ⟨hk12, hC2, hA2, hown2, hor2⟩
    have hs3 := (tb_cells hA2).1
    have hc3 := ch_cell hC2 hbv
    have hf3 := ch_frozen hC2 b
    rw [← hv.out] at hc3
    have hAC : A ≠ C := HR1.out.ne.1
    have HS4 : Hid (∀ u, (w2.setCell ⟨C, b, none⟩ u).cell? ⟨A, 0, none⟩ = some (.slice (some ⟨C, 0, none⟩) n n)) := fun u => (tb_cells (hp_set_other hA2 b u hAC)).1
    clear hk12 hvb hC2 hA2 hown2 hgrow2 hor2
    refine hK.out _ _ hs3 (fun _ => ?_)
    clear hK
    try simp only [Act.put, List.setIfInBounds_toArray, List.set_cons_zero, List.set_cons_succ, List.getElem_toArray, List.getElem_cons_zero, List.getElem_cons_succ]
    refine wpAnyH_take (i := 15) (v := Value.pointer (some ⟨C, b, none⟩)) rfl (by kernel_rfl) (by kernel_rfl) (by kernel_rfl) (fun _ _ _ h => h) (Or.inl ⟨by kernel_rfl, ?_⟩) hs3 ?_
    · intro w' _; simp [go_sem, hb1, hb2, hb3]
    try simp only [Act.put, List.setIfInBounds_toArray, List.set_cons_zero, List.set_cons_succ, List.getElem_toArray, List.getElem_cons_zero, List.getElem_cons_succ]
    refine wpAnyH_ready (rs := [16]) (by kernel_rfl) (by simp) ?_
    refine AllReadyH.cons rfl (fun K' hK => ?_) AllReadyH.nil
    go_simp
    refine hK.out _ _ (HS4.out _) (fun _ => ?_)
    clear hK
    try simp only [Act.put, List.setIfInBounds_toArray, List.set_cons_zero, List.set_cons_succ, List.getElem_toArray, List.getElem_cons_zero, List.getElem_cons_succ]
    refine wpAnyH_done (by kernel_rfl) ?_ _
    go_end0
    have h := HR1.out
    have hg := HG.out
    have hvv : vs[b].ownBlock = v.ownBlock := by rw [hv.out]
    have hk3 : Kept (fun k => k = C ∨ vs[b].ownBlock = some k) w1 (w2.setCell ⟨C, b, none⟩ (.slice (some ⟨g, 0, none⟩) (l.length + 1) cap)) := (hg.1.mono (fun k hk => Or.inr hk)).set C b _ (Or.inl (Or.inl rfl))
    have hrow3 : (w2.setCell ⟨C, b, none⟩ (.slice (some ⟨g, 0, none⟩) (l.length + 1) cap)).ownsRow B 3 1 (.slice (some ⟨g, 0, none⟩) (l.length + 1) cap) (cL (K ++ [e]) n b).length (ic (cL (K ++ [e]) n b)) := by
      rw [cL_snoc, if_pos HE.out.symm, ← hl.out, ← HX.out, ic_append, List.length_append]
      exact row_kept hg.2.2.2.1 ((Kept.refl (fun k => k = C) w2).set C b _ (Or.inl rfl)) (fun g' hg' e2 => row3_ne hg.2.2.2.1 hg' hg.2.1 (by decide) e2)
    have hv3 : ∀ g', Value.ownBlock (.slice (some ⟨g, 0, none⟩) (l.length + 1) cap) = some g' → vs[b].ownBlock = some g' ∨ w1.heap.size ≤ g' := fun g' hg' => by
      simp [Value.ownBlock] at hg'
      subst hg'
      rw [hvv]
      rcases hg.2.2.2.2 with e2 | e2
      · exact Or.inl e2
      · exact Or.inr (by omega)
    refine ⟨rfl, _, h.link hbv hk3 (ch_set hg.2.1 b _) hrow3 (fun b' hb' => by rw [cL_snoc, if_neg (fun e2 => hb' (e2.symm.trans HE.out.symm))]) hv3 (by simp; omega), ?_, fun k hk => ?_⟩
    · refine (HK1.out.1.no).trans' (hk3.mono ?_) (fun i hi => Or.inl hi)
      rintro k (e2 | e2)
      · exact Or.inr (Or.inl e2)
      · exact Or.inr (Or.inr (Or.inr ⟨_, List.getElem_mem hbv, e2⟩))
    · rw [← HK1.out.2]; exact fp_set hbv hv3 hk
  · go_simp
    refine hK.out _ _ HS2.out (fun _ => ?_)
    clear hK
    try simp only [Act.put, List.setIfInBounds_toArray, List.set_cons_zero, List.set_cons_succ, List.getElem_toArray, List.getElem_cons_zero, List.getElem_cons_succ]
    refine wpAnyH_ready (rs := [11]) (by kernel_rfl) (by simp) ?_
    refine AllReadyH.cons rfl (fun K' hK => ?_) AllReadyH.nil
    go_simp
    refine hK.out _ _ HS2.out (fun _ => ?_)
    clear hK
    try simp only [Act.put, List.setIfInBounds_toArray, List.set_cons_zero, List.set_cons_succ, List.getElem_toArray, List.getElem_cons_zero, List.getElem_cons_succ]
    refine wpAnyH_ready (rs := [14]) (by kernel_rfl) (by simp) ?_
    refine AllReadyH.cons rfl (fun K' hK => ?_) AllReadyH.nil
    refine step_append_lies _ rfl _ _ _ rfl B 3 i0 (.int .i64 0) 1 8 Try.underlying42 HI.out.1 HI.out.2.1 HI.out.2.2.1 HI.out.2.2.2 rfl (by decide) v l.length (ic l) rfl (HRow1.out.alloc _) ⟨w1.heap.size, 0, none⟩ 1 1 [.int .i64 x] rfl rfl
      (World.news_of_block (cs := #[.int .i64 x]) (t := 3) (fr := (0, 0)) (World.alloc_heap_new w1 _)) (by simp [Value.oneCell']) (by decide) (by unfold maxLen; have := HLl.out; omega) (by have := HLl.out; omega) (by have := HB.out; simp; omega) (w1.heap.size + 1) (by simp) ?_
    intro g cap w2 hown2 hgrow2 hor2 hlt2
    have hk12 : Kept (fun k => vs[b].ownBlock = some k) w1 w2 := ((Kept.refl _ w1).alloc _).grown hgrow2 (fun k hk => Or.inl (by rw [← hv.out]; exact hk))
    have hvb := HR1.out.row b hbv
    have hC2 : w2.heap[C]? = some (chO vs) := hk12.heap HR1.out.hC (fun e2 => row3_ne hvb e2 HR1.out.hC (by decide) rfl)
    have hA2 : w2.heap[A]? = some (tb C n M p) := hk12.heap HR1.out.hA (fun e2 => row3_ne hvb e2 HR1.out.hA (by decide) rfl)
    have HG : Hid (Kept (fun k => vs[b].ownBlock = some k) w1 w2 ∧ w2.heap[C]? = some (chO vs) ∧ w2.heap[A]? = some (tb C n M p) ∧ w2.ownsRow B 3 1 (.slice (some ⟨g, 0, none⟩) (l.length + 1) cap) (l.length + 1) (ic l ++ [.int .i64 x]) ∧ (v.ownBlock = some g ∨ g = w1.heap.size + 1)) := ⟨hk12, hC2, hA2, hown2, hor2⟩
    have hs3 := (tb_cells hA2).1
    have hc3 := ch_cell hC2 hbv
    have hf3 := ch_frozen hC2 b
    rw [← hv.out] at hc3
    have hAC : A ≠ C := HR1.out.ne.1
    have HS4 : Hid (∀ u, (w2.setCell ⟨C, b, none⟩ u).cell? ⟨A, 0, none⟩ = some (.slice (some ⟨C, 0, none⟩) n n)) := fun u => (tb_cells (hp_set_other hA2 b u hAC)).1
    clear hk12 hvb hC2 hA2 hown2 hgrow2 hor2
    refine hK.out _ _ hs3 (fun _ => ?_)
    clear hK
    try simp only [Act.put, List.setIfInBounds_toArray, List.set_cons_zero, List.set_cons_succ, List.getElem_toArray, List.getElem_cons_zero, List.getElem_cons_succ]
    refine wpAnyH_take (i := 15) (v := Value.pointer (some ⟨C, b, none⟩)) rfl (by kernel_rfl) (by kernel_rfl) (by kernel_rfl) (fun _ _ _ h => h) (Or.inl ⟨by kernel_rfl, ?_⟩) hs3 ?_
    · intro w' _; simp [go_sem, hb1, hb2, hb3]
    try simp only [Act.put, List.setIfInBounds_toArray, List.set_cons_zero, List.set_cons_succ, List.getElem_toArray, List.getElem_cons_zero, List.getElem_cons_succ]
    refine wpAnyH_ready (rs := [16]) (by kernel_rfl) (by simp) ?_
    refine AllReadyH.cons rfl (fun K' hK => ?_) AllReadyH.nil
    go_simp
    refine hK.out _ _ (HS4.out _) (fun _ => ?_)
    clear hK
    try simp only [Act.put, List.setIfInBounds_toArray, List.set_cons_zero, List.set_cons_succ, List.getElem_toArray, List.getElem_cons_zero, List.getElem_cons_succ]
    refine wpAnyH_done (by kernel_rfl) ?_ _
    go_end0
    have h := HR1.out
    have hg := HG.out
    have hvv : vs[b].ownBlock = v.ownBlock := by rw [hv.out]
    have hk3 : Kept (fun k => k = C ∨ vs[b].ownBlock = some k) w1 (w2.setCell ⟨C, b, none⟩ (.slice (some ⟨g, 0, none⟩) (l.length + 1) cap)) := (hg.1.mono (fun k hk => Or.inr hk)).set C b _ (Or.inl (Or.inl rfl))
    have hrow3 : (w2.setCell ⟨C, b, none⟩ (.slice (some ⟨g, 0, none⟩) (l.length + 1) cap)).ownsRow B 3 1 (.slice (some ⟨g, 0, none⟩) (l.length + 1) cap) (cL (K ++ [e]) n b).length (ic (cL (K ++ [e]) n b)) := by
      rw [cL_snoc, if_pos HE.out.symm, ← hl.out, ← HX.out, ic_append, List.length_append]
      exact row_kept hg.2.2.2.1 ((Kept.refl (fun k => k = C) w2).set C b _ (Or.inl rfl)) (fun g' hg' e2 => row3_ne hg.2.2.2.1 hg' hg.2.1 (by decide) e2)
    have hv3 : ∀ g', Value.ownBlock (.slice (some ⟨g, 0, none⟩) (l.length + 1) cap) = some g' → vs[b].ownBlock = some g' ∨ w1.heap.size ≤ g' := fun g' hg' => by
      simp [Value.ownBlock] at hg'
      subst hg'
      rw [hvv]
      rcases hg.2.2.2.2 with e2 | e2
      · exact Or.inl e2
      · exact Or.inr (by omega)
    refine ⟨rfl, _, h.link hbv hk3 (ch_set hg.2.1 b _) hrow3 (fun b' hb' => by rw [cL_snoc, if_neg (fun e2 => hb' (e2.symm.trans HE.out.symm))]) hv3 (by simp; omega), ?_, fun k hk => ?_⟩
    · refine (HK1.out.1.no).trans' (hk3.mono ?_) (fun i hi => Or.inl hi)
      rintro k (e2 | e2)
      · exact Or.inr (Or.inl e2)
      · exact Or.inr (Or.inr (Or.inr ⟨_, List.getElem_mem hbv, e2⟩))
    · rw [← HK1.out.2]; exact fp_set hbv hv3 hk
end Go.Proofs.Ytnfamebihpnjlaa
