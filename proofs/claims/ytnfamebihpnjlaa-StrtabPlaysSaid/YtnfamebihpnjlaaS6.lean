/- Put, where no more buckets are wanted. -/
import Derived.Test.YtnfamebihpnjlaaS5
namespace Go.Proofs.Ytnfamebihpnjlaa
open Go.RowKit
set_option linter.unusedSimpArgs false
set_option linter.unusedVariables false

theorem MapIs.le {w : World} {M n c : Nat} {g : Int → Option (ByteArray × Nat)} (h : MapIs w M n c g) : c ≤ n := by
  obtain ⟨D, ho, hD⟩ := h
  have := ho.size_le
  rw [hD.1] at this; exact this
theorem Rep.toRq {w : World} {B A C M n p nn : Nat} {vs : List Value} {L : List Ent} (h : Rep w B A C M n p nn vs L) : Rq w B A C M n p nn vs L L :=
  { hA := h.hA, hC := h.hC, len := h.len, n1 := by have := h.n1; omega, n2 := h.n2, map := h.map, row := h.row, apart := h.apart, bA := h.bA, bC := h.bC, bM := h.bM, good := h.good, short := Nat.le_trans h.map.le h.nb }
theorem Rq.toRep {w : World} {B A C M n p nn : Nat} {vs : List Value} {L : List Ent} (h : Rq w B A C M n p nn vs L L) (n1 : 4 ≤ n) (pb : p ≤ 100000) (nb : nn ≤ 100000) : Rep w B A C M n p nn vs L :=
  { hA := h.hA, hC := h.hC, len := h.len, n1 := n1, n2 := h.n2, pb := pb, nb := nb, map := h.map, row := h.row, apart := h.apart, bA := h.bA, bC := h.bC, bM := h.bM, good := h.good }

theorem lookE_snoc {L : List Ent} {e : Ent} (hn : lookE L e.h = none) (i : Int) : lookE (L ++ [e]) i = if i = e.h then some (e.s, e.q) else lookE L i := by
  by_cases h : i = e.h
  · subst h
    rw [if_pos rfl]
    unfold lookE at hn ⊢
    rw [List.find?_append]
    cases hf : L.find? (fun x => x.h == e.h) with
    | some y => rw [hf] at hn; cases hn
    | none => simp
  · rw [if_neg h]
    unfold lookE
    rw [List.find?_append]
    have : (e.h == i) = false := by rw [beq_eq_false_iff_ne]; exact fun e2 => h e2.symm
    cases hf : L.find? (fun x => x.h == i) with
    | some y => simp
    | none => simp [this]
theorem hasB_false {L : List Ent} {s : ByteArray} {x : Int} (h : hasB L s x = false) : (∀ e ∈ L, e.h ≠ x) ∧ (∀ e ∈ L, e.s ≠ s) ∧ lookE L x = none := by
  unfold hasB at h
  rw [Bool.or_eq_false_iff] at h
  refine ⟨fun e he e2 => ?_, fun e he e2 => ?_, ?_⟩
  · have := lookE_isSome.2 ⟨e, he, e2⟩
    rw [h.1] at this; cases this
  · rcases find_spec (L := L) (s := s) with ⟨y, _, _, hf⟩ | ⟨hn, _⟩
    · rw [hf] at h; cases h.2
    · exact hn e he e2
  · cases hl : lookE L x with
    | none => rfl
    | some y => rw [hl] at h; cases h.1
theorem Good.snoc {L : List Ent} {p : Nat} (h : Good L p) {s : ByteArray} {x : Int} (hh : hasB L s x = false) (h1 : 1 ≤ x) (h2 : x ≤ 9223372036854775807) (hs : s.size ≤ maxLen) : Good (L ++ [⟨x, s, p + 1⟩]) (p + 1) := by
  obtain ⟨f1, f2, _⟩ := hasB_false hh
  refine ⟨?_, ?_, ?_, ?_, ?_, ?_⟩
  · rw [List.map_append, List.nodup_append]
    refine ⟨h.hnd, by simp, ?_⟩
    intro a ha b hb e
    obtain ⟨y, hy, rfl⟩ := List.mem_map.1 ha
    simp at hb
    exact f1 y hy (e.trans hb)
  · rw [List.map_append, List.nodup_append]
    refine ⟨h.snd, by simp, ?_⟩
    intro a ha b hb e
    obtain ⟨y, hy, rfl⟩ := List.mem_map.1 ha
    simp at hb
    exact f2 y hy (ba_ext (by rw [e, hb]))
  · intro e he
    rcases List.mem_append.1 he with h3 | h3
    · exact h.pos e h3
    · simp at h3; subst h3; exact ⟨h1, h2⟩
  · intro e he
    rcases List.mem_append.1 he with h3 | h3
    · exact h.siz e h3
    · simp at h3; subst h3; exact hs
  · rw [List.map_append, List.pairwise_append]
    refine ⟨h.ord, by simp, ?_⟩
    intro a ha b hb
    obtain ⟨y, hy, rfl⟩ := List.mem_map.1 ha
    simp at hb
    have := h.le y hy
    omega
  · intro e he
    rcases List.mem_append.1 he with h3 | h3
    · have := h.le e h3; omega
    · simp at h3; subst h3; exact Nat.le_refl _

set_option maxHeartbeats 400000 in
theorem Put_arg {w : World} {B A C M n p nn : Nat} {vs : List Value} {L : List Ent} (h : Rep w B A C M n p nn vs L) (s : ByteArray) (x : Int) (hx : x < 1) :
    Calls Try.prog 27 #[.pointer (some ⟨A, 0, none⟩), .string s, .int .i64 x] w fun e w' => e = .returned (.int .i64 1) ∧ w = w' := by
  have HA : Hid (w.heap[A]? = some (tb C n M p)) := h.hA
  clear h
  go_enter Try.func27, Try.ntmps27
  go_wp2_with (go_at_call 33; refine (made_any _ HA.out).mono ?_; rintro e w' ⟨rfl, rfl⟩)
  go_ret
  exact ⟨rfl, rfl⟩

set_option maxHeartbeats 400000 in
theorem Put_there {w : World} {B A C M n p nn : Nat} {vs : List Value} {L : List Ent} (h : Rep w B A C M n p nn vs L) (s : ByteArray) (hs : s.size ≤ maxLen) (x : Int) (hx : 1 ≤ x) (hx2 : x ≤ 9223372036854775807) (hh : hasB L s x = true) :
    Calls Try.prog 27 #[.pointer (some ⟨A, 0, none⟩), .string s, .int .i64 x] w fun e w' => e = .returned (.int .i64 17) ∧ Kept No w w' := by
  have HA : Hid (w.heap[A]? = some (tb C n M p)) := h.hA
  have HH : Hid (Calls Try.prog 38 #[.pointer (some ⟨A, 0, none⟩), .string s, .int .i64 x] w fun e w' => e = .returned (.bool true) ∧ Kept No w w') := by
    have := has_any h s hs x (wf_pos hx hx2)
    rw [hh] at this; exact this
  clear h hh
  go_enter Try.func27, Try.ntmps27
  go_wp2_with (first | (go_at_call 33; refine (made_any _ HA.out).mono ?_; rintro e w' ⟨rfl, rfl⟩))
  refine HH.out.mono ?_
  rintro e w1 ⟨rfl, hk⟩
  have HK : Hid (Kept No w w1) := hk
  clear hk
  go_wp2
  go_ret
  exact ⟨rfl, HK.out⟩

/-- A text more, ahead of its chain. -/
theorem Rep.more {w1 w3 : World} {B A C M n p P : Nat} (hP : P = p + 1) {vs : List Value} {L : List Ent} (h : Rep w1 B A C M n p p vs L) {s : ByteArray} {x : Int} (hh : hasB L s x = false) (h1 : 1 ≤ x) (h2 : x ≤ 9223372036854775807) (hs : s.size ≤ maxLen)
    (hA : w3.heap[A]? = some (tb C n M P)) (hM : MapIs w3 M P (L.length + 1) (fun i => if i = x then some (s, P) else lookE L i)) (hk : Kept (fun k => k = A ∨ k = M) w1 w3) : Rq w3 B A C M n P P vs (L ++ [⟨x, s, P⟩]) L := by
  subst hP
  have hne := h.ne
  have nC : ¬ (C = A ∨ C = M) := by rintro (e | e); exact hne.1 e.symm; exact hne.2.2 e.symm
  have n1' := h.n1
  refine ⟨hA, hk.heap h.hC nC, h.len, by omega, h.n2, hM.congr (by simp) (fun i => (lookE_snoc (e := ⟨x, s, p + 1⟩) (hasB_false hh).2.2 i).symm), ?_, h.apart, h.bA, h.bC, h.bM, h.good.snoc hh h1 h2 hs, Nat.le_trans h.map.le h.nb⟩
  intro b hb
  refine row_kept (h.row b hb) hk (fun g hg => ?_)
  have := h.row_ne hb hg
  rintro (e | e)
  · exact this.1 e
  · exact this.2.2 e

set_option maxRecDepth 20000 in
set_option maxHeartbeats 1000000 in
theorem Put_front {w : World} {B A C M n p : Nat} {vs : List Value} {L : List Ent} (h : Rep w B A C M n p p vs L) (s : ByteArray) (hs : s.size ≤ maxLen) (x : Int) (hx : 1 ≤ x) (hx2 : x ≤ 9223372036854775807) (hh : hasB L s x = false) (hp : p + 1 ≤ 100000)
    (hr : L.length + 1 ≤ n) :
    Calls Try.prog 27 #[.pointer (some ⟨A, 0, none⟩), .string s, .int .i64 x] w fun e w' => e = .returned (.int .i64 0) ∧ ∃ vs', Rep w' B A C M n (p + 1) (p + 1) vs' (L ++ [⟨x, s, p + 1⟩]) ∧ Kept (FP A C M vs) w w' ∧ ∀ k, FP A C M vs' k → FP A C M vs k ∨ w.heap.size ≤ k := by
  have HA : Hid (w.heap[A]? = some (tb C n M p)) := h.hA
  have HH : Hid (Calls Try.prog 38 #[.pointer (some ⟨A, 0, none⟩), .string s, .int .i64 x] w fun e w' => e = .returned (.bool false) ∧ Kept No w w') := by
    have := has_any h s hs x (wf_pos hx hx2)
    rw [hh] at this; exact this
  have HR : Hid (Rep w B A C M n p p vs L) := h
  have HB : Hid (hasB L s x = false ∧ s.size ≤ maxLen) := ⟨hh, hs⟩
  clear h hh hs
  go_enter Try.func27, Try.ntmps27
  go_wp2_with (first | (go_at_call 33; refine (made_any _ HA.out).mono ?_; rintro e w' ⟨rfl, rfl⟩))
  refine HH.out.mono ?_
  rintro e w1 ⟨rfl, hk⟩
  have HK : Hid (Kept No w w1) := hk
  have HR1 : Hid (Rep w1 B A C M n p p vs L) := HR.out.no hk
  obtain ⟨a0, a1, a2⟩ := tb_cells HR1.out.hA
  have af := tb_frozen HR1.out.hA 2
  clear hk
  go_wp2_with fail
  obtain ⟨P, HP⟩ : ∃ P : Nat, Hid (P = p + 1) := ⟨_, rfl⟩
  have hpc : (p : Int) + 1 = (P : Int) := by have := HP.out; omega
  rw [hpc]
  clear hpc
  have hA2 : (w1.setCell ⟨A, 2, none⟩ (.int .i64 (P : Int))).heap[A]? = some (tb C n M P) := by rw [hp_set_same HR1.out.hA]; rfl
  have hk2 : Kept (fun k => k = A) w1 (w1.setCell ⟨A, 2, none⟩ (.int .i64 (P : Int))) := (Kept.refl _ _).set A 2 _ (Or.inl rfl)
  have hM2 : MapIs (w1.setCell ⟨A, 2, none⟩ (.int .i64 (P : Int))).drew M p L.length (lookE L) := HR1.out.map.kept hk2.drew HR1.out.ne.2.1
  have HS0 : Hid ((w1.setCell ⟨A, 2, none⟩ (.int .i64 (P : Int))).drew.cell? ⟨A, 1, none⟩ = some (.map (some M)) ∧ (w1.setCell ⟨A, 2, none⟩ (.int .i64 (P : Int))).drew.cell? ⟨A, 2, none⟩ = some (.int .i64 (P : Int))) := ⟨(tb_cells hA2).2.1, (tb_cells hA2).2.2⟩
  have HA2 : Hid ((w1.setCell ⟨A, 2, none⟩ (.int .i64 (P : Int))).drew.heap[A]? = some (tb C n M P) ∧ Kept (fun k => k = A) w1 (w1.setCell ⟨A, 2, none⟩ (.int .i64 (P : Int))).drew) := ⟨hA2, hk2.drew⟩
  clear a0 a1 a2 af hA2 hk2
  refine wp_region_held_drew (S := fun w' => w'.cell? ⟨A, 1, none⟩ = some (.map (some M)) ∧ w'.cell? ⟨A, 2, none⟩ = some (.int .i64 (P : Int))) (by kernel_rfl) HS0.out (fun _ => ?_)
  generalize (w1.setCell ⟨A, 2, none⟩ (.int .i64 (P : Int))).drew = w2 at HS0 HA2 hM2 ⊢
  obtain ⟨D, ho, hD⟩ := hM2
  obtain ⟨w3, hrun, ho3, hturn⟩ := ho.store keyed3 Try.underlying59 (by unfold maxLen; omega) (Maps.keyOf_int_mk Try.underlying3 (wf_pos hx hx2)) (iR_mk (s, P))
  rw [← HP.out] at ho3
  have hrun' : (Instr.mapUpdate 59 (.map (some M)) (.int .i64 x) (.agg #[.string s, .int .i64 (P : Int)])).run Try.prog w2 = .ok () w3 := hrun
  have hM3 : MapIs w3 M P (L.length + 1) (fun i => if i = x then some (s, P) else lookE L i) := MapIs.put (w := w2) hD ho (wf_pos hx hx2) (hasB_false HB.out.1).2.2 (s, P) ho3
  have hk3 : Kept (fun k => k = M) w2 w3 := (Kept.refl _ _).grown hturn.grown (fun k e => by cases e; exact Or.inl rfl)
  have hA3 : w3.heap[A]? = some (tb C n M P) := hk3.heap HA2.out.1 (fun e => HR1.out.ne.2.1 e.symm)
  have HQ3 : Hid (Rq w3 B A C M n P P vs (L ++ [⟨x, s, P⟩]) L) :=
    HR1.out.more HP.out HB.out.1 hx hx2 HB.out.2 hA3 hM3 ((HA2.out.2.mono (fun k hk => Or.inl hk)).trans (hk3.mono (fun k hk => Or.inr hk)))
  have HK3 : Hid (Kept (FP A C M vs) w w3) := (HK.out.no).trans (((HA2.out.2.mono (fun k hk => Or.inl hk)).trans (hk3.mono (fun k hk => Or.inr (Or.inr (Or.inl hk))))))
  have HS3 : Hid (w3.cell? ⟨A, 1, none⟩ = some (.map (some M)) ∧ w3.cell? ⟨A, 2, none⟩ = some (.int .i64 (P : Int))) := ⟨(tb_cells hA3).2.1, (tb_cells hA3).2.2⟩
  clear hrun ho ho3 hD hturn hM3 hk3 hA3
  refine wpAnyH_take (i := 0) (v := Value.pointer (some ⟨A, 0, none⟩)) rfl (by kernel_rfl) (by kernel_rfl) (by kernel_rfl) (fun _ _ _ h => h) (Or.inl ⟨by kernel_rfl, ?_⟩) HS0.out ?_
  · intro w' _; rfl
  try simp only [Act.put, List.setIfInBounds_toArray, List.set_cons_zero, List.set_cons_succ, List.getElem_toArray, List.getElem_cons_zero, List.getElem_cons_succ]
  refine wpAnyH_take (i := 1) (v := Value.pointer (some ⟨A, 0, none⟩)) rfl (by kernel_rfl) (by kernel_rfl) (by kernel_rfl) (fun _ _ _ h => h) (Or.inl ⟨by kernel_rfl, ?_⟩) HS0.out ?_
  · intro w' _; simp [go_sem]
  try simp only [Act.put, List.setIfInBounds_toArray, List.set_cons_zero, List.set_cons_succ, List.getElem_toArray, List.getElem_cons_zero, List.getElem_cons_succ]
  refine wpAnyH_take (i := 2) (v := Value.pointer (some ⟨A, 1, none⟩)) rfl (by kernel_rfl) (by kernel_rfl) (by kernel_rfl) (fun _ _ _ h => h) (Or.inl ⟨by kernel_rfl, ?_⟩) HS0.out ?_
  · intro w' _; simp [go_sem]
  try simp only [Act.put, List.setIfInBounds_toArray, List.set_cons_zero, List.set_cons_succ, List.getElem_toArray, List.getElem_cons_zero, List.getElem_cons_succ]
  refine wpAnyH_take (i := 3) (v := Value.map (some M)) rfl (by kernel_rfl) (by kernel_rfl) (by kernel_rfl) (fun _ _ _ h => h) (Or.inl ⟨by kernel_rfl, ?_⟩) HS0.out ?_
  · rintro w' ⟨r0, r1⟩; simp [go_sem, r0]
  try simp only [Act.put, List.setIfInBounds_toArray, List.set_cons_zero, List.set_cons_succ, List.getElem_toArray, List.getElem_cons_zero, List.getElem_cons_succ]
  refine wpAnyH_take (i := 4) (v := Value.int .i64 x) rfl (by kernel_rfl) (by kernel_rfl) (by kernel_rfl) (fun _ _ _ h => h) (Or.inl ⟨by kernel_rfl, ?_⟩) HS0.out ?_
  · intro w' _; rfl
  try simp only [Act.put, List.setIfInBounds_toArray, List.set_cons_zero, List.set_cons_succ, List.getElem_toArray, List.getElem_cons_zero, List.getElem_cons_succ]
  refine wpAnyH_take (i := 5) (v := Value.string s) rfl (by kernel_rfl) (by kernel_rfl) (by kernel_rfl) (fun _ _ _ h => h) (Or.inl ⟨by kernel_rfl, ?_⟩) HS0.out ?_
  · intro w' _; rfl
  try simp only [Act.put, List.setIfInBounds_toArray, List.set_cons_zero, List.set_cons_succ, List.getElem_toArray, List.getElem_cons_zero, List.getElem_cons_succ]
  refine wpAnyH_take (i := 6) (v := Value.pointer (some ⟨A, 0, none⟩)) rfl (by kernel_rfl) (by kernel_rfl) (by kernel_rfl) (fun _ _ _ h => h) (Or.inl ⟨by kernel_rfl, ?_⟩) HS0.out ?_
  · intro w' _; rfl
  try simp only [Act.put, List.setIfInBounds_toArray, List.set_cons_zero, List.set_cons_succ, List.getElem_toArray, List.getElem_cons_zero, List.getElem_cons_succ]
  refine wpAnyH_take (i := 7) (v := Value.pointer (some ⟨A, 0, none⟩)) rfl (by kernel_rfl) (by kernel_rfl) (by kernel_rfl) (fun _ _ _ h => h) (Or.inl ⟨by kernel_rfl, ?_⟩) HS0.out ?_
  · intro w' _; simp [go_sem]
  try simp only [Act.put, List.setIfInBounds_toArray, List.set_cons_zero, List.set_cons_succ, List.getElem_toArray, List.getElem_cons_zero, List.getElem_cons_succ]
  refine wpAnyH_take (i := 8) (v := Value.pointer (some ⟨A, 2, none⟩)) rfl (by kernel_rfl) (by kernel_rfl) (by kernel_rfl) (fun _ _ _ h => h) (Or.inl ⟨by kernel_rfl, ?_⟩) HS0.out ?_
  · intro w' _; simp [go_sem]
  try simp only [Act.put, List.setIfInBounds_toArray, List.set_cons_zero, List.set_cons_succ, List.getElem_toArray, List.getElem_cons_zero, List.getElem_cons_succ]
  refine wpAnyH_take (i := 9) (v := Value.int .i64 (P : Int)) rfl (by kernel_rfl) (by kernel_rfl) (by kernel_rfl) (fun _ _ _ h => h) (Or.inl ⟨by kernel_rfl, ?_⟩) HS0.out ?_
  · rintro w' ⟨r0, r1⟩; simp [go_sem, r1]
  try simp only [Act.put, List.setIfInBounds_toArray, List.set_cons_zero, List.set_cons_succ, List.getElem_toArray, List.getElem_cons_zero, List.getElem_cons_succ]
  refine wpAnyH_take (i := 10) (v := Value.agg #[.string s, .int .i64 (P : Int)]) rfl (by kernel_rfl) (by kernel_rfl) (by kernel_rfl) (fun _ _ _ h => h) (Or.inl ⟨by kernel_rfl, ?_⟩) HS0.out ?_
  · intro w' _; simp [go_sem]
  try simp only [Act.put, List.setIfInBounds_toArray, List.set_cons_zero, List.set_cons_succ, List.getElem_toArray, List.getElem_cons_zero, List.getElem_cons_succ]
  refine wpAnyH_ready (rs := [11]) (by kernel_rfl) (by simp) ?_
  refine AllReadyH.cons rfl (fun K' hK => ?_) AllReadyH.nil
  go_simp
  refine hK.out _ _ HS3.out (fun _ => ?_)
  clear hK
  try simp only [Act.put, List.setIfInBounds_toArray, List.set_cons_zero, List.set_cons_succ, List.getElem_toArray, List.getElem_cons_zero, List.getElem_cons_succ]
  refine wpAnyH_done (by kernel_rfl) ?_ _
  clear hrun'
  go_wp2_with fail
  refine (link_any HQ3.out (e := ⟨x, s, P⟩) (by simp) (by have := HR1.out.n2; omega)).mono ?_
  rintro e w4 ⟨rfl, vs', hq4, hk4, hf4⟩
  have HQ4 : Hid (Rep w4 B A C M n P P vs' (L ++ [⟨x, s, P⟩])) := hq4.toRep HR1.out.n1 (by have := HP.out; omega) (by have := HP.out; omega)
  have HK4 : Hid (Kept (FP A C M vs) w w4 ∧ ∀ k, FP A C M vs' k → FP A C M vs k ∨ w.heap.size ≤ k) := ⟨HK3.out.trans hk4, fun k hk => (hf4 k hk).imp id (fun h => Nat.le_trans HK3.out.size h)⟩
  have hle : ((L ++ [(⟨x, s, P⟩ : Ent)]).length : Int) ≤ (n : Int) := by simp; omega
  clear hq4 hk4 hf4 HQ3 HK3 HS3
  have hle2 : ¬ ((n : Int) < ((L ++ [(⟨x, s, P⟩ : Ent)]).length : Int)) := by omega
  obtain ⟨L', HL'⟩ : ∃ L', Hid (L ++ [(⟨x, s, P⟩ : Ent)] = L') := ⟨_, rfl⟩
  rw [HL'.out] at HQ4 hle hle2
  generalize hll : (L'.length : Int) = ll at hle hle2
  have HLen : Hid (Calls Try.prog 15 #[.pointer (some ⟨A, 0, none⟩)] w4 fun e w' => e = .returned (.int .i64 ll) ∧ w4 = w') := by rw [← hll]; exact Len_any _ HQ4.out.hA HQ4.out.map
  clear hll
  go_wp2_with (first | (go_at_call 15; refine HLen.out.mono ?_; rintro e w' ⟨rfl, rfl⟩) | (go_at_call 16; refine (Buckets_any _ HQ4.out.hA).mono ?_; rintro e w' ⟨rfl, rfl⟩))
  go_ret
  rw [← HL'.out, HP.out] at HQ4
  exact ⟨rfl, vs', HQ4.out, HK4.out.1, HK4.out.2⟩
end Go.Proofs.Ytnfamebihpnjlaa
