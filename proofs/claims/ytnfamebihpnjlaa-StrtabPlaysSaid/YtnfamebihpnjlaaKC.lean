/- Put and Drop where the table is renewed, in the order of the puts. -/
import Derived.Test.YtnfamebihpnjlaaY0
import Derived.Test.YtnfamebihpnjlaaKB
namespace Go.Proofs.Ytnfamebihpnjlaa
open Go.RowKit
set_option linter.unusedSimpArgs false
set_option linter.unusedVariables false

theorem ord_snoc {L : List Ent} {e : Ent} (h : Ord L) (hl : ∀ y ∈ L, y.q < e.q) : Ord (L ++ [e]) := by
  unfold Ord
  rw [List.pairwise_append]
  exact ⟨h, by simp, fun a ha b hb => by rw [List.mem_singleton.1 hb]; exact hl a ha⟩
theorem ord_rm {L : List Ent} (h : Ord L) (x : Int) : Ord (rm L x) := h.filter _

set_option maxRecDepth 20000 in
set_option maxHeartbeats 1000000 in
theorem Put_more_ord {w : World} {B A C M n p : Nat} {vs : List Value} {L : List Ent} (h : Rep w B A C M n p p vs L) (s : ByteArray) (hs : s.size ≤ maxLen) (x : Int) (hx : 1 ≤ x) (hx2 : x ≤ 9223372036854775807) (hh : hasB L s x = false) (hp : p + 1 ≤ 100000)
    (hr : n < L.length + 1) (hn2 : 2 * n ≤ 100000) (hl6 : L.length + 1 ≤ 60000) (ho : Ord L) :
    Calls Try.prog 27 #[.pointer (some ⟨A, 0, none⟩), .string s, .int .i64 x] w fun e w' => e = .returned (.int .i64 0) ∧ ∃ C' vs', Rep w' B A C' M (2 * n) (p + 1) (p + 1) vs' (L ++ [⟨x, s, p + 1⟩]) ∧ Kept (FP A C M vs) w w' ∧ ∀ k, FP A C' M vs' k → FP A C M vs k ∨ w.heap.size ≤ k := by
  have HA : Hid (w.heap[A]? = some (tb C n M p)) := h.hA
  have HH : Hid (Calls Try.prog 38 #[.pointer (some ⟨A, 0, none⟩), .string s, .int .i64 x] w fun e w' => e = .returned (.bool false) ∧ Kept No w w') := by
    have := has_any h s hs x (wf_pos hx hx2)
    rw [hh] at this; exact this
  have HR : Hid (Rep w B A C M n p p vs L) := h
  have HB : Hid (hasB L s x = false ∧ s.size ≤ maxLen) := ⟨hh, hs⟩
  clear h hh hs
  go_enter Try.func27, Try.ntmps27
  go_wp2_with (first | (go_at_call 33; refine (made_any _ HA.out).mono ?_; rintro e w' ⟨rfl, rfl⟩))
  refine HH.out.mono ?_
  rintro e w1 ⟨rfl, hk⟩
  have HK : Hid (Kept No w w1) := hk
  have HR1 : Hid (Rep w1 B A C M n p p vs L) := HR.out.no hk
  obtain ⟨a0, a1, a2⟩ := tb_cells HR1.out.hA
  have af := tb_frozen HR1.out.hA 2
  clear hk
  go_wp2_with fail
  obtain ⟨P, HP⟩ : ∃ P : Nat, Hid (P = p + 1) := ⟨_, rfl⟩
  have hpc : (p : Int) + 1 = (P : Int) := by have := HP.out; omega
  rw [hpc]
  clear hpc
  have hA2 : (w1.setCell ⟨A, 2, none⟩ (.int .i64 (P : Int))).heap[A]? = some (tb C n M P) := by rw [hp_set_same HR1.out.hA]; rfl
  have hk2 : Kept (fun k => k = A) w1 (w1.setCell ⟨A, 2, none⟩ (.int .i64 (P : Int))) := (Kept.refl _ _).set A 2 _ (Or.inl rfl)
  have hM2 : MapIs (w1.setCell ⟨A, 2, none⟩ (.int .i64 (P : Int))).drew M p L.length (lookE L) := HR1.out.map.kept hk2.drew HR1.out.ne.2.1
  have HS0 : Hid ((w1.setCell ⟨A, 2, none⟩ (.int .i64 (P : Int))).drew.cell? ⟨A, 1, none⟩ = some (.map (some M)) ∧ (w1.setCell ⟨A, 2, none⟩ (.int .i64 (P : Int))).drew.cell? ⟨A, 2, none⟩ = some (.int .i64 (P : Int))) := ⟨(tb_cells hA2).2.1, (tb_cells hA2).2.2⟩
  have HA2 : Hid ((w1.setCell ⟨A, 2, none⟩ (.int .i64 (P : Int))).drew.heap[A]? = some (tb C n M P) ∧ Kept (fun k => k = A) w1 (w1.setCell ⟨A, 2, none⟩ (.int .i64 (P : Int))).drew) := ⟨hA2, hk2.drew⟩
  clear a0 a1 a2 af hA2 hk2
  refine wp_region_held_drew (S := fun w' => w'.cell? ⟨A, 1, none⟩ = some (.map (some M)) ∧ w'.cell? ⟨A, 2, none⟩ = some (.int .i64 (P : Int))) (by kernel_rfl) HS0.out (fun _ => ?_)
  generalize (w1.setCell ⟨A, 2, none⟩ (.int .i64 (P : Int))).drew = w2 at HS0 HA2 hM2 ⊢
  obtain ⟨D, ho, hD⟩ := hM2
  obtain ⟨w3, hrun, ho3, hturn⟩ := ho.store keyed3 Try.underlying59 (by unfold maxLen; omega) (Maps.keyOf_int_mk Try.underlying3 (wf_pos hx hx2)) (iR_mk (s, P))
  rw [← HP.out] at ho3
  have hrun' : (Instr.mapUpdate 59 (.map (some M)) (.int .i64 x) (.agg #[.string s, .int .i64 (P : Int)])).run Try.prog w2 = .ok () w3 := hrun
  have hM3 : MapIs w3 M P (L.length + 1) (fun i => if i = x then some (s, P) else lookE L i) := MapIs.put (w := w2) hD ho (wf_pos hx hx2) (hasB_false HB.out.1).2.2 (s, P) ho3
  have hk3 : Kept (fun k => k = M) w2 w3 := (Kept.refl _ _).grown hturn.grown (fun k e => by cases e; exact Or.inl rfl)
  have hA3 : w3.heap[A]? = some (tb C n M P) := hk3.heap HA2.out.1 (fun e => HR1.out.ne.2.1 e.symm)
  have HQ3 : Hid (Rq w3 B A C M n P P vs (L ++ [⟨x, s, P⟩]) L) :=
    HR1.out.more HP.out HB.out.1 hx hx2 HB.out.2 hA3 hM3 ((HA2.out.2.mono (fun k hk => Or.inl hk)).trans (hk3.mono (fun k hk => Or.inr hk)))
  have HK3 : Hid (Kept (FP A C M vs) w w3) := (HK.out.no).trans (((HA2.out.2.mono (fun k hk => Or.inl hk)).trans (hk3.mono (fun k hk => Or.inr (Or.inr (Or.inl hk))))))
  have HS3 : Hid (w3.cell? ⟨A, 1, none⟩ = some (.map (some M)) ∧ w3.cell? ⟨A, 2, none⟩ = some (.int .i64 (P : Int))) := ⟨(tb_cells hA3).2.1, (tb_cells hA3).2.2⟩
  clear hrun ho ho3 hD hturn hM3 hk3 hA3
  refine wpAnyH_take (i := 0) (v := Value.pointer (some ⟨A, 0, none⟩)) rfl (by kernel_rfl) (by kernel_rfl) (by kernel_rfl) (fun _ _ _ h => h) (Or.inl ⟨by kernel_rfl, ?_⟩) HS0.out ?_
  · intro w' _; rfl
  try simp only [Act.put, List.setIfInBounds_toArray, List.set_cons_zero, List.set_cons_succ, List.getElem_toArray, List.getElem_cons_zero, List.getElem_cons_succ]
  refine wpAnyH_take (i := 1) (v := Value.pointer (some ⟨A, 0, none⟩)) rfl (by kernel_rfl) (by kernel_rfl) (by kernel_rfl) (fun _ _ _ h => h) (Or.inl ⟨by kernel_rfl, ?_⟩) HS0.out ?_
  · intro w' _; simp [go_sem]
  try simp only [Act.put, List.setIfInBounds_toArray, List.set_cons_zero, List.set_cons_succ, List.getElem_toArray, List.getElem_cons_zero, List.getElem_cons_succ]
  refine wpAnyH_take (i := 2) (v := Value.pointer (some ⟨A, 1, none⟩)) rfl (by kernel_rfl) (by kernel_rfl) (by kernel_rfl) (fun _ _ _ h => h) (Or.inl ⟨by kernel_rfl, ?_⟩) HS0.out ?_
  · intro w' _; simp [go_sem]
  try simp only [Act.put, List.setIfInBounds_toArray, List.set_cons_zero, List.set_cons_succ, List.getElem_toArray, List.getElem_cons_zero, List.getElem_cons_succ]
  refine wpAnyH_take (i := 3) (v := Value.map (some M)) rfl (by kernel_rfl) (by kernel_rfl) (by kernel_rfl) (fun _ _ _ h => h) (Or.inl ⟨by kernel_rfl, ?_⟩) HS0.out ?_
  · rintro w' ⟨r0, r1⟩; simp [go_sem, r0]
  try simp only [Act.put, List.setIfInBounds_toArray, List.set_cons_zero, List.set_cons_succ, List.getElem_toArray, List.getElem_cons_zero, List.getElem_cons_succ]
  refine wpAnyH_take (i := 4) (v := Value.int .i64 x) rfl (by kernel_rfl) (by kernel_rfl) (by kernel_rfl) (fun _ _ _ h => h) (Or.inl ⟨by kernel_rfl, ?_⟩) HS0.out ?_
  · intro w' _; rfl
  try simp only [Act.put, List.setIfInBounds_toArray, List.set_cons_zero, List.set_cons_succ, List.getElem_toArray, List.getElem_cons_zero, List.getElem_cons_succ]
  refine wpAnyH_take (i := 5) (v := Value.string s) rfl (by kernel_rfl) (by kernel_rfl) (by kernel_rfl) (fun _ _ _ h => h) (Or.inl ⟨by kernel_rfl, ?_⟩) HS0.out ?_
  · intro w' _; rfl
  try simp only [Act.put, List.setIfInBounds_toArray, List.set_cons_zero, List.set_cons_succ, List.getElem_toArray, List.getElem_cons_zero, List.getElem_cons_succ]
  refine wpAnyH_take (i := 6) (v := Value.pointer (some ⟨A, 0, none⟩)) rfl (by kernel_rfl) (by kernel_rfl) (by kernel_rfl) (fun _ _ _ h => h) (Or.inl ⟨by kernel_rfl, ?_⟩) HS0.out ?_
  · intro w' _; rfl
  try simp only [Act.put, List.setIfInBounds_toArray, List.set_cons_zero, List.set_cons_succ, List.getElem_toArray, List.getElem_cons_zero, List.getElem_cons_succ]
  refine wpAnyH_take (i := 7) (v := Value.pointer (some ⟨A, 0, none⟩)) rfl (by kernel_rfl) (by kernel_rfl) (by kernel_rfl) (fun _ _ _ h => h) (Or.inl ⟨by kernel_rfl, ?_⟩) HS0.out ?_
  · intro w' _; simp [go_sem]
  try simp only [Act.put, List.setIfInBounds_toArray, List.set_cons_zero, List.set_cons_succ, List.getElem_toArray, List.getElem_cons_zero, List.getElem_cons_succ]
  refine wpAnyH_take (i := 8) (v := Value.pointer (some ⟨A, 2, none⟩)) rfl (by kernel_rfl) (by kernel_rfl) (by kernel_rfl) (fun _ _ _ h => h) (Or.inl ⟨by kernel_rfl, ?_⟩) HS0.out ?_
  · intro w' _; simp [go_sem]
  try simp only [Act.put, List.setIfInBounds_toArray, List.set_cons_zero, List.set_cons_succ, List.getElem_toArray, List.getElem_cons_zero, List.getElem_cons_succ]
  refine wpAnyH_take (i := 9) (v := Value.int .i64 (P : Int)) rfl (by kernel_rfl) (by kernel_rfl) (by kernel_rfl) (fun _ _ _ h => h) (Or.inl ⟨by kernel_rfl, ?_⟩) HS0.out ?_
  · rintro w' ⟨r0, r1⟩; simp [go_sem, r1]
  try simp only [Act.put, List.setIfInBounds_toArray, List.set_cons_zero, List.set_cons_succ, List.getElem_toArray, List.getElem_cons_zero, List.getElem_cons_succ]
  refine wpAnyH_take (i := 10) (v := Value.agg #[.string s, .int .i64 (P : Int)]) rfl (by kernel_rfl) (by kernel_rfl) (by kernel_rfl) (fun _ _ _ h => h) (Or.inl ⟨by kernel_rfl, ?_⟩) HS0.out ?_
  · intro w' _; simp [go_sem]
  try simp only [Act.put, List.setIfInBounds_toArray, List.set_cons_zero, List.set_cons_succ, List.getElem_toArray, List.getElem_cons_zero, List.getElem_cons_succ]
  refine wpAnyH_ready (rs := [11]) (by kernel_rfl) (by simp) ?_
  refine AllReadyH.cons rfl (fun K' hK => ?_) AllReadyH.nil
  go_simp
  refine hK.out _ _ HS3.out (fun _ => ?_)
  clear hK
  try simp only [Act.put, List.setIfInBounds_toArray, List.set_cons_zero, List.set_cons_succ, List.getElem_toArray, List.getElem_cons_zero, List.getElem_cons_succ]
  refine wpAnyH_done (by kernel_rfl) ?_ _
  clear hrun'
  go_wp2_with fail
  refine (link_any HQ3.out (e := ⟨x, s, P⟩) (by simp) (by have := HR1.out.n2; omega)).mono ?_
  rintro e w4 ⟨rfl, vs', hq4, hk4, hf4⟩
  have HQ4 : Hid (Rep w4 B A C M n P P vs' (L ++ [⟨x, s, P⟩])) := hq4.toRep HR1.out.n1 (by have := HP.out; omega) (by have := HP.out; omega)
  have HK4 : Hid (Kept (FP A C M vs) w w4 ∧ ∀ k, FP A C M vs' k → FP A C M vs k ∨ w.heap.size ≤ k) := ⟨HK3.out.trans hk4, fun k hk => (hf4 k hk).imp id (fun h => Nat.le_trans HK3.out.size h)⟩
  have hle : (n : Int) < ((L ++ [(⟨x, s, P⟩ : Ent)]).length : Int) := by simp; omega
  have hl7 : (L ++ [(⟨x, s, P⟩ : Ent)]).length ≤ 60000 := by simp; omega
  have HO : Hid (Ord (L ++ [(⟨x, s, P⟩ : Ent)])) := ord_snoc ho (fun y hy => by have := HR.out.good.le y hy; have := HP.out; show y.q < P; omega)
  clear hq4 hk4 hf4 HQ3 HK3 HS3
  obtain ⟨L', HL'⟩ : ∃ L', Hid (L ++ [(⟨x, s, P⟩ : Ent)] = L') := ⟨_, rfl⟩
  rw [HL'.out] at HQ4 hle hl7 HO
  have n1 := HQ4.out.n1
  have HRn : Hid _ := renew_ord HQ4.out HO.out hl7 (m := 2 * n) (by omega) hn2
  have em : ((2 * n : Nat) : Int) = 2 * (n : Int) := by omega
  rw [em] at HRn
  clear em hl7
  generalize hll : (L'.length : Int) = ll at hle
  have HLen : Hid (Calls Try.prog 15 #[.pointer (some ⟨A, 0, none⟩)] w4 fun e w' => e = .returned (.int .i64 ll) ∧ w4 = w') := by rw [← hll]; exact Len_any _ HQ4.out.hA HQ4.out.map
  clear hll
  go_wp2_with (first | (go_at_call 15; refine HLen.out.mono ?_; rintro e w' ⟨rfl, rfl⟩) | (go_at_call 16; refine (Buckets_any _ HQ4.out.hA).mono ?_; rintro e w' ⟨rfl, rfl⟩))
  refine Calls.mono HRn.out ?_
  rintro e w5 ⟨rfl, C', vs5, hr5, hk5, hf5⟩
  have HF : Hid (Rep w5 B A C' M (2 * n) P P vs5 L' ∧ Kept (FP A C M vs) w w5 ∧ ∀ k, FP A C' M vs5 k → FP A C M vs k ∨ w.heap.size ≤ k) := ⟨hr5, HK4.out.1.trans (hk5.mono (fun k hk => hk.elim Or.inl (fun h => Or.inr (Or.inr (Or.inl h))))), fun k hk => by
    have hz := HK4.out.1.size
    rcases hf5 k hk with h | h | h
    · exact Or.inl (Or.inl h)
    · exact Or.inl (Or.inr (Or.inr (Or.inl h)))
    · exact Or.inr (by omega)⟩
  clear hr5 hk5 hf5 HRn
  go_wp2
  go_ret
  rw [← HL'.out, HP.out] at HF
  exact ⟨rfl, C', vs5, HF.out.1, HF.out.2.1, HF.out.2.2⟩

set_option maxRecDepth 20000 in
set_option maxHeartbeats 1000000 in
theorem Drop_fewer_ord {w : World} {B A C M n p nn : Nat} {vs : List Value} {L : List Ent} (h : Rep w B A C M n p nn vs L) {e : Ent} (he : e ∈ L) (h8 : 8 ≤ n) (hr : 4 * (L.length - 1) + 3 < n) (hl6 : L.length ≤ 60000) (ho : Ord L) :
    Calls Try.prog 29 #[.pointer (some ⟨A, 0, none⟩), .int .i64 e.h] w fun r w' => r = .returned (.int .i64 0) ∧ ∃ C' vs', Rep w' B A C' M (n / 2) p nn vs' (rm L e.h) ∧ Kept (FP A C M vs) w w' ∧ ∀ k, FP A C' M vs' k → FP A C M vs k ∨ w.heap.size ≤ k := by
  have HA : Hid (w.heap[A]? = some (tb C n M p)) := h.hA
  obtain ⟨a0, a1, a2⟩ := tb_cells h.hA
  have hwf : wf e.h := wf_pos (h.good.pos e he).1 (h.good.pos e he).2
  have hl : (Instr.lookup 59 (.map (some M)) (.int .i64 e.h) true).run Try.prog w = .ok (.tuple #[.agg #[.string e.s, .int .i64 e.q], .bool true]) w := by rw [h.map.look2 hwf, lookE_mem h.good.hnd he]; rfl
  have HR : Hid (Rep w B A C M n p nn vs L) := h
  have HE : Hid (e ∈ L ∧ wf e.h) := ⟨he, hwf⟩
  have hlen := rm_length h.good.hnd he
  have HL : Hid ((rm L e.h).length = L.length - 1) := hlen
  have n1 := h.n1
  clear h hwf he hlen
  go_enter Try.func29, Try.ntmps29
  go_wp2_with (go_at_call 33; refine (made_any _ HA.out).mono ?_; rintro e w' ⟨rfl, rfl⟩)
  refine (unlink_any (HR.out.no ((Kept.refl _ _).alloc _)).toRq HE.out.1).mono ?_
  rintro r w2 ⟨rfl, vs', hq2, hk2, hf2⟩
  have HQ2 : Hid (Rq w2 B A C M n p nn vs' L (rm L e.h) ∧ Kept (FP A C M vs) w w2 ∧ ∀ k, FP A C M vs' k → FP A C M vs k ∨ w.heap.size ≤ k) :=
    ⟨hq2, ((Kept.refl _ _).alloc _).trans hk2, fun k hk => (hf2 k hk).imp id (fun h => Nat.le_trans (by simp) h)⟩
  obtain ⟨b0, b1, b2⟩ := tb_cells hq2.hA
  obtain ⟨D, HD⟩ : ∃ D, Hid (w2.ownsMap Try.prog 3 iR M nn D ∧ DIs D L.length (lookE L)) := hq2.map
  clear hq2 hk2 hf2 a0 a1 a2 hl
  go_wp2_with (at_delete; refine wpList_delete_own _ rfl _ _ 59 3 rfl 64 keyed3 Try.underlying59 iR M nn D rfl HD.out.1 _ _ rfl (Maps.keyOf_int_mk Try.underlying3 HE.out.2) ?_; intro w3 hown3 hturn3)
  have hsome : (lookE L e.h).isSome = true := by rw [lookE_mem HR.out.good.hnd HE.out.1]; rfl
  have hM3 := MapIs.del HD.out.2 HD.out.1 hsome hown3
  rw [← HL.out] at hM3
  have hk3 : Kept (fun k => k = M) w2 w3 := (Kept.refl _ _).grown hturn3.grown (fun k e => by cases e; exact Or.inl rfl)
  have HQ3 : Hid (Rep w3 B A C M n p nn vs' (rm L e.h)) := (HQ2.out.1.less hk3 hM3).toRep HR.out.n1 HR.out.pb HR.out.nb
  have HK3 : Hid (Kept (FP A C M vs) w w3) := HQ2.out.2.1.trans (hk3.mono (fun k hk => Or.inr (Or.inr (Or.inl hk))))
  clear hown3 hturn3 hM3 hk3 hsome b0 b1 b2
  have h7 : n ≤ 100000 := HQ3.out.n2
  have hrl : (rm L e.h).length ≤ 60000 := by have := HL.out; omega
  have HRn : Hid _ := renew_ord HQ3.out (ord_rm ho e.h) hrl (m := n / 2) (by omega) (by omega)
  have em : ((n / 2 : Nat) : Int) = (n : Int) / 2 := by omega
  rw [em] at HRn
  clear em hrl
  generalize hll : ((rm L e.h).length : Int) = ll
  have HLen : Hid (Calls Try.prog 15 #[.pointer (some ⟨A, 0, none⟩)] w3 fun e w' => e = .returned (.int .i64 ll) ∧ w3 = w') := by rw [← hll]; exact Len_any _ HQ3.out.hA HQ3.out.map
  have hlle : ll = ((L.length - 1 : Nat) : Int) := by rw [← hll, HL.out]
  clear hll
  have h5 : (4 : Int) < (n : Int) := by omega
  have h8' : wrap64 ((n : Int) / 4) = (n : Int) / 4 := by unfold wrap64; omega
  have h9' : wrap64 ((n : Int) / 2) = (n : Int) / 2 := by unfold wrap64; omega
  have h6 : ll < wrap64 ((n : Int) / 4) := by rw [h8']; omega
  have h6' : ll < (n : Int) / 4 := by omega
  have hd4 : Int.tdiv (n : Int) 4 = (n : Int) / 4 := Int.tdiv_eq_ediv_of_nonneg (by omega)
  have hd2 : Int.tdiv (n : Int) 2 = (n : Int) / 2 := Int.tdiv_eq_ediv_of_nonneg (by omega)
  clear hlle
  go_wp2_with (first | (go_at_call 15; refine HLen.out.mono ?_; rintro e w' ⟨rfl, rfl⟩) | (go_at_call 16; refine (Buckets_any _ HQ3.out.hA).mono ?_; rintro e w' ⟨rfl, rfl⟩))
  refine Calls.mono HRn.out ?_
  rintro r5 w5 ⟨rfl, C', vs5, hr5, hk5, hf5⟩
  have HF : Hid (Rep w5 B A C' M (n / 2) p nn vs5 (rm L e.h) ∧ Kept (FP A C M vs) w w5 ∧ ∀ k, FP A C' M vs5 k → FP A C M vs k ∨ w.heap.size ≤ k) := ⟨hr5, HK3.out.trans (hk5.mono (fun k hk => hk.elim Or.inl (fun h => Or.inr (Or.inr (Or.inl h))))), fun k hk => by
    have hz := HK3.out.size
    rcases hf5 k hk with h | h | h
    · exact Or.inl (Or.inl h)
    · exact Or.inl (Or.inr (Or.inr (Or.inl h)))
    · exact Or.inr (by omega)⟩
  clear hr5 hk5 hf5 HRn
  go_wp2
  go_ret
  exact ⟨rfl, C', vs5, HF.out.1, HF.out.2.1, HF.out.2.2⟩
end Go.Proofs.Ytnfamebihpnjlaa
