/- Drop, where no fewer buckets are wanted. -/
import Derived.Test.YtnfamebihpnjlaaS8
namespace Go.Proofs.Ytnfamebihpnjlaa
open Go.RowKit
set_option linter.unusedSimpArgs false
set_option linter.unusedVariables false

theorem rm_length : ∀ {L : List Ent} {e : Ent}, (L.map Ent.h).Nodup → e ∈ L → (rm L e.h).length = L.length - 1
  | x :: L, e, hn, he => by
    simp only [List.map_cons, List.nodup_cons, List.mem_map, not_exists, not_and] at hn
    unfold rm
    rcases List.mem_cons.1 he with h1 | h1
    · subst h1
      rw [List.filter_cons]
      simp only [bne_self_eq_false, Bool.false_eq_true, if_false, List.length_cons]
      rw [List.filter_eq_self.2 (fun y hy => by simp only [bne_iff_ne, ne_eq]; exact hn.1 y hy)]
      omega
    · have hne : (x.h != e.h) = true := by simp only [bne_iff_ne, ne_eq]; exact fun e2 => hn.1 e h1 e2.symm
      rw [List.filter_cons, hne, if_pos rfl, List.length_cons]
      have := rm_length hn.2 h1
      unfold rm at this
      rw [this, List.length_cons]
      have := List.length_pos_of_mem h1
      omega
theorem lookE_rm (L : List Ent) (h i : Int) : lookE (rm L h) i = if i = h then none else lookE L i := by
  by_cases e : i = h
  · subst e
    rw [if_pos rfl]
    refine lookE_none (fun x hx => ?_)
    have := (List.mem_filter.1 hx).2
    simpa using this
  · rw [if_neg e]
    unfold lookE rm
    rw [List.find?_filter]
    congr 2
    funext x
    by_cases h1 : x.h = i
    · simp [h1, e]
    · simp [h1]
theorem Good.rm {L : List Ent} {p : Nat} (h : Good L p) (x : Int) : Good (rm L x) p :=
  ⟨h.hnd.sublist (List.Sublist.map _ List.filter_sublist), h.snd.sublist (List.Sublist.map _ List.filter_sublist), fun e he => h.pos e ((List.mem_filter.1 he).1), fun e he => h.siz e ((List.mem_filter.1 he).1),
    h.ord.sublist (List.Sublist.map _ List.filter_sublist), fun e he => h.le e ((List.mem_filter.1 he).1)⟩

/-- A text less, behind its chain. -/
theorem Rq.less {w w' : World} {B A C M n p nn : Nat} {vs : List Value} {L : List Ent} {x : Int} (h : Rq w B A C M n p nn vs L (rm L x)) (hk : Kept (fun k => k = M) w w') (hM : MapIs w' M nn (rm L x).length (fun i => if i = x then none else lookE L i)) : Rq w' B A C M n p nn vs (rm L x) (rm L x) := by
  have hne := h.ne
  refine ⟨hk.heap h.hA (fun e => hne.2.1 e.symm), hk.heap h.hC (fun e => hne.2.2 e.symm), h.len, h.n1, h.n2, hM.congr rfl (fun i => (lookE_rm L x i).symm), fun b hb => row_kept (h.row b hb) hk (fun g hg e => row3_nm (h.row b hb) hg h.map e), h.apart, h.bA, h.bC, h.bM, h.good.rm x, h.short⟩

set_option maxHeartbeats 400000 in
theorem Drop_none {w : World} {B A C M n p nn : Nat} {vs : List Value} {L : List Ent} (h : Rep w B A C M n p nn vs L) (x : Int) (hx : wf x) (hn : lookE L x = none) :
    Calls Try.prog 29 #[.pointer (some ⟨A, 0, none⟩), .int .i64 x] w fun e w' => e = .returned (.int .i64 5) ∧ Kept No w w' := by
  have HA : Hid (w.heap[A]? = some (tb C n M p)) := h.hA
  obtain ⟨a0, a1, a2⟩ := tb_cells h.hA
  have hl : (Instr.lookup 59 (.map (some M)) (.int .i64 x) true).run Try.prog w = .ok (.tuple #[.agg #[.string ⟨#[]⟩, .int .i64 0], .bool false]) w := by rw [h.map.look2 hx, hn]; rfl
  clear h
  go_enter Try.func29, Try.ntmps29
  go_wp2_with (go_at_call 33; refine (made_any _ HA.out).mono ?_; rintro e w' ⟨rfl, rfl⟩)
  go_ret
  exact ⟨rfl, (Kept.refl _ _).alloc _⟩

set_option maxRecDepth 20000 in
set_option maxHeartbeats 1000000 in
theorem Drop_front {w : World} {B A C M n p nn : Nat} {vs : List Value} {L : List Ent} (h : Rep w B A C M n p nn vs L) {e : Ent} (he : e ∈ L) (hr : n ≤ 4 ∨ n ≤ 4 * (L.length - 1) + 3) :
    Calls Try.prog 29 #[.pointer (some ⟨A, 0, none⟩), .int .i64 e.h] w fun r w' => r = .returned (.int .i64 0) ∧ ∃ vs', Rep w' B A C M n p nn vs' (rm L e.h) ∧ Kept (FP A C M vs) w w' ∧ ∀ k, FP A C M vs' k → FP A C M vs k ∨ w.heap.size ≤ k := by
  have HA : Hid (w.heap[A]? = some (tb C n M p)) := h.hA
  obtain ⟨a0, a1, a2⟩ := tb_cells h.hA
  have hwf : wf e.h := wf_pos (h.good.pos e he).1 (h.good.pos e he).2
  have hl : (Instr.lookup 59 (.map (some M)) (.int .i64 e.h) true).run Try.prog w = .ok (.tuple #[.agg #[.string e.s, .int .i64 e.q], .bool true]) w := by rw [h.map.look2 hwf, lookE_mem h.good.hnd he]; rfl
  have HR : Hid (Rep w B A C M n p nn vs L) := h
  have HE : Hid (e ∈ L ∧ wf e.h) := ⟨he, hwf⟩
  have hlen := rm_length h.good.hnd he
  have HL : Hid ((rm L e.h).length = L.length - 1) := hlen
  have n1 := h.n1
  clear h hwf he hlen
  go_enter Try.func29, Try.ntmps29
  go_wp2_with (go_at_call 33; refine (made_any _ HA.out).mono ?_; rintro e w' ⟨rfl, rfl⟩)
  refine (unlink_any (HR.out.no ((Kept.refl _ _).alloc _)).toRq HE.out.1).mono ?_
  rintro r w2 ⟨rfl, vs', hq2, hk2, hf2⟩
  have HQ2 : Hid (Rq w2 B A C M n p nn vs' L (rm L e.h) ∧ Kept (FP A C M vs) w w2 ∧ ∀ k, FP A C M vs' k → FP A C M vs k ∨ w.heap.size ≤ k) :=
    ⟨hq2, ((Kept.refl _ _).alloc _).trans hk2, fun k hk => (hf2 k hk).imp id (fun h => Nat.le_trans (by simp) h)⟩
  obtain ⟨b0, b1, b2⟩ := tb_cells hq2.hA
  obtain ⟨D, HD⟩ : ∃ D, Hid (w2.ownsMap Try.prog 3 iR M nn D ∧ DIs D L.length (lookE L)) := hq2.map
  clear hq2 hk2 hf2 a0 a1 a2 hl
  go_wp2_with (at_delete; refine wpList_delete_own _ rfl _ _ 59 3 rfl 64 keyed3 Try.underlying59 iR M nn D rfl HD.out.1 _ _ rfl (Maps.keyOf_int_mk Try.underlying3 HE.out.2) ?_; intro w3 hown3 hturn3)
  have hsome : (lookE L e.h).isSome = true := by rw [lookE_mem HR.out.good.hnd HE.out.1]; rfl
  have hM3 := MapIs.del HD.out.2 HD.out.1 hsome hown3
  rw [← HL.out] at hM3
  have hk3 : Kept (fun k => k = M) w2 w3 := (Kept.refl _ _).grown hturn3.grown (fun k e => by cases e; exact Or.inl rfl)
  have HQ3 : Hid (Rep w3 B A C M n p nn vs' (rm L e.h)) := (HQ2.out.1.less hk3 hM3).toRep HR.out.n1 HR.out.pb HR.out.nb
  have HK3 : Hid (Kept (FP A C M vs) w w3) := HQ2.out.2.1.trans (hk3.mono (fun k hk => Or.inr (Or.inr (Or.inl hk))))
  clear hown3 hturn3 hM3 hk3 hsome b0 b1 b2
  generalize hll : ((rm L e.h).length : Int) = ll
  have HLen : Hid (Calls Try.prog 15 #[.pointer (some ⟨A, 0, none⟩)] w3 fun e w' => e = .returned (.int .i64 ll) ∧ w3 = w') := by rw [← hll]; exact Len_any _ HQ3.out.hA HQ3.out.map
  have hlle : ll = ((L.length - 1 : Nat) : Int) := by rw [← hll, HL.out]
  clear hll
  by_cases h4 : n ≤ 4
  · have h4' : (n : Int) ≤ 4 := by omega
    go_wp2_with (first | (go_at_call 15; refine HLen.out.mono ?_; rintro e w' ⟨rfl, rfl⟩) | (go_at_call 16; refine (Buckets_any _ HQ3.out.hA).mono ?_; rintro e w' ⟨rfl, rfl⟩))
    go_ret
    exact ⟨rfl, vs', HQ3.out, HK3.out, HQ2.out.2.2⟩
  · have h5 : (4 : Int) < (n : Int) := by omega
    have h7 : n ≤ 100000 := HQ3.out.n2
    have h8 : wrap64 ((n : Int) / 4) = (n : Int) / 4 := by unfold wrap64; omega
    have h6 : ¬ (ll < wrap64 ((n : Int) / 4)) := by rw [h8]; omega
    clear h8
    clear hlle
    go_wp2_with (first | (go_at_call 15; refine HLen.out.mono ?_; rintro e w' ⟨rfl, rfl⟩) | (go_at_call 16; refine (Buckets_any _ HQ3.out.hA).mono ?_; rintro e w' ⟨rfl, rfl⟩))
    · exfalso
      have h8 : wrap64 ((n : Int) / 4) = (n : Int) / 4 := by unfold wrap64; omega
      omega
    go_ret
    exact ⟨rfl, vs', HQ3.out, HK3.out, HQ2.out.2.2⟩
end Go.Proofs.Ytnfamebihpnjlaa
