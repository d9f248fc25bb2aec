/- slices.Index and slices.Delete. -/
import Derived.Test.YtnfamebihpnjlaaS6
import Derived.Lib.SliceRun
namespace Go.Proofs.Ytnfamebihpnjlaa
open Go.RowKit
set_option linter.unusedSimpArgs false
set_option linter.unusedVariables false

set_option maxHeartbeats 1000000 in
theorem Index_any {w : World} {g cap i : Nat} {l : List Int} (hc : ∀ k (hk : k < l.length), w.cell? ⟨g, k, none⟩ = some (.int .i64 l[k])) (x : Int) (hi : i < l.length) (hx : l[i] = x) (hb : ∀ k (hk : k < l.length), k < i → l[k] ≠ x) (hl : l.length ≤ 100000) :
    Calls Try.prog 43 #[.slice (some ⟨g, 0, none⟩) l.length cap, .int .i64 x] w fun e w' => e = .returned (.int .i64 i) ∧ w = w' := by
  have HC : Hid (∀ k (hk : k < l.length), w.cell? ⟨g, k, none⟩ = some (.int .i64 l[k])) := hc
  have HB : Hid (∀ k (hk : k < l.length), k < i → l[k] ≠ x) := hb
  have HX : Hid (l[i] = x) := hx
  clear hc hb hx
  go_enter Try.func43, Try.ntmps43
  go_wp2_with fail
  go_loop [5, 8] (fun _ k' => ∃ k : Nat, k ≤ i ∧ k' = .int .i64 k) (fun _ k' => l.length - (intOf k').toNat)
  case atStart => exact ⟨0, Nat.zero_le _, rfl⟩
  case round =>
    obtain ⟨k, hk, rfl⟩ := hrel
    have hkl : k < l.length := by omega
    have hck := HC.out k hkl
    by_cases he : k = i
    · subst he
      rw [HX.out] at hck
      go_wp2
      go_ret
      exact ⟨rfl, rfl⟩
    · have hne : (x == l[k]) = false := by
        have := HB.out k hkl (by omega)
        rw [beq_eq_false_iff_ne]; exact fun e => this e.symm
      go_wp2
      go_round
      case rel => exact ⟨k + 1, by omega, by go_num⟩
      case measure => simp [intOf]; omega

theorem step_room {ops : Array Oper} {o : Oper} {a : Act} {w : World} {K : Act → World → Prop} {Q : Exit → Act → World → Prop} {E : Prop} (hgd : o.guard = none) (s x : Operand)
    (ho : o.op = .call { callee := .builtin .append, args := #[s, x], argTypes := #[42, 42] }) (v1 v2 v : Value) (w' : World) (hs : a.eval s = v1) (hx : a.eval x = v2) (hr : ∀ ty, (Builtin.append_ #[42, 42] ty #[v1, v2]).run Try.prog w = .ok v w')
    (h : K (a.put o.dst v) w') : if Region.wanted o (yielded ops a.tmps) = true then Oper.wp Try.prog o a w K Q else E := by
  have hw : Region.wanted o (yielded ops a.tmps) = true := by simp [Region.wanted, hgd]
  rw [if_pos hw]
  unfold Oper.wp execOp
  simp only [ho, resolve, invoke, builtin, Sem.run_bind, Sem.run_pure, Result.andThen_ok, List.map_toArray, List.map_cons, List.map_nil, hs, hx, hr]
  exact h

theorem zero3 (w : World) : (zeroValue 3).run Try.prog w = .ok (.int .i64 0) w := by kernel_rfl

set_option maxRecDepth 20000 in
set_option maxHeartbeats 1000000 in
theorem Delete_any {w : World} {g cap i : Nat} {l : List Int} {cur : Array Value} (hg : w.heap[g]? = some (.cells cur 3 (0, 0))) (hcs : cur.size = cap) (hcl : cur.toList.take l.length = ic l) (hlc : l.length ≤ cap) (hcm : cap ≤ maxLen) (hi : i < l.length) :
    Calls Try.prog 44 #[.slice (some ⟨g, 0, none⟩) l.length cap, .int .i64 i, .int .i64 ((i : Int) + 1)] w fun e w' => e = .returned (.slice (some ⟨g, 0, none⟩) (l.length - 1) cap) ∧
      (∃ cur' : Array Value, w'.heap[g]? = some (.cells cur' 3 (0, 0)) ∧ cur'.size = cap ∧ cur'.toList.take (l.length - 1) = ic (l.eraseIdx i)) ∧ Kept (fun k => k = g) w w' := by
  unfold maxLen at hcm
  have q1 : (0 : Int) ≤ (i : Int) := by omega
  have q2 : (i : Int) ≤ (i : Int) + 1 := by omega
  have q3 : (i : Int) + 1 ≤ (l.length : Int) := by omega
  have q4 : (i : Int).toNat = i := by omega
  have q5 : ((i : Int) + 1).toNat = i + 1 := by omega
  have q6 : (i : Int) ≤ (cap : Int) := by omega
  have q7 : (l.length : Int) ≤ (cap : Int) := by omega
  have q8 : (0 : Int) ≤ (i : Int) + 1 := by omega
  have HI : Hid (w.heap[g]? = some (.cells cur 3 (0, 0)) ∧ cur.size = cap ∧ cur.toList.take l.length = ic l) := ⟨hg, hcs, hcl⟩
  clear hg hcs hcl
  obtain ⟨O, m, c, HV, hm, hO⟩ : ∃ O m c : Nat, Hid (∀ w : World, (Instr.slice 42 (.slice (some ⟨g, 0, none⟩) l.length cap) (some (.int .i64 ((i : Int) + 1))) none none).run Try.prog w = .ok (.slice (some ⟨g, O, none⟩) m c) w) ∧ m = l.length - (i + 1) ∧ (O = i + 1 ∨ m = 0) := by
    by_cases hc : cap = i + 1
    · refine ⟨0, 0, 0, fun w => ?_, by omega, Or.inr rfl⟩
      have e : l.length = i + 1 := by omega
      subst hc
      rw [e]
      simp [go_sem, q5, q8]
    · refine ⟨i + 1, l.length - (i + 1), cap - (i + 1), fun w => ?_, rfl, Or.inl rfl⟩
      have q9 : (i : Int) + 1 ≤ (cap : Int) := by omega
      have q10 : i + 1 ≤ cap := by omega
      have q11 : cap - (i + 1) ≠ 0 := by omega
      have q12 : i + 1 ≤ l.length := by omega
      simp [go_sem, q3, q5, q7, q8, q9, q10, q11, q12, hc]
  have HM : Hid (m = l.length - (i + 1) ∧ (O = i + 1 ∨ m = 0)) := ⟨hm, hO⟩
  clear hm hO
  go_enter Try.func44, Try.ntmps44
  go_wp2_with fail
  refine wp_region_held_drew (S := fun _ => True) (by kernel_rfl) trivial (fun _ => ?_)
  have HI1 : Hid (w.drew.heap[g]? = some (.cells cur 3 (0, 0))) := HI.out.1
  have HK1 : Hid (Kept (fun k => k = g) w w.drew) := (Kept.refl _ _).drew
  generalize w.drew = w1 at HI1 HK1 ⊢
  refine wpAnyH_take (i := 0) (v := Value.slice (some ⟨g, 0, none⟩) l.length cap) rfl (by kernel_rfl) (by kernel_rfl) (by kernel_rfl) (fun _ _ _ h => h) (Or.inl ⟨by kernel_rfl, ?_⟩) trivial ?_
  · intro w' _; rfl
  try simp only [Act.put, List.setIfInBounds_toArray, List.set_cons_zero, List.set_cons_succ, List.getElem_toArray, List.getElem_cons_zero, List.getElem_cons_succ]
  refine wpAnyH_take (i := 1) (v := Value.int .i64 (i : Int)) rfl (by kernel_rfl) (by kernel_rfl) (by kernel_rfl) (fun _ _ _ h => h) (Or.inl ⟨by kernel_rfl, ?_⟩) trivial ?_
  · intro w' _; rfl
  try simp only [Act.put, List.setIfInBounds_toArray, List.set_cons_zero, List.set_cons_succ, List.getElem_toArray, List.getElem_cons_zero, List.getElem_cons_succ]
  refine wpAnyH_take (i := 2) (v := Value.slice (some ⟨g, 0, none⟩) i cap) rfl (by kernel_rfl) (by kernel_rfl) (by kernel_rfl) (fun _ _ _ h => h) (Or.inl ⟨by kernel_rfl, ?_⟩) trivial ?_
  · intro w' _; simp [go_sem, q1, q2, q3, q4, q5, q6, q7, q8]
  try simp only [Act.put, List.setIfInBounds_toArray, List.set_cons_zero, List.set_cons_succ, List.getElem_toArray, List.getElem_cons_zero, List.getElem_cons_succ]
  refine wpAnyH_take (i := 3) (v := Value.slice (some ⟨g, 0, none⟩) l.length cap) rfl (by kernel_rfl) (by kernel_rfl) (by kernel_rfl) (fun _ _ _ h => h) (Or.inl ⟨by kernel_rfl, ?_⟩) trivial ?_
  · intro w' _; rfl
  try simp only [Act.put, List.setIfInBounds_toArray, List.set_cons_zero, List.set_cons_succ, List.getElem_toArray, List.getElem_cons_zero, List.getElem_cons_succ]
  refine wpAnyH_take (i := 4) (v := Value.int .i64 ((i : Int) + 1)) rfl (by kernel_rfl) (by kernel_rfl) (by kernel_rfl) (fun _ _ _ h => h) (Or.inl ⟨by kernel_rfl, ?_⟩) trivial ?_
  · intro w' _; rfl
  try simp only [Act.put, List.setIfInBounds_toArray, List.set_cons_zero, List.set_cons_succ, List.getElem_toArray, List.getElem_cons_zero, List.getElem_cons_succ]
  refine wpAnyH_take (i := 5) (v := Value.slice (some ⟨g, O, none⟩) m c) rfl (by kernel_rfl) (by kernel_rfl) (by kernel_rfl) (fun _ _ _ h => h) (Or.inl ⟨by kernel_rfl, ?_⟩) trivial ?_
  · intro w' _; have hv := HV.out w'; simp [go_sem, q3, q8] at hv ⊢; exact hv
  try simp only [Act.put, List.setIfInBounds_toArray, List.set_cons_zero, List.set_cons_succ, List.getElem_toArray, List.getElem_cons_zero, List.getElem_cons_succ]
  refine wpAnyH_ready (rs := [6]) (by kernel_rfl) (by simp) ?_
  refine AllReadyH.cons rfl (fun K' hK => ?_) AllReadyH.nil
  obtain ⟨hm, hO⟩ := HM.out
  obtain ⟨i0, hi0, hz0, hz1, hz2⟩ := info_parts info3
  have HC1 : ∀ k, k < l.length → w1.cell? ⟨g, k, none⟩ = (ic l)[k]? := fun k hk => by
    rw [cell_of HI1.out, ← HI.out.2.2, List.getElem?_take, if_pos hk, Array.getElem?_toList]
  have hnl : (ic (l.drop (i + 1))).length = m := by simp [ic, hm]
  have hr : ∀ ty, (Builtin.append_ #[42, 42] ty #[.slice (some ⟨g, 0, none⟩) i cap, .slice (some ⟨g, O, none⟩) m c]).run Try.prog w1 =
      .ok (.slice (some ⟨g, 0, none⟩) (i + m) cap) (w1.setRow g (cur.toList.take i ++ ic (l.drop (i + 1)) ++ cur.toList.drop (i + m)).toArray) := fun ty => by
    have := run_append_room (P := Try.prog) w1 42 ty 3 i0 Try.underlying42 hi0 g i cap cur HI1.out ⟨g, O, none⟩ m c (ic (l.drop (i + 1))) (by rw [hz1]; omega) (fun j u hu => by
        have hj : j < m := by
          rw [← hnl]; exact (List.getElem?_eq_some_iff.1 hu).1
        have hOe : O = i + 1 := by rcases hO with h | h; exact h; omega
        have hadd : (⟨g, O, none⟩ : Addr).add j = ⟨g, i + 1 + j, none⟩ := by rw [hOe]; unfold Addr.add; split <;> simp_all
        rw [hadd, HC1 (i + 1 + j) (by omega), ← hu]
        simp [ic, List.getElem?_drop]) (fun u hu => by
        obtain ⟨y, _, rfl⟩ := List.mem_map.1 hu
        rfl) (by omega) (by rw [hz1, hnl]; have := HI.out.2.1; omega)
    rw [hz1, Nat.mul_one, hnl] at this
    exact this
  obtain ⟨cur2, hcur2⟩ : ∃ cur2 : Array Value, cur2 = (cur.toList.take i ++ ic (l.drop (i + 1)) ++ cur.toList.drop (i + m)).toArray := ⟨_, rfl⟩
  rw [← hcur2] at hr
  have hs2 : cur2.size = cap := by
    have h1 := HI.out.2.1
    rw [hcur2]; simp [ic, hm]; omega
  have ht2 : cur2.toList.take (i + m) = ic (l.eraseIdx i) := by
    have h1 := HI.out.2.1
    have h2 : cur.toList.take i = ic (l.take i) := by
      have : cur.toList.take i = (cur.toList.take l.length).take i := by rw [List.take_take, Nat.min_eq_left (by omega)]
      rw [this, HI.out.2.2]; simp [ic, List.map_take]
    rw [hcur2, h2, List.eraseIdx_eq_take_drop_succ]
    show List.take (i + m) ((ic (l.take i) ++ ic (l.drop (i + 1))) ++ cur.toList.drop (i + m)) = _
    rw [List.take_append_of_le_length (by simp [ic, hm]; omega), List.take_of_length_le (by simp [ic, hm]; omega), ← ic_append]
  have hg2 : (w1.setRow g cur2).heap[g]? = some (.cells cur2 3 (0, 0)) := setRow_heap w1 g cur cur2 3 _ HI1.out
  have hk2 : Kept (fun k => k = g) w1 (w1.setRow g cur2) := ⟨rfl, rfl, rfl, by simp [World.setRow], fun k _ hk => setRow_other w1 g k _ hk⟩
  refine step_room rfl _ _ rfl _ _ _ _ rfl rfl hr ?_
  refine hK.out _ _ trivial (fun _ => ?_)
  clear hK
  try simp only [Act.put, List.setIfInBounds_toArray, List.set_cons_zero, List.set_cons_succ, List.getElem_toArray, List.getElem_cons_zero, List.getElem_cons_succ]
  refine wpAnyH_take (i := 7) (v := Value.slice (some ⟨g, 0, none⟩) (i + m) cap) rfl (by kernel_rfl) (by kernel_rfl) (by kernel_rfl) (fun _ _ _ h => h) (Or.inl ⟨by kernel_rfl, ?_⟩) trivial ?_
  · intro w' _; rfl
  try simp only [Act.put, List.setIfInBounds_toArray, List.set_cons_zero, List.set_cons_succ, List.getElem_toArray, List.getElem_cons_zero, List.getElem_cons_succ]
  refine wpAnyH_done (by kernel_rfl) ?_ _
  have him : i + m = l.length - 1 := by omega
  rw [him] at ht2 ⊢
  have HE : Hid (cur2.size = cap ∧ cur2.toList.take (l.length - 1) = ic (l.eraseIdx i) ∧ (w1.setRow g cur2).heap[g]? = some (.cells cur2 3 (0, 0)) ∧ Kept (fun k => k = g) w (w1.setRow g cur2)) := ⟨hs2, ht2, hg2, HK1.out.trans hk2⟩
  clear hr hcur2 hs2 ht2 hg2 hk2 HC1 hnl hi0 hz0 hz1 hz2 HK1 HI1 HV hO hm him HI HM
  generalize w1.setRow g cur2 = w2 at HE ⊢
  have r1 : (0 : Int) ≤ ((l.length - 1 : Nat) : Int) := by omega
  have r2 : ((l.length - 1 : Nat) : Int) ≤ (l.length : Int) := by omega
  have r3 : ((l.length - 1 : Nat) : Int).toNat = l.length - 1 := by omega
  have r4 : l.length - (l.length - 1) = 1 := by omega
  have r5 : ¬ (cap = l.length - 1) := by omega
  have hclr : ∀ ty c, (Builtin.clear_ #[42] ty #[.slice (some ⟨g, l.length - 1, none⟩) 1 c]).run Try.prog w2 = .ok (.tuple #[]) (w2.setCells g (l.length - 1) (List.replicate 1 (Value.int .i64 0))) := fun ty c =>
    Lib.run_clear_slice w2 42 3 ty (.int .i64 0) Try.underlying42 zero3 rfl rfl g (l.length - 1) 1 c (by omega) (fun j hj => by
      rw [cell_of HE.out.2.2.1, Array.getElem?_eq_getElem (by rw [HE.out.1]; omega)]; rfl) (fun j _ => frozen_of HE.out.2.2.1 _)
  go_wp2_with fail
  go_ret
  have he := HE.out
  have hg3 : (w2.setCells g (l.length - 1) (List.replicate 1 (Value.int .i64 0))).heap[g]? = some (.cells (cur2.setIfInBounds (l.length - 1) (.int .i64 0)) 3 (0, 0)) := hp_set_same he.2.2.1 (l.length - 1) (.int .i64 0)
  refine ⟨rfl, ⟨_, hg3, by simp [he.1], ?_⟩, he.2.2.2.set g (l.length - 1) (.int .i64 0) (Or.inl rfl)⟩
  rw [Array.toList_setIfInBounds, List.take_set_of_le (Nat.le_refl _)]
  exact he.2.1
end Go.Proofs.Ytnfamebihpnjlaa
