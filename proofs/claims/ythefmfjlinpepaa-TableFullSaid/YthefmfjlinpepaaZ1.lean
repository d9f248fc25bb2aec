/- Sizes behind a renewal. -/
import Derived.Test.YthefmfjlinpepaaM1
namespace Go.Proofs.Ythefmfjlinpepaa
open Go.RowKit Go.Shelf
set_option linter.unusedSimpArgs false
set_option linter.unusedVariables false

/-- Array slots that have a value, among the first q. -/
def cA (sl : Sl) (q : Nat) : Nat := ((List.range q).filter fun j : Nat => (sl (j : Int)).1 != 0).length
/-- Nodes that have a value, among the first q. -/
def cN (a : Nat) (sl : Sl) (q : Nat) : Nat := ((List.range q).filter fun m : Nat => (sl ((a : Int) + 2 * (m : Int) + 1)).1 != 0).length
theorem cA_succ (sl : Sl) (q : Nat) : cA sl (q + 1) = cA sl q + (if (sl (q : Int)).1 = 0 then 0 else 1) := by
  unfold cA
  rw [List.range_succ, List.filter_append, List.length_append]
  congr 1
  by_cases h : (sl (q : Int)).1 = 0
  · simp [h]
  · simp [h]
theorem cN_succ (a : Nat) (sl : Sl) (q : Nat) : cN a sl (q + 1) = cN a sl q + (if (sl ((a : Int) + 2 * (q : Int) + 1)).1 = 0 then 0 else 1) := by
  unfold cN
  rw [List.range_succ, List.filter_append, List.length_append]
  congr 1
  by_cases h : (sl ((a : Int) + 2 * (q : Int) + 1)).1 = 0
  · simp [h]
  · simp [h]
theorem cA_le (sl : Sl) (q : Nat) : cA sl q ≤ q := by
  have := List.length_filter_le (fun j : Nat => (sl (j : Int)).1 != 0) (List.range q)
  rw [List.length_range] at this; exact this
theorem cN_le (a : Nat) (sl : Sl) (q : Nat) : cN a sl q ≤ q := by
  have := List.length_filter_le (fun m : Nat => (sl ((a : Int) + 2 * (m : Int) + 1)).1 != 0) (List.range q)
  rw [List.length_range] at this; exact this

theorem nodup_map_on {α β : Type} [DecidableEq β] (f : α → β) (l : List α) (hn : l.Nodup) (hi : ∀ x ∈ l, ∀ y ∈ l, x ≠ y → f x ≠ f y) : (l.map f).Nodup := by
  rw [List.Nodup, List.pairwise_map]
  exact List.Pairwise.imp_of_mem (fun hx hy hne => hi _ hx _ hy hne) hn

/-- Each key of a list that is given values has its own place. -/
theorem all_in (a n : Nat) (sl : Sl) (L : List Ent) (hnd : (L.map Prod.fst).Nodup) (hg : ∀ e ∈ L, gv a n sl e.1 = e.2 ∧ e.2.1 ≠ 0) :
    (L.filter fun e => inArr a e.1).length ≤ cA sl a ∧ outs a L ≤ cN a sl n := by
  have hfound : ∀ e ∈ L, (findR a n sl e.1).2 = true ∧ sl (findR a n sl e.1).1 = e.2 := by
    intro e he
    obtain ⟨h1, h2⟩ := hg e he
    unfold gv at h1
    by_cases hf : (findR a n sl e.1).2 = true
    · rw [if_pos hf] at h1; exact ⟨hf, h1⟩
    · rw [if_neg hf] at h1; rw [← h1] at h2; exact absurd rfl h2
  have hndL : L.Nodup := by
    have := hnd
    rw [List.Nodup, List.pairwise_map] at this
    exact this.imp (fun h e => h (by rw [e]))
  have hkeys : ∀ x ∈ L, ∀ y ∈ L, x ≠ y → x.1 ≠ y.1 := by
    intro x hx y hy hne e
    have h1 := (hfound x hx).2
    have h2 := (hfound y hy).2
    rw [e] at h1
    exact hne (Prod.ext e (h1.symm.trans h2))
  have hap : ∀ x ∈ L, ∀ y ∈ L, x ≠ y → (findR a n sl x.1).1 ≠ (findR a n sl y.1).1 := fun x hx y hy hne =>
    find_apart (hfound y hy).1 (hfound x hx).1 (hkeys x hx y hy hne)
  constructor
  · have h := nodup_le ((L.filter fun e => inArr a e.1).map fun e => (e.1.2 - 1).toNat) ((List.range a).filter fun j : Nat => (sl (j : Int)).1 != 0) ?_ ?_
    · rw [List.length_map] at h; exact h
    · refine nodup_map_on _ _ (List.Pairwise.filter _ hndL) ?_
      intro x hx y hy hne e
      rw [List.mem_filter] at hx hy
      rcases find_true (hfound x hx.1).1 with ⟨_, g1, g2, g3, _⟩ | ⟨g0, _⟩
      · rcases find_true (hfound y hy.1).1 with ⟨_, f1, f2, f3, _⟩ | ⟨f0, _⟩
        · exact hap x hx.1 y hy.1 hne (by omega)
        · rw [f0] at hy; exact absurd hy.2 (by simp)
      · rw [g0] at hx; exact absurd hx.2 (by simp)
    · intro j hj
      obtain ⟨e, he, rfl⟩ := List.mem_map.1 hj
      rw [List.mem_filter] at he
      rcases find_true (hfound e he.1).1 with ⟨_, g1, g2, g3, _⟩ | ⟨g0, _⟩
      · rw [List.mem_filter, List.mem_range]
        refine ⟨by omega, ?_⟩
        have h1 := (hfound e he.1).2
        rw [g1] at h1
        have e2 : (((e.1.2 - 1).toNat : Nat) : Int) = e.1.2 - 1 := by omega
        rw [e2, h1]
        simpa using (hg e he.1).2
      · rw [g0] at he; exact absurd he.2 (by simp)
  · unfold outs
    have h := nodup_le ((L.filter fun e => !inArr a e.1).map fun e => (((findR a n sl e.1).1 - (a : Int) - 1) / 2).toNat) ((List.range n).filter fun m : Nat => (sl ((a : Int) + 2 * (m : Int) + 1)).1 != 0) ?_ ?_
    · rw [List.length_map] at h; exact h
    · refine nodup_map_on _ _ (List.Pairwise.filter _ hndL) ?_
      intro x hx y hy hne e
      rw [List.mem_filter] at hx hy
      rcases find_true (hfound x hx.1).1 with ⟨g0, _⟩ | ⟨_, m, hm, g1, _⟩
      · rw [g0] at hx; exact absurd hx.2 (by simp)
      · rcases find_true (hfound y hy.1).1 with ⟨f0, _⟩ | ⟨_, m', hm', f1, _⟩
        · rw [f0] at hy; exact absurd hy.2 (by simp)
        · exact hap x hx.1 y hy.1 hne (by rw [g1, f1] at e ⊢; omega)
    · intro j hj
      obtain ⟨e, he, rfl⟩ := List.mem_map.1 hj
      rw [List.mem_filter] at he
      rcases find_true (hfound e he.1).1 with ⟨g0, _⟩ | ⟨_, m, hm, g1, _⟩
      · rw [g0] at he; exact absurd he.2 (by simp)
      · have e2 : (((findR a n sl e.1).1 - (a : Int) - 1) / 2).toNat = m := by rw [g1]; omega
        rw [e2, List.mem_filter, List.mem_range]
        refine ⟨hm, ?_⟩
        have h1 := (hfound e he.1).2
        rw [g1] at h1
        rw [h1]
        simpa using (hg e he.1).2

theorem filter_app (a : Nat) (L : List Ent) (k x y : Int × Int) : ((L ++ [(k, x)]).filter fun e => inArr a e.1).length = ((L ++ [(k, y)]).filter fun e => inArr a e.1).length ∧ outs a (L ++ [(k, x)]) = outs a (L ++ [(k, y)]) := by
  unfold outs
  rw [List.filter_append, List.filter_append, List.length_append, List.length_append, List.filter_append, List.filter_append, List.length_append, List.length_append]
  cases h : inArr a k <;> simp [h]

/-- Behind a renewal no part is spare by half. -/
theorem renew_sizes {a n : Nat} {sl : Sl} {k v : Int × Int} (hw : Wf a n sl) (hl : (ents a n sl 0).length ≤ 200) (hk : Nk k) (hp : (putR a n sl k v).1 = false) :
    (szA (renL a n sl k) = 0 ∨ szA (renL a n sl k) < 2 * cA (putR (szA (renL a n sl k)) (szN (renL a n sl k)) (putAll (szA (renL a n sl k)) (szN (renL a n sl k)) (fun _ => (0, 0)) (ents a n sl 0)) k v).2 (szA (renL a n sl k))) ∧
    (szN (renL a n sl k) = 0 ∨ szN (renL a n sl k) < 2 * cN (szA (renL a n sl k)) (putR (szA (renL a n sl k)) (szN (renL a n sl k)) (putAll (szA (renL a n sl k)) (szN (renL a n sl k)) (fun _ => (0, 0)) (ents a n sl 0)) k v).2 (szN (renL a n sl k))) := by
  have hnf : (findR a n sl k).2 = false ∧ v.1 ≠ 0 := by
    unfold putR at hp
    by_cases h1 : (findR a n sl k).2 = true
    · rw [if_pos h1] at hp; cases hp
    · rw [if_neg h1] at hp
      by_cases h2 : v.1 = 0
      · rw [if_pos h2] at hp; cases hp
      · exact ⟨by simpa using h1, h2⟩
  obtain ⟨hnf, hv⟩ := hnf
  have hnm : k ∉ (ents a n sl 0).map Prod.fst := by
    intro hm
    obtain ⟨e, he, e1⟩ := List.mem_map.1 hm
    obtain ⟨_, h2, h3⟩ := ents_gv hw he
    rw [e1] at h3
    unfold gv at h3
    rw [if_neg (by rw [hnf]; simp)] at h3
    rw [← h3] at h2; exact h2 rfl
  have hroom := sz_room (renL a n sl k) (by unfold renL; simp; omega)
  have hout := sz_outs (renL a n sl k)
  obtain ⟨_, hS⟩ := szS_is (renL a n sl k) 13
  have hfa := filter_app (szA (renL a n sl k)) (ents a n sl 0) k (0, 0) v
  have hren : renL a n sl k = ents a n sl 0 ++ [(k, (0, 0))] := rfl
  have hnd : ((ents a n sl 0 ++ [(k, v)]).map Prod.fst).Nodup := by
    rw [List.map_append, List.nodup_append]
    refine ⟨ents_nodup hw, by simp, ?_⟩
    intro x hx y hy e
    simp at hy
    subst hy
    subst e
    exact hnm hx
  have hks : ∀ e ∈ ents a n sl 0 ++ [(k, v)], Nk e.1 ∧ e.2.1 ≠ 0 := by
    intro e he
    rw [List.mem_append] at he
    rcases he with he | he
    · exact ⟨(ents_gv hw he).1, (ents_gv hw he).2.1⟩
    · simp at he; subst he; exact ⟨hk, hv⟩
  have hall := putAll_gv (szA (renL a n sl k)) (szN (renL a n sl k)) (ents a n sl 0 ++ [(k, v)]) (fun _ => (0, 0)) (Wf.zero _ _) hks hnd (by rw [occ_zero, ← hfa.2, ← hren]; omega)
  rw [putAll_snoc] at hall
  simp only at hall
  have hin := all_in (szA (renL a n sl k)) (szN (renL a n sl k)) _ (ents a n sl 0 ++ [(k, v)]) hnd (fun e he => ⟨hall.2.1 e he, (hks e he).2⟩)
  rw [← hfa.1, ← hfa.2, ← hren] at hin
  refine ⟨?_, ?_⟩
  · rcases hS with ⟨h1, _⟩ | ⟨q, hq, h1, h2, h3⟩
    · exact .inl h1
    · right
      have hA : szA (renL a n sl k) = 2 ^ q := h1
      have e1 : ((renL a n sl k).filter fun e => inArr (szA (renL a n sl k)) e.1).length = upto (renL a n sl k) (q + 1) := by
        unfold upto
        congr 1
        apply List.filter_congr
        intro e _
        rw [hA, inArr_pow (by omega)]
      rw [e1, ← h2] at hin
      omega
  · rcases Nat.eq_zero_or_pos (szN (renL a n sl k)) with h0 | h0
    · exact .inl h0
    · right
      have := hroom.2 (by omega)
      omega

/-- Powers of two. -/
def PW (a n : Nat) : Prop := bits .and .i64 (a : Int) ((a : Int) - 1) = 0 ∧ bits .and .i64 (n : Int) ((n : Int) - 1) = 0
theorem pw_zero : bits .and .i64 ((0 : Nat) : Int) (((0 : Nat) : Int) - 1) = 0 := by decide +kernel
theorem pw_pow : ∀ q, q ≤ 12 → bits .and .i64 ((2 ^ q : Nat) : Int) (((2 ^ q : Nat) : Int) - 1) = 0 := by decide +kernel
theorem sz_pw (L : List Ent) (hl : L.length ≤ 256) : PW (szA L) (szN L) := by
  refine ⟨?_, (pw2_facts (L.length - (szS (cnt L) 13).2.1) (by omega)).2.2.1⟩
  obtain ⟨_, hS⟩ := szS_is L 13
  have hA : szA L = (szS (cnt L) 13).1 := rfl
  rcases hS with ⟨h1, _⟩ | ⟨q, hq, h1, _⟩
  · rw [hA, h1]; exact pw_zero
  · rw [hA, h1]; exact pw_pow q (by omega)
/-- What Set comes to. -/
theorem setR_cases (most : Int) (a n : Nat) (sl : Sl) (k v : Int × Int) : (setR most a n sl k v).2 = (a, n, sl) ∨ (keyB k.1 k.2 = true ∧ (setR most a n sl k v).2 = (a, n, (putR a n sl (kyP k) v).2)) ∨
    (keyB k.1 k.2 = true ∧ (putR a n sl (kyP k) v).1 = false ∧ (szA (renL a n sl (kyP k)) : Int) + 2 * (szN (renL a n sl (kyP k)) : Int) ≤ most ∧ (setR most a n sl k v).2 = (szA (renL a n sl (kyP k)), szN (renL a n sl (kyP k)), (putR (szA (renL a n sl (kyP k))) (szN (renL a n sl (kyP k))) (putAll (szA (renL a n sl (kyP k))) (szN (renL a n sl (kyP k))) (fun _ => (0, 0)) (ents a n sl 0)) (kyP k) v).2)) := by
  by_cases h1 : (!keyB k.1 k.2 || v.1 == 11) = true
  · left; unfold setR; rw [if_pos h1]
  · have hkb : keyB k.1 k.2 = true := by
      cases hq : keyB k.1 k.2
      · rw [hq] at h1; simp at h1
      · rfl
    by_cases h2 : (putR a n sl (kyP k) v).1 = true
    · right; left
      exact ⟨hkb, by unfold setR; rw [if_neg h1, if_pos h2]⟩
    · by_cases h3 : most < (szA (renL a n sl (kyP k)) : Int) + 2 * (szN (renL a n sl (kyP k)) : Int)
      · left; unfold setR; rw [if_neg h1, if_neg h2, if_pos h3]
      · right; right
        exact ⟨hkb, by simpa using h2, by omega, by unfold setR; rw [if_neg h1, if_neg h2, if_neg h3]⟩
/-- What TableSizes asks behind a Set. -/
theorem set_sizes {most : Int} {a n : Nat} {sl : Sl} {k v : Int × Int} (hw : Wf a n sl) (hl : (ents a n sl 0).length ≤ 200) (hpw : PW a n) {a' n' : Nat} {sl' : Sl} (he : (setR most a n sl k v).2 = (a', n', sl')) :
    PW a' n' ∧ ((a' = a ∧ n' = n) ∨ ((a' = 0 ∨ a' < 2 * cA sl' a') ∧ (n' = 0 ∨ n' < 2 * cN a' sl' n'))) := by
  rcases setR_cases most a n sl k v with h | ⟨hkb, h⟩ | ⟨hkb, h2, _, h⟩
  · rw [h] at he; cases he; exact ⟨hpw, .inl ⟨rfl, rfl⟩⟩
  · rw [h] at he; cases he; exact ⟨hpw, .inl ⟨rfl, rfl⟩⟩
  · have hr := renew_sizes hw hl (kyP_nk hkb) h2
    have hp := sz_pw (renL a n sl (kyP k)) (by unfold renL; simp; omega)
    rw [h] at he
    generalize (putR (szA (renL a n sl (kyP k))) (szN (renL a n sl (kyP k))) (putAll (szA (renL a n sl (kyP k))) (szN (renL a n sl (kyP k))) (fun _ => (0, 0)) (ents a n sl 0)) (kyP k) v).2 = q at he hr
    generalize szA (renL a n sl (kyP k)) = q1 at he hr hp
    generalize szN (renL a n sl (kyP k)) = q2 at he hr hp
    cases he
    exact ⟨hp, .inr hr⟩
theorem play_pw (L : List Ac) : ∀ j, j ≤ 80 → PW (playR 400 (L.take j)).1 (playR 400 (L.take j)).2.1
  | 0, _ => by rw [List.take_zero]; exact ⟨pw_zero, pw_zero⟩
  | j + 1, hj => by
    have ih := play_pw L j (by omega)
    have hw := play_wf L j (by omega)
    have hl := playR_len 400 L j
    rw [List.take_add_one]
    rcases h : L[j]? with _ | x
    · simp only [Option.toList_none, List.append_nil]; exact ih
    · simp only [Option.toList_some]
      rw [playR_snoc]
      unfold stepR
      split
      · exact (set_sizes hw (by omega) ih (a' := (setR 400 (playR 400 (L.take j)).1 (playR 400 (L.take j)).2.1 (playR 400 (L.take j)).2.2 x.k x.v).2.1) rfl).1
      · exact ih
end Go.Proofs.Ythefmfjlinpepaa
