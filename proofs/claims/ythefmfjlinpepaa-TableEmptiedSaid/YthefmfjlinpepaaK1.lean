/- The order in which keys are met. -/
import Derived.Test.YthefmfjlinpepaaY3
namespace Go.Proofs.Ythefmfjlinpepaa
open Go.RowKit Go.Shelf
set_option linter.unusedSimpArgs false
set_option linter.unusedVariables false

/-- The place of a key of an array slot, or of a node. -/
theorem plA_tail (a j i : Nat) : plA a (plA a 0 j + 1) i = plA a 0 (j + 1 + i) := by
  rw [plA0, plA0]
  unfold plA
  by_cases hj : j < a
  · rw [if_pos hj]
    have : (j + 1 - a) / 2 = 0 := by omega
    rw [this]
    split <;> split <;> omega
  · rw [if_neg hj]
    have h1 : (a + 2 * (j - a) + 1 + 1 - a) / 2 = j - a + 1 := by omega
    rw [h1, if_neg (by omega), if_neg (by omega)]
    omega
theorem plN_tail (a n j : Nat) (hj : j < a + n) : plN a n (plA a 0 j + 1) = a + n - (j + 1) := by
  rw [plA0]
  unfold plN
  by_cases hj : j < a
  · rw [if_pos hj]
    have : (j + 1 - a) / 2 = 0 := by omega
    rw [this]; omega
  · rw [if_neg hj]
    have h1 : (a + 2 * (j - a) + 1 + 1 - a) / 2 = j - a + 1 := by omega
    rw [h1]; omega
theorem plN0 (a n : Nat) : plN a n 0 = a + n := by
  unfold plN
  have : (0 - a) / 2 = 0 := by omega
  rw [this]; omega
/-- Entries are those up to a place, and those behind it. -/
theorem ents_split (a n : Nat) (sl : Sl) (j : Nat) (hj : j < a + n) : ents a n sl 0 = entsTo a sl 0 (j + 1) ++ ents a n sl (plA a 0 j + 1) := by
  unfold ents
  rw [plN_tail a n j hj, plN0]
  unfold entsTo
  conv => lhs; rw [show a + n = (j + 1) + (a + n - (j + 1)) by omega, List.range_add, List.filterMap_append, List.filterMap_map]
  congr 1
  congr 1
  funext i
  simp only [Function.comp_apply]
  rw [plA_tail]
theorem ents_part (a n : Nat) (sl : Sl) (j : Nat) (hj : j < a + n) (ho : okJ a sl j = true) : ents a n sl 0 = entsTo a sl 0 j ++ (keyAt a sl (plA a 0 j : Nat), sl (plA a 0 j : Nat)) :: ents a n sl (plA a 0 j + 1) := by
  rw [ents_split a n sl j hj, entsTo_succ]
  have : okE a sl (plA a 0 j : Nat) = true := ho
  rw [if_pos this, List.append_assoc]
  rfl
theorem nodup_at {α : Type} : ∀ (l : List α) (i j : Nat) (x : α), l.Nodup → l[i]? = some x → l[j]? = some x → i = j
  | [], _, _, _, _, h, _ => by simp at h
  | y :: l, 0, 0, _, _, _, _ => rfl
  | y :: l, 0, j + 1, x, hn, h1, h2 => by
    simp at h1 h2
    rw [List.nodup_cons] at hn
    subst h1
    exact absurd (List.mem_of_getElem? h2) hn.1
  | y :: l, i + 1, 0, x, hn, h1, h2 => by
    simp at h1 h2
    rw [List.nodup_cons] at hn
    subst h2
    exact absurd (List.mem_of_getElem? h1) hn.1
  | y :: l, i + 1, j + 1, x, hn, h1, h2 => by
    simp at h1 h2
    rw [List.nodup_cons] at hn
    rw [nodup_at l i j x hn.2 h1 h2]
/-- The i-th entry: where it is, and what lies behind it. -/
theorem ent_at {a n : Nat} {sl : Sl} (hw : Wf a n sl) {i : Nat} {e : Ent} (he : (ents a n sl 0)[i]? = some e) :
    ∃ j, j < a + n ∧ okJ a sl j = true ∧ e = (keyAt a sl (plA a 0 j : Nat), sl (plA a 0 j : Nat)) ∧ findR a n sl e.1 = (((plA a 0 j : Nat) : Int), true) ∧ (entsTo a sl 0 j).length = i ∧ ents a n sl (plA a 0 j + 1) = (ents a n sl 0).drop (i + 1) := by
  have hm := List.mem_of_getElem? he
  rw [ents_map, List.mem_map] at hm
  obtain ⟨j, hj, rfl⟩ := hm
  rw [List.mem_filter, List.mem_range] at hj
  have hp := ents_part a n sl j hj.1 hj.2
  have hi : (entsTo a sl 0 j).length = i := by
    refine nodup_at ((ents a n sl 0).map Prod.fst) _ _ (keyAt a sl (plA a 0 j : Nat)) (ents_nodup hw) ?_ ?_
    · rw [hp]; simp
    · rw [List.getElem?_map, he]; rfl
  refine ⟨j, hj.1, hj.2, rfl, (ok_find hw hj.1 hj.2).1, hi, ?_⟩
  conv => rhs; rw [hp, ← hi]
  rw [List.drop_append]
  simp
/-- Behind a key comes the next one. -/
theorem next_at {a n : Nat} {sl : Sl} (hw : Wf a n sl) {i : Nat} {e : Ent} (he : (ents a n sl 0)[i]? = some e) : nextR a n sl e.1.1 e.1.2 = (fstE ((ents a n sl 0).drop (i + 1)), 0) := by
  obtain ⟨j, hj, ho, _, hf, _, ht⟩ := ent_at hw he
  have hg := ents_gv hw (List.mem_of_getElem? he)
  have hk : (kyT e.1.1 e.1.2, kyN e.1.1 e.1.2) = e.1 := hg.1.p
  have hb : behR a n sl e.1.1 e.1.2 = (((plA a 0 j : Nat) : Int) + 1, true) := by
    unfold behR
    have h0 : (e.1.1 == 0) = false := by simpa using hg.1.ne
    rw [h0, if_neg (by simp), hg.1.b, if_pos rfl, hk, hf]
  unfold nextR
  rw [hb, if_pos rfl, ← ht]
  congr 3
theorem next_nil (a n : Nat) (sl : Sl) (x : Int) : nextR a n sl 0 x = (fstE (ents a n sl 0), 0) := by
  unfold nextR
  have hb : behR a n sl 0 x = (0, true) := rfl
  rw [hb, if_pos rfl]
  rfl
theorem drop_at {α : Type} (l : List α) (i : Nat) (x : α) (h : l[i]? = some x) : l.drop i = x :: l.drop (i + 1) := by
  obtain ⟨hi, e⟩ := List.getElem?_eq_some_iff.1 h
  rw [List.drop_eq_getElem_cons hi, e]
end Go.Proofs.Ythefmfjlinpepaa
