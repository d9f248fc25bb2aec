/- A table that is emptied while it is gone over. -/
import Derived.Test.YthefmfjlinpepaaK1
import Derived.Test.YthefmfjlinpepaaM1
namespace Go.Proofs.Ythefmfjlinpepaa
open Go.RowKit Go.Shelf
set_option linter.unusedSimpArgs false
set_option linter.unusedVariables false

/-- The entry that is met next, or nothing. -/
abbrev curE (E : List Ent) (i : Nat) : Ent := fstE (E.drop i)
theorem curE_at {E : List Ent} {i : Nat} {e : Ent} (h : E[i]? = some e) : curE E i = e := by unfold curE; rw [drop_at E i e h]; rfl
theorem curE_end {E : List Ent} : curE E E.length = ((0, 0), (0, 0)) := by unfold curE; rw [List.drop_length]; rfl
theorem no_anyE (n : Int) (w : World) : Calls Try.prog 21 #[.int .i64 n] w fun e w' => e = .returned (.int .i64 n) ∧ w = w' := (no_any n w).mono (fun _ _ h => ⟨h.1, h.2.symm⟩)
theorem filterMap_same {α β : Type} {f g : α → Option β} : ∀ (l : List α), (∀ x ∈ l, f x = g x) → l.filterMap f = l.filterMap g
  | [], _ => rfl
  | x :: l, h => by
    rw [List.filterMap_cons, List.filterMap_cons, h x List.mem_cons_self, filterMap_same l (fun y hy => h y (List.mem_cons_of_mem _ hy))]
/-- The slots when the first i of these keys have lost their values. -/
def empS (a n : Nat) (sl : Sl) (E : List Ent) : Nat → Sl
  | 0 => sl
  | i + 1 => match E[i]? with
    | some e => sput (empS a n sl E i) (findR a n sl e.1).1 (0, 0)
    | none => empS a n sl E i
theorem empS_succ {a n : Nat} {sl : Sl} {E : List Ent} {i : Nat} {e : Ent} (h : E[i]? = some e) : empS a n sl E (i + 1) = sput (empS a n sl E i) (findR a n sl e.1).1 (0, 0) := by
  rw [empS]; rw [h]
theorem empS_none {a n : Nat} {sl : Sl} {E : List Ent} {i : Nat} (h : E[i]? = none) : empS a n sl E (i + 1) = empS a n sl E i := by
  rw [empS]; rw [h]
/-- What is turned: places of values of keys that were met. -/
theorem emp_at {a n : Nat} {sl : Sl} {E : List Ent} : ∀ i (q : Int), empS a n sl E i q = sl q ∨ (empS a n sl E i q = (0, 0) ∧ ∃ i', i' < i ∧ ∃ e, E[i']? = some e ∧ q = (findR a n sl e.1).1)
  | 0, q => .inl rfl
  | i + 1, q => by
    rcases h : E[i]? with _ | e
    · rw [empS_none h]
      rcases emp_at i q with h1 | ⟨h1, i', hi', h2⟩
      · exact .inl h1
      · exact .inr ⟨h1, i', by omega, h2⟩
    · rw [empS_succ h]
      by_cases hq : q = (findR a n sl e.1).1
      · right
        exact ⟨by rw [hq]; exact sput_same, i, by omega, e, h, hq⟩
      · rw [sput_ne hq]
        rcases emp_at i q with h1 | ⟨h1, i', hi', h2⟩
        · exact .inl h1
        · exact .inr ⟨h1, i', by omega, h2⟩
theorem emp_gone {a n : Nat} {sl : Sl} {E : List Ent} {i' : Nat} {e : Ent} (he : E[i']? = some e) : ∀ i, i' < i → empS a n sl E i (findR a n sl e.1).1 = (0, 0)
  | 0, h => by omega
  | i + 1, h => by
    rcases hq : E[i]? with _ | e2
    · rw [empS_none hq]
      rcases Nat.lt_or_ge i' i with h1 | h1
      · exact emp_gone he i h1
      · obtain rfl : i' = i := by omega
        rw [he] at hq; cases hq
    · rw [empS_succ hq]
      by_cases hp : (findR a n sl e.1).1 = (findR a n sl e2.1).1
      · rw [hp]; exact sput_same
      · rw [sput_ne hp]
        rcases Nat.lt_or_ge i' i with h1 | h1
        · exact emp_gone he i h1
        · obtain rfl : i' = i := by omega
          rw [he] at hq; cases hq; exact absurd rfl hp
theorem ents_agree {a n : Nat} {sl sl' : Sl} {j : Nat} (hj : j < a + n) (h : ∀ t, j + 1 + t < a + n → keyAt a sl' (plA a 0 (j + 1 + t) : Nat) = keyAt a sl (plA a 0 (j + 1 + t) : Nat) ∧ sl' (plA a 0 (j + 1 + t) : Nat) = sl (plA a 0 (j + 1 + t) : Nat)) : ents a n sl' (plA a 0 j + 1) = ents a n sl (plA a 0 j + 1) := by
  unfold ents
  rw [plN_tail a n j hj]
  unfold entsTo
  apply filterMap_same
  intro t htt
  rw [List.mem_range] at htt
  rw [plA_tail]
  obtain ⟨e1, e2⟩ := h t (by omega)
  unfold okE
  rw [e1, e2]
theorem emp_keys {a n : Nat} {sl : Sl} (hw : Wf a n sl) (i : Nat) : ∀ m : Nat, m < n → empS a n sl (ents a n sl 0) i ((a + 2 * m : Nat) : Int) = sl ((a + 2 * m : Nat) : Int) := by
  intro m hm
  rcases emp_at (a := a) (n := n) (sl := sl) (E := ents a n sl 0) i ((a + 2 * m : Nat) : Int) with h | ⟨_, i', _, e, he, hq⟩
  · exact h
  · exfalso
    obtain ⟨j, hj, _, _, hf, _⟩ := ent_at hw he
    rw [hf] at hq
    simp only at hq
    rw [plA0] at hq
    split at hq <;> omega
theorem emp_find {a n : Nat} {sl : Sl} (hw : Wf a n sl) (i : Nat) (k : Int × Int) : findR a n (empS a n sl (ents a n sl 0) i) k = findR a n sl k := findR_keys k (emp_keys hw i)
theorem emp_keyAt {a n : Nat} {sl : Sl} (hw : Wf a n sl) (i j : Nat) (hj : j < a + n) : keyAt a (empS a n sl (ents a n sl 0) i) (plA a 0 j : Nat) = keyAt a sl (plA a 0 j : Nat) := by
  unfold keyAt
  split
  · rfl
  · rename_i hlt
    rw [plA0] at hlt ⊢
    by_cases hja : j < a
    · rw [if_pos hja] at hlt; omega
    · rw [if_neg hja] at hlt ⊢
      have e : ((a + 2 * (j - a) + 1 : Nat) : Int) - 1 = ((a + 2 * (j - a) : Nat) : Int) := by omega
      rw [e]
      exact emp_keys hw i (j - a) (by omega)
theorem emp_ok {a n : Nat} {sl : Sl} (hw : Wf a n sl) (i j : Nat) (hj : j < a + n) (h : okJ a (empS a n sl (ents a n sl 0) i) j = true) : okJ a sl j = true ∧ empS a n sl (ents a n sl 0) i (plA a 0 j : Nat) = sl (plA a 0 j : Nat) := by
  unfold okJ okE at h ⊢
  rw [emp_keyAt hw i j hj, Bool.and_eq_true] at h
  rcases emp_at (a := a) (n := n) (sl := sl) (E := ents a n sl 0) i (plA a 0 j : Nat) with h1 | ⟨h1, _⟩
  · rw [h1] at h
    exact ⟨by rw [Bool.and_eq_true]; exact h, h1⟩
  · rw [h1] at h; simp at h
theorem emp_len {a n : Nat} {sl : Sl} (hw : Wf a n sl) (i : Nat) : (ents a n (empS a n sl (ents a n sl 0) i) 0).length ≤ (ents a n sl 0).length := by
  rw [ents_len, ents_len, ← List.countP_eq_length_filter, ← List.countP_eq_length_filter]
  apply List.countP_mono_left
  intro j hj h
  exact (emp_ok hw i j (List.mem_range.1 hj) h).1
theorem emp_set {a n : Nat} {sl : Sl} (hw : Wf a n sl) {most : Int} {i : Nat} {e : Ent} (he : (ents a n sl 0)[i]? = some e) : setR most a n (empS a n sl (ents a n sl 0) i) e.1 (0, 0) = (0, a, n, empS a n sl (ents a n sl 0) (i + 1)) := by
  obtain ⟨hnk, _, _⟩ := ents_gv hw (List.mem_of_getElem? he)
  obtain ⟨j, _, _, _, hf, _⟩ := ent_at hw he
  have hf2 := emp_find hw i e.1
  have hp : putR a n (empS a n sl (ents a n sl 0) i) (kyP e.1) (0, 0) = (true, empS a n sl (ents a n sl 0) (i + 1)) := by
    rw [hnk.p]
    unfold putR
    rw [hf2, hf, if_pos rfl, empS_succ he, hf]
  unfold setR
  rw [if_neg (by rw [hnk.b]; simp), hp, if_pos rfl]
theorem ent_order {a : Nat} {sl : Sl} {i i' j j' : Nat} (h : (entsTo a sl 0 j).length = i) (h' : (entsTo a sl 0 j').length = i') (hlt : i' ≤ i) (ho' : okJ a sl j' = true) : j' ≤ j ∨ i' = i := by
  rcases Nat.lt_or_ge j j' with h1 | h1
  · obtain ⟨t, ht⟩ := entsTo_le a sl 0 j j' (by omega)
    rw [ht, List.length_append] at h'
    right; omega
  · exact .inl h1
theorem emp_next {a n : Nat} {sl : Sl} (hw : Wf a n sl) {i : Nat} {e : Ent} (he : (ents a n sl 0)[i]? = some e) : nextR a n (empS a n sl (ents a n sl 0) (i + 1)) e.1.1 e.1.2 = (fstE ((ents a n sl 0).drop (i + 1)), 0) := by
  obtain ⟨hnk, _, _⟩ := ents_gv hw (List.mem_of_getElem? he)
  obtain ⟨j, hj, ho, hej, hf, hl, ht⟩ := ent_at hw he
  have hk : (kyT e.1.1 e.1.2, kyN e.1.1 e.1.2) = e.1 := hnk.p
  have hb : behR a n (empS a n sl (ents a n sl 0) (i + 1)) e.1.1 e.1.2 = (((plA a 0 j : Nat) : Int) + 1, true) := by
    unfold behR
    have h0 : (e.1.1 == 0) = false := by simpa using hnk.ne
    rw [h0, if_neg (by simp), hnk.b, if_pos rfl, hk, emp_find hw, hf]
  have hents : ents a n (empS a n sl (ents a n sl 0) (i + 1)) (plA a 0 j + 1) = ents a n sl (plA a 0 j + 1) := by
    apply ents_agree hj
    intro t hjt
    have e1 := emp_keyAt hw (i + 1) (j + 1 + t) hjt
    have e2 : empS a n sl (ents a n sl 0) (i + 1) (plA a 0 (j + 1 + t) : Nat) = sl (plA a 0 (j + 1 + t) : Nat) := by
      rcases emp_at (a := a) (n := n) (sl := sl) (E := ents a n sl 0) (i + 1) (plA a 0 (j + 1 + t) : Nat) with h | ⟨_, i', hi', e', he', hq⟩
      · exact h
      · exfalso
        obtain ⟨j', hj', ho', _, hf', hl', _⟩ := ent_at hw he'
        rw [hf'] at hq
        simp only at hq
        have hjj : j + 1 + t = j' := plA_inj (a := a) (by omega)
        rcases ent_order hl hl' (by omega) ho' with h1 | h1
        · omega
        · subst h1
          rw [he] at he'
          cases he'
          rw [hf] at hf'
          have := congrArg Prod.fst hf'
          simp only at this
          have hj2 : j = j' := plA_inj (a := a) (by omega)
          omega
    exact ⟨e1, e2⟩
  unfold nextR
  rw [hb, if_pos rfl, ← ht, ← hents]
  congr 3
theorem emp_end {a n : Nat} {sl : Sl} (hw : Wf a n sl) : ents a n (empS a n sl (ents a n sl 0) (ents a n sl 0).length) 0 = [] := by
  rw [← List.length_eq_zero_iff, ents_len, List.length_eq_zero_iff, List.filter_eq_nil_iff]
  intro j hj h
  rw [List.mem_range] at hj
  obtain ⟨h1, h2⟩ := emp_ok hw _ j hj h
  have hp := ents_part a n sl j hj h1
  have hi : (ents a n sl 0)[(entsTo a sl 0 j).length]? = some (keyAt a sl (plA a 0 j : Nat), sl (plA a 0 j : Nat)) := by rw [hp]; simp
  have hlt : (entsTo a sl 0 j).length < (ents a n sl 0).length := (List.getElem?_eq_some_iff.1 hi).1
  have hg := emp_gone (a := a) (n := n) (sl := sl) hi _ hlt
  have hf := (ok_find hw hj h1).1
  rw [hf] at hg
  simp only at hg
  rw [hg] at h2
  exact (ok_find hw hj h1).2.2 (by rw [← h2])
end Go.Proofs.Ythefmfjlinpepaa
