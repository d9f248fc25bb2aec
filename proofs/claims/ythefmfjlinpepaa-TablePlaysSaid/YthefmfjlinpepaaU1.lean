/- How many keys there are behind a Set. -/
import Derived.Test.YthefmfjlinpepaaRE
namespace Go.Proofs.Ythefmfjlinpepaa
open Go.RowKit Go.Shelf
set_option linter.unusedSimpArgs false
set_option linter.unusedVariables false

theorem sput_ne {sl : Sl} {h i : Int} {x : Int × Int} (hne : i ≠ h) : sput sl h x i = sl i := by unfold sput; rw [if_neg hne]
theorem sput_same {sl : Sl} {h : Int} {x : Int × Int} : sput sl h x h = x := by unfold sput; rw [if_pos rfl]

theorem wayN_shape (a n : Nat) (k : Int × Int) (i : Nat) (hn : 0 < n) : ∃ m, m < n ∧ wayN a n k i = a + 2 * m := ⟨(fst0 n k + i) % n, Nat.mod_lt _ hn, rfl⟩

theorem fnd_shape (a n : Nat) (sl : Sl) (k : Int × Int) (hn : 0 < n) : ∀ f i, fnd a n sl k f i = (-1, false) ∨ ∃ m : Nat, m < n ∧ (fnd a n sl k f i).1 = (a : Int) + 2 * (m : Int) + 1 ∧ ((fnd a n sl k f i).2 = true → sl ((a + 2 * m : Nat) : Int) = k) ∧ ((fnd a n sl k f i).2 = false → (sl ((a + 2 * m : Nat) : Int)).1 = 0) := by
  intro f
  induction f with
  | zero => intro i; exact .inl rfl
  | succ f ih =>
    intro i
    obtain ⟨m, hm, hw⟩ := wayN_shape a n k i hn
    unfold fnd
    rw [hw]
    split
    · rename_i h
      exact .inr ⟨m, hm, by simp, fun _ => h, fun e => Bool.noConfusion e⟩
    · split
      · rename_i h
        exact .inr ⟨m, hm, by simp, fun e => Bool.noConfusion e, fun _ => h⟩
      · exact ih (i + 1)

/-- Where a key is found, or may be put. -/
theorem findR_shape (a n : Nat) (sl : Sl) (k : Int × Int) :
    (inArr a k = true ∧ findR a n sl k = (k.2 - 1, true) ∧ 1 ≤ k.2 ∧ k.2 ≤ (a : Int) ∧ k.1 = 2) ∨ (inArr a k = false ∧ findR a n sl k = (-1, false)) ∨
    (inArr a k = false ∧ ∃ m : Nat, m < n ∧ (findR a n sl k).1 = (a : Int) + 2 * (m : Int) + 1 ∧ ((findR a n sl k).2 = true → sl ((a + 2 * m : Nat) : Int) = k) ∧ ((findR a n sl k).2 = false → (sl ((a + 2 * m : Nat) : Int)).1 = 0)) := by
  cases h : inArr a k
  · right
    have e : findR a n sl k = fnd a n sl k n 0 := by unfold findR; rw [h]; rfl
    rw [e]
    rcases Nat.eq_zero_or_pos n with hn | hn
    · subst hn; exact .inl ⟨rfl, rfl⟩
    · rcases fnd_shape a n sl k hn n 0 with h | h
      · exact .inl ⟨rfl, h⟩
      · exact .inr ⟨rfl, h⟩
  · left
    have e : findR a n sl k = (k.2 - 1, true) := by unfold findR; rw [h]; rfl
    simp only [inArr, Bool.and_eq_true, decide_eq_true_eq, beq_iff_eq] at h
    exact ⟨rfl, e, h.2.1, h.2.2, h.1⟩

theorem plA0 (a j : Nat) : plA a 0 j = if j < a then j else a + 2 * (j - a) + 1 := by
  unfold plA
  have : (0 - a) / 2 = 0 := by omega
  rw [this, Nat.sub_zero]
  split <;> omega

/-- What put turns: one place of a value, and its key. -/
theorem put_places (a n : Nat) (sl : Sl) (k v : Int × Int) : (putR a n sl k v).2 = sl ∨ ∃ j0, j0 < a + n ∧ ∀ i : Int, i ≠ (plA a 0 j0 : Nat) → (j0 < a ∨ i ≠ ((plA a 0 j0 : Nat) : Int) - 1) → (putR a n sl k v).2 i = sl i := by
  rcases findR_shape a n sl k with ⟨hi, he, h1, h2, h3⟩ | ⟨hi, he⟩ | ⟨hi, m, hm, he, ht, hf⟩
  · right
    refine ⟨(k.2 - 1).toNat, by omega, fun i hi1 hi2 => ?_⟩
    rw [plA0, if_pos (by omega)] at hi1
    unfold putR
    rw [he, if_pos rfl]
    exact sput_ne (by show i ≠ k.2 - 1; omega)
  · left
    unfold putR
    rw [he]
    simp only [Bool.false_eq_true, if_false, if_true]
    split <;> rfl
  · by_cases h : (findR a n sl k).2 = true
    · right
      refine ⟨a + m, by omega, fun i hi1 hi2 => ?_⟩
      rw [plA0, if_neg (by omega)] at hi1
      unfold putR
      rw [if_pos h, he]
      exact sput_ne (by omega)
    · by_cases hv : v.1 = 0
      · left
        unfold putR
        rw [if_neg h, if_pos hv]
      · right
        refine ⟨a + m, by omega, fun i hi1 hi2 => ?_⟩
        rw [plA0, if_neg (by omega)] at hi1 hi2
        unfold putR
        rw [if_neg h, if_neg hv, if_neg (by omega), he]
        exact (sput_ne (by omega)).trans (sput_ne (by omega))

/-- Has the j-th place of values a key with a value? -/
def okJ (a : Nat) (sl : Sl) (j : Nat) : Bool := okE a sl (plA a 0 j : Nat)
theorem okJ_other (a n : Nat) (sl sl' : Sl) (j0 j : Nat) (hj : j ≠ j0) (h : ∀ i : Int, i ≠ (plA a 0 j0 : Nat) → (j0 < a ∨ i ≠ ((plA a 0 j0 : Nat) : Int) - 1) → sl' i = sl i) : okJ a sl' j = okJ a sl j := by
  have e1 : sl' (plA a 0 j : Nat) = sl (plA a 0 j : Nat) := by
    apply h
    · rw [plA0, plA0]; split <;> split <;> omega
    · rcases Nat.lt_or_ge j0 a with h0 | h0
      · exact .inl h0
      · right
        rw [plA0, plA0, if_neg (by omega : ¬ j0 < a)]; split <;> omega
  have e2 : keyAt a sl' (plA a 0 j : Nat) = keyAt a sl (plA a 0 j : Nat) := by
    unfold keyAt
    split
    · rfl
    · rename_i hlt
      apply h
      · rw [plA0] at hlt ⊢
        rw [plA0]
        split at hlt <;> split <;> first | omega | skip
        all_goals (split <;> omega)
      · rcases Nat.lt_or_ge j0 a with h0 | h0
        · exact .inl h0
        · right
          rw [plA0] at hlt ⊢
          rw [plA0, if_neg (by omega : ¬ j0 < a)]
          split at hlt
          · omega
          · rename_i hja
            rw [if_neg hja]; omega
  unfold okJ okE
  rw [e1, e2]

theorem cnt_one (f g : Nat → Bool) (j0 : Nat) (h : ∀ j, j ≠ j0 → f j = g j) : ∀ N, ((List.range N).filter f).length ≤ ((List.range N).filter g).length + (if j0 < N then 1 else 0)
  | 0 => by simp
  | N + 1 => by
    have ih := cnt_one f g j0 h N
    rw [List.range_succ, List.filter_append, List.filter_append, List.length_append, List.length_append]
    by_cases hN : N = j0
    · subst hN
      rw [if_neg (by omega)] at ih
      rw [if_pos (by omega)]
      have : (List.filter f [N]).length ≤ 1 := by simpa using List.length_filter_le f [N]
      omega
    · have : (List.filter f [N]).length = (List.filter g [N]).length := by simp [List.filter_cons, h N hN]
      rw [this]
      split at ih <;> split <;> omega

theorem ents_len (a n : Nat) (sl : Sl) : (ents a n sl 0).length = ((List.range (a + n)).filter (okJ a sl)).length := by
  have e : plN a n 0 = a + n := by unfold plN; have : (0 - a) / 2 = 0 := by omega
                                   rw [this]; omega
  unfold ents entsTo
  rw [e]
  generalize List.range (a + n) = l
  induction l with
  | nil => rfl
  | cons x l ih =>
    rw [List.filterMap_cons, List.filter_cons]
    have : okJ a sl x = okE a sl (plA a 0 x : Nat) := rfl
    rw [this]
    cases okE a sl (plA a 0 x : Nat)
    · simpa using ih
    · simpa using ih

theorem ents_put (a n : Nat) (sl : Sl) (k v : Int × Int) : (ents a n (putR a n sl k v).2 0).length ≤ (ents a n sl 0).length + 1 := by
  rcases put_places a n sl k v with h | ⟨j0, hj0, h⟩
  · rw [h]; omega
  · rw [ents_len, ents_len]
    have := cnt_one (okJ a (putR a n sl k v).2) (okJ a sl) j0 (fun j hj => okJ_other a n sl _ j0 j hj h) (a + n)
    rw [if_pos hj0] at this
    exact this
theorem ents_putAll (a n : Nat) : ∀ (L : List Ent) (sl : Sl), (ents a n (putAll a n sl L) 0).length ≤ (ents a n sl 0).length + L.length
  | [], sl => by simp [putAll]
  | e :: L, sl => by
    have h1 := ents_put a n sl e.1 e.2
    have h2 := ents_putAll a n L (putR a n sl e.1 e.2).2
    have h3 : putAll a n sl (e :: L) = putAll a n (putR a n sl e.1 e.2).2 L := rfl
    rw [h3, List.length_cons]; omega
theorem ents_zero (a n : Nat) : (ents a n (fun _ => (0, 0)) 0).length = 0 := by
  rw [ents_len, List.length_eq_zero_iff, List.filter_eq_nil_iff]
  intro j _
  unfold okJ okE
  simp
theorem ents_set (most : Int) (a n : Nat) (sl : Sl) (k v : Int × Int) : (ents (setR most a n sl k v).2.1 (setR most a n sl k v).2.2.1 (setR most a n sl k v).2.2.2 0).length ≤ (ents a n sl 0).length + 1 := by
  unfold setR
  split
  · simp
  · split
    · exact ents_put _ _ _ _ _
    · split
      · simp
      · have h1 := ents_put (szA (renL a n sl (kyP k))) (szN (renL a n sl (kyP k))) (putAll (szA (renL a n sl (kyP k))) (szN (renL a n sl (kyP k))) (fun _ => (0, 0)) (ents a n sl 0)) (kyP k) v
        have h2 := ents_putAll (szA (renL a n sl (kyP k))) (szN (renL a n sl (kyP k))) (ents a n sl 0) (fun _ => (0, 0))
        rw [ents_zero] at h2
        simp only
        omega
end Go.Proofs.Ythefmfjlinpepaa
