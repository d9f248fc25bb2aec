/- A table is a map: what is kept. -/
import Derived.Test.YthefmfjlinpepaaY1
namespace Go.Proofs.Ythefmfjlinpepaa
open Go.RowKit Go.Shelf
set_option linter.unusedSimpArgs false
set_option linter.unusedVariables false

/-- A key as it is taken. -/
structure Nk (k : Int × Int) : Prop where
  b : keyB k.1 k.2 = true
  p : kyP k = k
theorem Nk.ne {k : Int × Int} (h : Nk k) : k.1 ≠ 0 := by
  intro h0
  have := h.b
  rw [h0] at this
  simp [keyB] at this
theorem Nk2 (x : Int) : Nk (2, x) := ⟨keyB2 x, by unfold kyP; simp only [kyT2, kyN2]⟩
theorem kyP_nk {k : Int × Int} (h : keyB k.1 k.2 = true) : Nk (kyP k) := by
  by_cases hw : whE k.1 k.2 = 0
  · have : kyP k = (2, whN k.1 k.2) := by unfold kyP kyT kyN; rw [if_pos hw, if_pos hw]
    rw [this]; exact Nk2 _
  · have : kyP k = k := by unfold kyP kyT kyN; rw [if_neg hw, if_neg hw]
    rw [this]; exact ⟨h, this⟩

/-- Each key in a node is found there. -/
structure Wf (a n : Nat) (sl : Sl) : Prop where
  nd : ∀ m : Nat, m < n → (sl ((a + 2 * m : Nat) : Int)).1 ≠ 0 → findR a n sl (sl ((a + 2 * m : Nat) : Int)) = ((a : Int) + 2 * (m : Int) + 1, true)
  ky : ∀ m : Nat, m < n → (sl ((a + 2 * m : Nat) : Int)).1 ≠ 0 → Nk (sl ((a + 2 * m : Nat) : Int))

theorem Wf.zero (a n : Nat) : Wf a n (fun _ => (0, 0)) := ⟨fun m _ h => absurd rfl h, fun m _ h => absurd rfl h⟩

/-- What put comes to. -/
theorem put_cases (a n : Nat) (sl : Sl) (k v : Int × Int) :
    ((findR a n sl k).2 = true ∧ putR a n sl k v = (true, sput sl (findR a n sl k).1 v) ∧ ((inArr a k = true ∧ (findR a n sl k).1 = k.2 - 1 ∧ 1 ≤ k.2 ∧ k.2 ≤ (a : Int) ∧ k.1 = 2) ∨ (inArr a k = false ∧ ∃ m : Nat, m < n ∧ (findR a n sl k).1 = (a : Int) + 2 * (m : Int) + 1 ∧ sl ((a + 2 * m : Nat) : Int) = k))) ∨
    ((findR a n sl k).2 = false ∧ (putR a n sl k v).2 = sl) ∨
    ((findR a n sl k).2 = false ∧ inArr a k = false ∧ v.1 ≠ 0 ∧ ∃ m : Nat, m < n ∧ findR a n sl k = ((a : Int) + 2 * (m : Int) + 1, false) ∧ (sl ((a + 2 * m : Nat) : Int)).1 = 0 ∧ putR a n sl k v = (true, sput (sput sl ((a : Int) + 2 * (m : Int)) k) ((a : Int) + 2 * (m : Int) + 1) v)) := by
  rcases findR_shape a n sl k with ⟨hi, he, h1, h2, h3⟩ | ⟨hi, he⟩ | ⟨hi, m, hm, he, ht, hf⟩
  · left
    have h : (findR a n sl k).2 = true := by rw [he]
    refine ⟨h, by unfold putR; rw [if_pos h], .inl ⟨hi, by rw [he], h1, h2, h3⟩⟩
  · right; left
    refine ⟨by rw [he], ?_⟩
    unfold putR
    rw [he]
    simp only [Bool.false_eq_true, if_false, if_true]
    split <;> rfl
  · by_cases h : (findR a n sl k).2 = true
    · left
      exact ⟨h, by unfold putR; rw [if_pos h], .inr ⟨hi, m, hm, he, ht h⟩⟩
    · have h' : (findR a n sl k).2 = false := by simpa using h
      by_cases h0 : v.1 = 0
      · right; left
        exact ⟨h', by unfold putR; rw [if_neg h, if_pos h0]⟩
      · right; right
        refine ⟨h', hi, h0, m, hm, Prod.ext he h', hf h', ?_⟩
        unfold putR
        rw [if_neg h, if_neg h0, if_neg (by omega), he, show (a : Int) + 2 * (m : Int) + 1 - 1 = (a : Int) + 2 * (m : Int) by omega]

/-- A key that is found stays where it is when a free node is filled. -/
theorem fnd_stay {a n : Nat} {sl sl' : Sl} {k : Int × Int} (hn : 0 < n) {m : Nat} (h : ∀ m' : Nat, m' < n → m' ≠ m → sl' ((a + 2 * m' : Nat) : Int) = sl ((a + 2 * m' : Nat) : Int)) (h0 : (sl ((a + 2 * m : Nat) : Int)).1 = 0) (hk : k.1 ≠ 0) :
    ∀ f i q, fnd a n sl k f i = (q, true) → fnd a n sl' k f i = (q, true) := by
  intro f
  induction f with
  | zero => intro i q e; simp [fnd] at e
  | succ f ih =>
    intro i q e
    obtain ⟨m', hm', hw⟩ := wayN_shape a n k i hn
    unfold fnd at e ⊢
    rw [hw] at e ⊢
    by_cases hmm : m' = m
    · subst hmm
      rw [if_neg (by intro e2; rw [e2] at h0; exact hk h0), if_pos h0] at e
      simp at e
    · rw [h m' hm' hmm]
      split at e
      · rename_i h1; rw [if_pos h1]; exact e
      · rename_i h1
        rw [if_neg h1]
        split at e
        · simp at e
        · rename_i h2; rw [if_neg h2]; exact ih _ _ e

theorem wf_put {a n : Nat} {sl : Sl} {k v : Int × Int} (hw : Wf a n sl) (hk : Nk k) : Wf a n (putR a n sl k v).2 := by
  rcases put_cases a n sl k v with ⟨hf, hp, hc⟩ | ⟨hf, hp⟩ | ⟨hf, hi, hv, m, hm, he, h0, hp⟩
  · rw [hp]
    have hs : ∀ m : Nat, m < n → sput sl (findR a n sl k).1 v ((a + 2 * m : Nat) : Int) = sl ((a + 2 * m : Nat) : Int) := by
      intro m hm
      apply sput_ne
      rcases hc with ⟨_, h1, h2, h3, _⟩ | ⟨_, m', hm', h1, _⟩
      · rw [h1]; omega
      · rw [h1]; omega
    refine ⟨fun m hm h => ?_, fun m hm h => ?_⟩
    · simp only at h ⊢
      rw [hs m hm] at h ⊢
      rw [findR_keys _ hs]; exact hw.nd m hm h
    · simp only at h ⊢
      rw [hs m hm] at h ⊢
      exact hw.ky m hm h
  · rw [hp]; exact hw
  · rw [hp]
    have hn : 0 < n := by omega
    have hs : ∀ m' : Nat, m' < n → m' ≠ m → sput (sput sl ((a : Int) + 2 * (m : Int)) k) ((a : Int) + 2 * (m : Int) + 1) v ((a + 2 * m' : Nat) : Int) = sl ((a + 2 * m' : Nat) : Int) := fun m' _ hne => by rw [sput_ne (by omega), sput_ne (by omega)]
    have hsm : sput (sput sl ((a : Int) + 2 * (m : Int)) k) ((a : Int) + 2 * (m : Int) + 1) v ((a + 2 * m : Nat) : Int) = k := by
      rw [sput_ne (by omega), show ((a + 2 * m : Nat) : Int) = (a : Int) + 2 * (m : Int) by omega]; exact sput_same
    refine ⟨fun m' hm' h => ?_, fun m' hm' h => ?_⟩
    · simp only at h ⊢
      by_cases hmm : m' = m
      · subst hmm
        rw [hsm]
        have e4 : fnd a n sl k n 0 = ((a : Int) + 2 * (m' : Int) + 1, false) := by
          have : findR a n sl k = fnd a n sl k n 0 := by unfold findR; rw [hi]; rfl
          rw [← this]; exact he
        unfold findR
        rw [hi]
        exact fnd_fill hn hm hs hsm n 0 e4
      · rw [hs m' hm' hmm] at h ⊢
        have h1 := hw.nd m' hm' h
        have hne : (sl ((a + 2 * m' : Nat) : Int)).1 ≠ 0 := h
        generalize sl ((a + 2 * m' : Nat) : Int) = k' at h1 hne ⊢
        have hia : inArr a k' = false := by
          cases hq : inArr a k'
          · rfl
          · have e5 : findR a n sl k' = (k'.2 - 1, true) := by unfold findR; rw [hq]; rfl
            simp only [inArr, Bool.and_eq_true, decide_eq_true_eq, beq_iff_eq] at hq
            rw [e5] at h1
            have := congrArg Prod.fst h1
            simp only at this
            omega
        unfold findR at h1 ⊢
        rw [hia] at h1 ⊢
        exact fnd_stay hn hs h0 hne n 0 _ h1
    · simp only at h ⊢
      by_cases hmm : m' = m
      · subst hmm; rw [hsm]; exact hk
      · rw [hs m' hm' hmm] at h ⊢; exact hw.ky m' hm' h

/-- A key that is not found is in no node. -/
theorem Wf.none {a n : Nat} {sl : Sl} (hw : Wf a n sl) {k : Int × Int} (hk : k.1 ≠ 0) (hf : (findR a n sl k).2 = false) (m : Nat) (hm : m < n) : sl ((a + 2 * m : Nat) : Int) ≠ k := by
  intro e
  have := hw.nd m hm (by rw [e]; exact hk)
  rw [e] at this
  rw [this] at hf
  cases hf
theorem find_true {a n : Nat} {sl : Sl} {k : Int × Int} (hf : (findR a n sl k).2 = true) : (inArr a k = true ∧ (findR a n sl k).1 = k.2 - 1 ∧ 1 ≤ k.2 ∧ k.2 ≤ (a : Int) ∧ k.1 = 2) ∨ (inArr a k = false ∧ ∃ m : Nat, m < n ∧ (findR a n sl k).1 = (a : Int) + 2 * (m : Int) + 1 ∧ sl ((a + 2 * m : Nat) : Int) = k) := by
  rcases findR_shape a n sl k with ⟨hi, he, h1, h2, h3⟩ | ⟨hi, he⟩ | ⟨hi, m, hm, he, ht, _⟩
  · exact .inl ⟨hi, by rw [he], h1, h2, h3⟩
  · rw [he] at hf; cases hf
  · exact .inr ⟨hi, m, hm, he, ht hf⟩
/-- Unlike keys are at unlike places. -/
theorem find_apart {a n : Nat} {sl : Sl} {k k' : Int × Int} (hf : (findR a n sl k).2 = true) (hf' : (findR a n sl k').2 = true) (hne : k' ≠ k) : (findR a n sl k').1 ≠ (findR a n sl k).1 := by
  intro e
  apply hne
  rcases find_true hf with ⟨_, h1, h2, h3, h4⟩ | ⟨_, m, hm, h1, h2⟩
  · rcases find_true hf' with ⟨_, g1, g2, g3, g4⟩ | ⟨_, m', hm', g1, g2⟩
    · exact Prod.ext (by omega) (by omega)
    · omega
  · rcases find_true hf' with ⟨_, g1, g2, g3, g4⟩ | ⟨_, m', hm', g1, g2⟩
    · omega
    · have : m' = m := by omega
      subst this
      rw [← g2, h2]

theorem gv_other {a n : Nat} {sl : Sl} {k v k' : Int × Int} (hw : Wf a n sl) (hk' : k'.1 ≠ 0) (hne : k' ≠ k) : gv a n (putR a n sl k v).2 k' = gv a n sl k' := by
  rcases put_cases a n sl k v with ⟨hf, hp, hc⟩ | ⟨hf, hp⟩ | ⟨hf, hi, hv, m, hm, he, h0, hp⟩
  · rw [hp]
    have hs : ∀ m : Nat, m < n → sput sl (findR a n sl k).1 v ((a + 2 * m : Nat) : Int) = sl ((a + 2 * m : Nat) : Int) := by
      intro m hm
      apply sput_ne
      rcases hc with ⟨_, h1, h2, h3, _⟩ | ⟨_, m', hm', h1, _⟩
      · rw [h1]; omega
      · rw [h1]; omega
    unfold gv
    simp only
    rw [findR_keys k' hs]
    by_cases hf' : (findR a n sl k').2 = true
    · rw [if_pos hf', if_pos hf', sput_ne (find_apart hf hf' hne)]
    · rw [if_neg hf', if_neg hf']
  · rw [hp]
  · rw [hp]
    have hn : 0 < n := by omega
    have hs : ∀ m' : Nat, m' < n → m' ≠ m → sput (sput sl ((a : Int) + 2 * (m : Int)) k) ((a : Int) + 2 * (m : Int) + 1) v ((a + 2 * m' : Nat) : Int) = sl ((a + 2 * m' : Nat) : Int) := fun m' _ hne => by rw [sput_ne (by omega), sput_ne (by omega)]
    have hsm : sput (sput sl ((a : Int) + 2 * (m : Int)) k) ((a : Int) + 2 * (m : Int) + 1) v ((a + 2 * m : Nat) : Int) = k := by
      rw [sput_ne (by omega), show ((a + 2 * m : Nat) : Int) = (a : Int) + 2 * (m : Int) by omega]; exact sput_same
    unfold gv
    simp only
    by_cases hf' : (findR a n sl k').2 = true
    · have e : findR a n (sput (sput sl ((a : Int) + 2 * (m : Int)) k) ((a : Int) + 2 * (m : Int) + 1) v) k' = findR a n sl k' := by
        cases hq : inArr a k'
        · have h1 : findR a n sl k' = ((findR a n sl k').1, true) := Prod.ext rfl hf'
          have h2 : fnd a n sl k' n 0 = ((findR a n sl k').1, true) := by
            have : findR a n sl k' = fnd a n sl k' n 0 := by unfold findR; rw [hq]; rfl
            rw [← this]; exact h1
          have h3 := fnd_stay hn hs h0 hk' n 0 _ h2
          rw [h1]
          conv => lhs; unfold findR
          rw [hq]; exact h3
        · unfold findR; rw [hq]; rfl
      rw [e, if_pos hf', if_pos hf']
      rcases find_true hf' with ⟨_, g1, g2, g3, g4⟩ | ⟨_, m', hm', g1, g2⟩
      · rw [sput_ne (by omega), sput_ne (by omega)]
      · have : m' ≠ m := by
          intro e2; subst e2
          rw [g2] at h0; exact hk' h0
        rw [sput_ne (by omega), sput_ne (by omega)]
    · have hf2 : (findR a n sl k').2 = false := by simpa using hf'
      have hno := hw.none hk' hf2
      have : (findR a n (sput (sput sl ((a : Int) + 2 * (m : Int)) k) ((a : Int) + 2 * (m : Int) + 1) v) k').2 = false := by
        cases hq : (findR a n (sput (sput sl ((a : Int) + 2 * (m : Int)) k) ((a : Int) + 2 * (m : Int) + 1) v) k').2
        · rfl
        · rcases find_true hq with ⟨g0, _⟩ | ⟨_, m', hm', g1, g2⟩
          · have : findR a n sl k' = (k'.2 - 1, true) := by unfold findR; rw [g0]; rfl
            rw [this] at hf2; cases hf2
          · exfalso
            by_cases hmm : m' = m
            · subst hmm; rw [hsm] at g2; exact hne g2.symm
            · rw [hs m' hm' hmm] at g2; exact hno m' hm' g2
      rw [this, if_neg hf', if_neg (by simp)]

/-- The entries, place by place. -/
theorem ents_map (a n : Nat) (sl : Sl) : ents a n sl 0 = ((List.range (a + n)).filter (okJ a sl)).map fun j => (keyAt a sl (plA a 0 j : Nat), sl (plA a 0 j : Nat)) := by
  have e : plN a n 0 = a + n := by unfold plN; have : (0 - a) / 2 = 0 := by omega
                                   rw [this]; omega
  unfold ents entsTo
  rw [e]
  generalize List.range (a + n) = l
  induction l with
  | nil => rfl
  | cons x l ih =>
    rw [List.filterMap_cons, List.filter_cons]
    have : okJ a sl x = okE a sl (plA a 0 x : Nat) := rfl
    rw [this]
    cases okE a sl (plA a 0 x : Nat)
    · simpa using ih
    · simpa using ih
theorem ok_find {a n : Nat} {sl : Sl} (hw : Wf a n sl) {j : Nat} (hj : j < a + n) (h : okJ a sl j = true) : findR a n sl (keyAt a sl (plA a 0 j : Nat)) = (((plA a 0 j : Nat) : Int), true) ∧ Nk (keyAt a sl (plA a 0 j : Nat)) ∧ (sl (plA a 0 j : Nat)).1 ≠ 0 := by
  unfold okJ okE at h
  rw [Bool.and_eq_true] at h
  obtain ⟨h1, h2⟩ := h
  have h2' : (sl (plA a 0 j : Nat)).1 ≠ 0 := by simpa using h2
  refine ⟨?_, ?_, h2'⟩
  · unfold keyAt
    rw [plA0]
    by_cases hja : j < a
    · rw [if_pos hja, if_pos (by omega)]
      have hi : inArr a (2, (j : Int) + 1) = true := by unfold inArr; simp; omega
      unfold findR
      rw [hi]
      simp
    · rw [if_neg hja, if_neg (by omega)]
      have e : ((a + 2 * (j - a) + 1 : Nat) : Int) - 1 = ((a + 2 * (j - a) : Nat) : Int) := by omega
      rw [e]
      have hk : (sl ((a + 2 * (j - a) : Nat) : Int)).1 ≠ 0 := by
        intro h0
        unfold keyAt at h1
        rw [plA0, if_neg hja, if_neg (by omega), e, h0] at h1
        simp [keyB] at h1
      rw [hw.nd (j - a) (by omega) hk]
      simp
  · unfold keyAt
    rw [plA0]
    by_cases hja : j < a
    · rw [if_pos hja, if_pos (by omega)]
      exact Nk2 _
    · rw [if_neg hja, if_neg (by omega)]
      have e : ((a + 2 * (j - a) + 1 : Nat) : Int) - 1 = ((a + 2 * (j - a) : Nat) : Int) := by omega
      rw [e]
      refine hw.ky (j - a) (by omega) ?_
      intro h0
      unfold keyAt at h1
      rw [plA0, if_neg hja, if_neg (by omega), e, h0] at h1
      simp [keyB] at h1
theorem plA_inj {a i j : Nat} (h : plA a 0 i = plA a 0 j) : i = j := by
  rw [plA0, plA0] at h
  split at h <;> split at h <;> omega
theorem ents_nodup {a n : Nat} {sl : Sl} (hw : Wf a n sl) : ((ents a n sl 0).map Prod.fst).Nodup := by
  rw [ents_map, List.map_map, List.Nodup, List.pairwise_map]
  refine List.Pairwise.imp_of_mem ?_ (List.Pairwise.filter _ (List.nodup_range (n := a + n)))
  intro i j hi hj hne e
  rw [List.mem_filter, List.mem_range] at hi hj
  have h1 := (ok_find hw hi.1 hi.2).1
  have h2 := (ok_find hw hj.1 hj.2).1
  simp only [Function.comp_apply] at e
  rw [e, h2] at h1
  have := congrArg Prod.fst h1
  simp only at this
  exact hne (plA_inj (a := a) (by omega))
theorem ents_gv {a n : Nat} {sl : Sl} (hw : Wf a n sl) {e : Ent} (he : e ∈ ents a n sl 0) : Nk e.1 ∧ e.2.1 ≠ 0 ∧ gv a n sl e.1 = e.2 := by
  rw [ents_map, List.mem_map] at he
  obtain ⟨j, hj, rfl⟩ := he
  rw [List.mem_filter, List.mem_range] at hj
  obtain ⟨h1, h2, h3⟩ := ok_find hw hj.1 hj.2
  refine ⟨h2, h3, ?_⟩
  unfold gv
  rw [h1, if_pos rfl]
theorem gv_ents {a n : Nat} {sl : Sl} {k : Int × Int} (hk : keyB k.1 k.2 = true) (h : (gv a n sl k).1 ≠ 0) : (k, gv a n sl k) ∈ ents a n sl 0 := by
  unfold gv at h ⊢
  by_cases hf : (findR a n sl k).2 = true
  · rw [if_pos hf] at h ⊢
    obtain ⟨j, hj, ho, he, hp⟩ := found_ent hf h hk
    rw [ents_map, List.mem_map]
    exact ⟨j, List.mem_filter.2 ⟨List.mem_range.2 hj, ho⟩, by rw [he, hp]⟩
  · rw [if_neg hf] at h; exact absurd rfl h

/-- All keys of a list are given their values. -/
theorem putAll_gv (a n : Nat) : ∀ (L : List Ent) (sl : Sl), Wf a n sl → (∀ e ∈ L, Nk e.1 ∧ e.2.1 ≠ 0) → (L.map Prod.fst).Nodup → occ a n sl + outs a L ≤ n →
    Wf a n (putAll a n sl L) ∧ (∀ e ∈ L, gv a n (putAll a n sl L) e.1 = e.2) ∧ ∀ k', k'.1 ≠ 0 → k' ∉ L.map Prod.fst → gv a n (putAll a n sl L) k' = gv a n sl k'
  | [], sl, hw, _, _, _ => ⟨hw, fun _ h => absurd h (by simp), fun _ _ _ => rfl⟩
  | e :: L, sl, hw, hk, hnd, ho => by
    rw [outs_cons] at ho
    have he := hk e List.mem_cons_self
    rw [List.map_cons, List.nodup_cons] at hnd
    have h1 := occ_put a n sl e.1 e.2
    have hok : (putR a n sl e.1 e.2).1 = true := by
      apply put_ok
      cases hi : inArr a e.1
      · right; rw [hi] at ho; simp at ho; omega
      · exact .inl rfl
    obtain ⟨g1, g2, g3⟩ := putAll_gv a n L (putR a n sl e.1 e.2).2 (wf_put hw he.1) (fun x hx => hk x (List.mem_cons_of_mem _ hx)) hnd.2 (by omega)
    have h3 : putAll a n sl (e :: L) = putAll a n (putR a n sl e.1 e.2).2 L := rfl
    rw [h3]
    refine ⟨g1, fun x hx => ?_, fun k' hk' hno => ?_⟩
    · rcases List.mem_cons.1 hx with rfl | hx
      · rw [g3 _ he.1.ne hnd.1]
        exact put_get hok he.1.ne (fun h0 => absurd h0 he.2)
      · exact g2 x hx
    · rw [List.map_cons, List.mem_cons] at hno
      rw [g3 k' hk' (fun h => hno (.inr h))]
      exact gv_other hw hk' (fun h => hno (.inl h))
end Go.Proofs.Ythefmfjlinpepaa
