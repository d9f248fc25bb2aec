/- Slots that lead somewhere: the document's words and the walk's. -/
import Derived.Test.YtnofmpbdfcolfaaS2
namespace Go.Proofs.Ytnofmpbdfcolfaa
open Go.RowKit Go.Shelf
set_option linter.unusedSimpArgs false
set_option linter.unusedVariables false

/-- The first slot of the pairs. -/
def fstP (t : Th) : Int := if 0 < t.arr then 1 + t.arr else 1
theorem fstP_eq (t : Th) : (0 < t.arr ∧ fstP t = 1 + t.arr) ∨ (¬ 0 < t.arr ∧ fstP t = 1) := by
  unfold fstP
  by_cases h : 0 < t.arr
  · exact .inl ⟨h, if_pos h⟩
  · exact .inr ⟨h, if_neg h⟩
theorem keyN_eq {t : Th} {i : Nat} (h1 : 1 ≤ i) (hi : i < t.sl.length) : keyN t i = if (i : Int) ≤ t.arr then -1 else if ((i : Int) - fstP t) % 2 = 1 then (i : Int) - 1 else if i + 1 = t.sl.length then -1 else -2 := by
  unfold keyN fstP
  rw [if_neg (by omega)]
theorem keyN_arr {t : Th} {i : Nat} (h1 : 1 ≤ i) (hi : i < t.sl.length) (h : (i : Int) ≤ t.arr) : keyN t i = -1 := by rw [keyN_eq h1 hi, if_pos h]
theorem keyN_odd {t : Th} {i : Nat} (h1 : 1 ≤ i) (hi : i < t.sl.length) (h : ¬ (i : Int) ≤ t.arr) (h2 : ((i : Int) - fstP t) % 2 = 1) : keyN t i = (i : Int) - 1 := by rw [keyN_eq h1 hi, if_neg h, if_pos h2]
theorem keyN_last {t : Th} {i : Nat} (h1 : 1 ≤ i) (hi : i < t.sl.length) (h : ¬ (i : Int) ≤ t.arr) (h2 : ((i : Int) - fstP t) % 2 = 0) (h3 : i + 1 = t.sl.length) : keyN t i = -1 := by rw [keyN_eq h1 hi, if_neg h, if_neg (by omega), if_pos h3]
theorem keyN_key {t : Th} {i : Nat} (h1 : 1 ≤ i) (hi : i < t.sl.length) (h : ¬ (i : Int) ≤ t.arr) (h2 : ((i : Int) - fstP t) % 2 = 0) (h3 : i + 1 < t.sl.length) : keyN t i = -2 := by rw [keyN_eq h1 hi, if_neg h, if_neg (by omega), if_neg (by omega)]

/-- Where an entry begins. -/
def Bd (t : Th) (s : Nat) : Prop := 1 ≤ s ∧ ((s : Int) ≤ t.arr ∨ (fstP t ≤ (s : Int) ∧ ((s : Int) - fstP t) % 2 = 0))
theorem Bd.arr {t : Th} {s : Nat} (h : Bd t s) (ha : (s : Int) ≤ t.arr) : Bd t (s + 1) := by
  refine ⟨by omega, ?_⟩
  rcases fstP_eq t with ⟨h1, h2⟩ | ⟨h1, h2⟩
  · by_cases e : (s : Int) + 1 ≤ t.arr
    · exact .inl (by omega)
    · exact .inr ⟨by omega, by omega⟩
  · have := h.1; omega
theorem Bd.pair {t : Th} {s : Nat} (h : Bd t s) (ha : t.arr < (s : Int)) : fstP t ≤ (s : Int) ∧ ((s : Int) - fstP t) % 2 = 0 := by
  rcases h.2 with h | h
  · omega
  · exact h
theorem Bd.two {t : Th} {s : Nat} (h : Bd t s) (ha : t.arr < (s : Int)) : Bd t (s + 2) := by
  have := h.pair ha
  exact ⟨by omega, .inr ⟨by omega, by omega⟩⟩
theorem Bd.one (t : Th) : Bd t 1 := by
  refine ⟨by omega, ?_⟩
  rcases fstP_eq t with ⟨h1, h2⟩ | ⟨h1, h2⟩
  · exact .inl (by omega)
  · exact .inr ⟨by omega, by omega⟩

theorem valsF_all (t : Th) : ∀ f s, Bd t s → t.sl.length ≤ s + f → ∀ i, s ≤ i → i < t.sl.length →
    (keyN t i = -1 → (i, ((0, 0) : V)) ∈ valsF t f s) ∧ (keyN t i = (i : Int) - 1 → (i, t.sl.getD (i - 1) (0, 0)) ∈ valsF t f s) ∧ (keyN t i = -2 → i + 1 < t.sl.length ∧ (i + 1, t.sl.getD i (0, 0)) ∈ valsF t f s)
  | 0, s, hb, hf, i, hs, hi => by omega
  | f + 1, s, hb, hf, i, hs, hi => by
    have h1 := hb.1
    have hsl : s < t.sl.length := by omega
    by_cases hc : t.arr < (s : Int) ∧ s + 1 < t.sl.length
    · have e : valsF t (f + 1) s = (s + 1, t.sl.getD s (0, 0)) :: valsF t f (s + 2) := by
        show (if s < t.sl.length then (if t.arr < (s : Int) ∧ s + 1 < t.sl.length then _ else _) else _) = _
        rw [if_pos hsl, if_pos hc]
      rw [e]
      have hp := hb.pair hc.1
      by_cases e1 : i = s
      · subst e1
        have hk := keyN_key h1 hi (by omega) hp.2 hc.2
        refine ⟨fun h => by omega, fun h => by omega, fun _ => ⟨hc.2, List.mem_cons_self ..⟩⟩
      · by_cases e2 : i = s + 1
        · subst e2
          have hk := keyN_odd (t := t) (i := s + 1) (by omega) hi (by have := hc.1; omega) (by have := hp.2; omega)
          refine ⟨fun h => by omega, fun _ => ?_, fun h => by omega⟩
          rw [show s + 1 - 1 = s by omega]; exact List.mem_cons_self ..
        · obtain ⟨a, b, c⟩ := valsF_all t f (s + 2) (hb.two hc.1) (by omega) i (by omega) hi
          exact ⟨fun h => List.mem_cons_of_mem _ (a h), fun h => List.mem_cons_of_mem _ (b h), fun h => ⟨(c h).1, List.mem_cons_of_mem _ (c h).2⟩⟩
    · have e : valsF t (f + 1) s = (s, (0, 0)) :: valsF t f (s + 1) := by
        show (if s < t.sl.length then (if t.arr < (s : Int) ∧ s + 1 < t.sl.length then _ else _) else _) = _
        rw [if_pos hsl, if_neg hc]
      rw [e]
      by_cases ha : (s : Int) ≤ t.arr
      · by_cases e1 : i = s
        · subst e1
          have hk := keyN_arr h1 hi ha
          exact ⟨fun _ => List.mem_cons_self .., fun h => by omega, fun h => by omega⟩
        · obtain ⟨a, b, c⟩ := valsF_all t f (s + 1) (hb.arr ha) (by omega) i (by omega) hi
          exact ⟨fun h => List.mem_cons_of_mem _ (a h), fun h => List.mem_cons_of_mem _ (b h), fun h => ⟨(c h).1, List.mem_cons_of_mem _ (c h).2⟩⟩
      · have hl : s + 1 = t.sl.length := by omega
        have e1 : i = s := by omega
        subst e1
        have hk := keyN_last h1 hi ha (hb.pair (by omega)).2 hl
        exact ⟨fun _ => List.mem_cons_self .., fun h => by omega, fun h => by omega⟩
theorem valsF_inv (t : Th) : ∀ f s, Bd t s → ∀ p, p ∈ valsF t f s → 1 ≤ p.1 ∧ p.1 < t.sl.length ∧ ((keyN t p.1 = -1 ∧ p.2 = (0, 0)) ∨ ∃ k, p.1 = k + 1 ∧ 1 ≤ k ∧ keyN t p.1 = (k : Int) ∧ keyN t k = -2 ∧ p.2 = t.sl.getD k (0, 0))
  | 0, s, hb, p, hp => by simp [valsF] at hp
  | f + 1, s, hb, p, hp => by
    have h1 := hb.1
    by_cases hsl : s < t.sl.length
    · by_cases hc : t.arr < (s : Int) ∧ s + 1 < t.sl.length
      · have e : valsF t (f + 1) s = (s + 1, t.sl.getD s (0, 0)) :: valsF t f (s + 2) := by
          show (if s < t.sl.length then (if t.arr < (s : Int) ∧ s + 1 < t.sl.length then _ else _) else _) = _
          rw [if_pos hsl, if_pos hc]
        rw [e] at hp
        have hpr := hb.pair hc.1
        rcases List.mem_cons.1 hp with rfl | hp
        · have hk := keyN_key h1 hsl (by omega) hpr.2 hc.2
          have hk2 := keyN_odd (t := t) (i := s + 1) (by omega) hc.2 (by have := hc.1; omega) (by have := hpr.2; omega)
          exact ⟨by simp, hc.2, .inr ⟨s, rfl, h1, by rw [hk2]; simp, hk, rfl⟩⟩
        · exact valsF_inv t f (s + 2) (hb.two hc.1) p hp
      · have e : valsF t (f + 1) s = (s, (0, 0)) :: valsF t f (s + 1) := by
          show (if s < t.sl.length then (if t.arr < (s : Int) ∧ s + 1 < t.sl.length then _ else _) else _) = _
          rw [if_pos hsl, if_neg hc]
        rw [e] at hp
        by_cases ha : (s : Int) ≤ t.arr
        · rcases List.mem_cons.1 hp with rfl | hp
          · exact ⟨h1, hsl, .inl ⟨keyN_arr h1 hsl ha, rfl⟩⟩
          · exact valsF_inv t f (s + 1) (hb.arr ha) p hp
        · rcases List.mem_cons.1 hp with rfl | hp
          · exact ⟨h1, hsl, .inl ⟨keyN_last h1 hsl ha (hb.pair (by omega)).2 (by omega), rfl⟩⟩
          · exfalso
            have : valsF t f (s + 1) = [] := by
              cases f with
              | zero => rfl
              | succ f => show (if s + 1 < t.sl.length then _ else _) = _; rw [if_neg (by omega)]
            rw [this] at hp; cases hp
    · have e : valsF t (f + 1) s = [] := by show (if s < t.sl.length then _ else _) = _; rw [if_neg hsl]
      rw [e] at hp; cases hp
theorem vals_all {t : Th} {i : Nat} (h1 : 1 ≤ i) (hi : i < t.sl.length) : (keyN t i = -1 → (i, ((0, 0) : V)) ∈ vals t) ∧ (keyN t i = (i : Int) - 1 → (i, t.sl.getD (i - 1) (0, 0)) ∈ vals t) ∧ (keyN t i = -2 → i + 1 < t.sl.length ∧ (i + 1, t.sl.getD i (0, 0)) ∈ vals t) :=
  valsF_all t _ 1 (Bd.one t) (by omega) i h1 hi
theorem vals_inv {t : Th} {p : Nat × V} (hp : p ∈ vals t) : 1 ≤ p.1 ∧ p.1 < t.sl.length ∧ ((keyN t p.1 = -1 ∧ p.2 = (0, 0)) ∨ ∃ k, p.1 = k + 1 ∧ 1 ≤ k ∧ keyN t p.1 = (k : Int) ∧ keyN t k = -2 ∧ p.2 = t.sl.getD k (0, 0)) :=
  valsF_inv t _ 1 (Bd.one t) p hp

theorem obj_nil (T : List Th) : obj T (0, 0) = false := by simp [obj, oT]
theorem held_nil (T : List Th) : held T (0, 0) = false := by simp [held, obj_nil]
theorem wkN_cases (t : Th) : (isWk t = false ∧ wkN t = 0) ∨ (isWk t = true ∧ wkN t = t.weak ∧ (t.weak = 1 ∨ t.weak = 2 ∨ t.weak = 3)) := by
  unfold wkN
  cases h : isWk t with
  | false => exact .inl ⟨rfl, rfl⟩
  | true =>
    refine .inr ⟨rfl, rfl, ?_⟩
    simp only [isWk, Bool.and_eq_true, decide_eq_true_eq] at h
    omega

/-- What the document's leads tells is so. -/
theorem leads_sound {T : List Th} {R : List V} {M : List Int} {l : List Bool} (hl : ∀ i, i < T.length → l.getD i true = true → Nd T R M i) {h : Nat} (hN : Nd T R M h) (hh : h < T.length) {i : Nat} (hi : i < (thAt T h).sl.length)
    (ho : obj T ((thAt T h).sl.getD i (0, 0)) = true) (hL : leadsB T (thAt T h) i l = true) : Nd T R M (ix ((thAt T h).sl.getD i (0, 0))) := by
  generalize ht : thAt T h = t at hi ho hL
  have edge : ∀ c o, Ld T t c o → (∀ k, c = some k → Nd T R M k) → Nd T R M o := fun c o hd hk => Nd.edge h c o hN hh (ht ▸ hd) hk
  have none' : ∀ o, Ld T t none o → Nd T R M o := fun o hd => edge none o hd (fun k e => by cases e)
  have hmem : t.sl.getD i (0, 0) ∈ t.sl := by
    have : t.sl.getD i (0, 0) = t.sl[i] := by simp [List.getD, hi]
    rw [this]; exact List.getElem_mem hi
  unfold leadsB at hL
  rcases wkN_cases t with ⟨w1, w2⟩ | ⟨w1, w2, w3⟩
  · exact none' _ (Ld.plain _ w1 hmem ho)
  · rw [if_neg (by omega)] at hL
    by_cases hi0 : i = 0
    · subst hi0
      have e : t.sl.getD 0 (0, 0) = t.sl[0] := by simp [List.getD, hi]
      rw [e] at ho ⊢
      exact none' _ (Ld.meta' hi w1 ho)
    · rw [if_neg hi0] at hL
      obtain ⟨v1, v2, v3⟩ := vals_all (t := t) (i := i) (by omega) hi
      have kc := keyN_cases hi hi0
      rcases w3 with w3 | w3 | w3
      · rw [if_pos (by omega)] at hL
        by_cases k1 : keyN t i = -1
        · exact none' _ (Ld.val1 (i, (0, 0)) w1 w3 (v1 k1) (held_nil T) ho)
        · rw [if_neg k1] at hL
          rcases kc with k | k | k
          · exact absurd k k1
          · have e : kySl t i = t.sl.getD i (0, 0) := by unfold kySl; rw [if_pos k]
            rw [e] at hL
            cases hq : held T (t.sl.getD i (0, 0)) with
            | false => exact none' _ (Ld.key1 (i + 1, t.sl.getD i (0, 0)) w1 w3 (v3 k).2 hq ho)
            | true =>
              rw [hq] at hL
              exact hl _ (obj_ix ho).1 (by simpa using hL)
          · have e : kySl t i = t.sl.getD (i - 1) (0, 0) := by unfold kySl; rw [if_neg (by omega), k]; rfl
            rw [e] at hL
            have hv := v2 (by omega)
            cases hq : held T (t.sl.getD (i - 1) (0, 0)) with
            | false => exact none' _ (Ld.val1 (i, t.sl.getD (i - 1) (0, 0)) w1 w3 hv hq ho)
            | true =>
              rw [hq] at hL
              refine edge _ _ (Ld.eph (i, t.sl.getD (i - 1) (0, 0)) w1 w3 hv hq ho) (fun k' e' => ?_)
              cases e'
              exact hl _ (obj_ix (held_obj hq)).1 (by simpa using hL)
      · rw [if_neg (by omega)] at hL
        by_cases k1 : keyN t i = -2
        · exact none' _ (Ld.key2 (i + 1, t.sl.getD i (0, 0)) w1 w3 (v3 k1).2 ho)
        · rw [if_neg (fun h => k1 h.2)] at hL
          have h4 : (t.sl.getD i (0, 0)).1 = 4 := by simpa using hL
          rcases kc with k | k | k
          · exact none' _ (Ld.val2 (i, (0, 0)) w1 w3 (v1 k) h4 ho)
          · exact absurd k k1
          · exact none' _ (Ld.val2 (i, t.sl.getD (i - 1) (0, 0)) w1 w3 (v2 (by omega)) h4 ho)
      · rw [if_neg (by omega), if_neg (by omega)] at hL
        have h4 : (t.sl.getD i (0, 0)).1 = 4 := by simpa using hL
        rcases kc with k | k | k
        · exact none' _ (Ld.val3 (i, (0, 0)) w1 w3 (v1 k) h4 ho)
        · exact none' _ (Ld.key3 (i + 1, t.sl.getD i (0, 0)) w1 w3 (v3 k).2 h4 ho)
        · exact none' _ (Ld.val3 (i, t.sl.getD (i - 1) (0, 0)) w1 w3 (v2 (by omega)) h4 ho)

/-- What leads somewhere is told by the document's leads. -/
theorem leads_full {T : List Th} {t : Th} {l : List Bool} {c : Option Nat} {o : Nat} (h : Ld T t c o) (hc : ∀ k, c = some k → l.getD k true = true) :
    ∃ i, i < t.sl.length ∧ obj T (t.sl.getD i (0, 0)) = true ∧ ix (t.sl.getD i (0, 0)) = o ∧ leadsB T t i l = true := by
  have wk : ∀ {n : Int}, isWk t = true → t.weak = n → wkN t = n := fun h1 h2 => by unfold wkN; rw [if_pos h1, h2]
  -- a pair's key
  have key : ∀ {p : Nat × V}, p ∈ vals t → obj T p.2 = true → ∃ k, 1 ≤ k ∧ k < t.sl.length ∧ k ≠ 0 ∧ keyN t k = -2 ∧ p.2 = t.sl.getD k (0, 0) := fun {p} hp ho => by
    obtain ⟨h1, h2, h3⟩ := vals_inv hp
    rcases h3 with ⟨_, e⟩ | ⟨k, e1, e2, e3, e4, e5⟩
    · rw [e, obj_nil] at ho; cases ho
    · exact ⟨k, e2, by omega, by omega, e4, e5⟩
  cases h with
  | plain v h1 h2 h3 =>
    obtain ⟨i, hi, e⟩ := List.getElem_of_mem h2
    have e' : t.sl.getD i (0, 0) = v := by simp [List.getD, hi, e]
    exact ⟨i, hi, by rw [e']; exact h3, by rw [e'], by unfold leadsB; rw [if_pos (by unfold wkN; simp [h1])]⟩
  | meta' h1 h2 h3 =>
    have e' : t.sl.getD 0 (0, 0) = t.sl[0] := by simp [List.getD, h1]
    refine ⟨0, h1, by rw [e']; exact h3, by rw [e'], ?_⟩
    unfold leadsB
    split
    · rfl
    · rw [if_pos rfl]
  | key1 p h1 h2 h3 h4 h5 =>
    obtain ⟨k, a1, a2, a3, a4, a5⟩ := key h3 h5
    rw [a5] at h4 h5 ⊢
    refine ⟨k, a2, h5, rfl, ?_⟩
    unfold leadsB
    rw [if_neg (by rw [wk h1 h2]; decide), if_neg a3, if_pos (wk h1 h2), if_neg (by omega)]
    have e : kySl t k = t.sl.getD k (0, 0) := by unfold kySl; rw [if_pos a4]
    rw [e, h4]; rfl
  | val1 p h1 h2 h3 h4 h5 =>
    obtain ⟨b1, b2, b3⟩ := vals_inv h3
    refine ⟨p.1, b2, h5, rfl, ?_⟩
    unfold leadsB
    rw [if_neg (by rw [wk h1 h2]; decide), if_neg (by omega), if_pos (wk h1 h2)]
    rcases b3 with ⟨e1, e2⟩ | ⟨k, e1, e2, e3, e4, e5⟩
    · rw [if_pos e1]
    · rw [if_neg (by omega)]
      have e : kySl t p.1 = p.2 := by unfold kySl; rw [if_neg (by omega), e3, e5]; rfl
      rw [e, h4]; rfl
  | eph p h1 h2 h3 h4 h5 =>
    obtain ⟨b1, b2, b3⟩ := vals_inv h3
    refine ⟨p.1, b2, h5, rfl, ?_⟩
    unfold leadsB
    rw [if_neg (by rw [wk h1 h2]; decide), if_neg (by omega), if_pos (wk h1 h2)]
    rcases b3 with ⟨e1, e2⟩ | ⟨k, e1, e2, e3, e4, e5⟩
    · rw [if_pos e1]
    · rw [if_neg (by omega)]
      have e : kySl t p.1 = p.2 := by unfold kySl; rw [if_neg (by omega), e3, e5]; rfl
      rw [e, h4, hc _ rfl]; rfl
  | key2 p h1 h2 h3 h5 =>
    obtain ⟨k, a1, a2, a3, a4, a5⟩ := key h3 h5
    rw [a5] at h5 ⊢
    refine ⟨k, a2, h5, rfl, ?_⟩
    unfold leadsB
    rw [if_neg (by rw [wk h1 h2]; decide), if_neg a3, if_neg (by rw [wk h1 h2]; decide), if_pos ⟨wk h1 h2, a4⟩]
  | val2 p h1 h2 h3 h4 h5 =>
    obtain ⟨b1, b2, b3⟩ := vals_inv h3
    refine ⟨p.1, b2, h5, rfl, ?_⟩
    unfold leadsB
    rw [if_neg (by rw [wk h1 h2]; decide), if_neg (by omega), if_neg (by rw [wk h1 h2]; decide)]
    split
    · rfl
    · simpa using h4
  | key3 p h1 h2 h3 h4 h5 =>
    obtain ⟨k, a1, a2, a3, a4, a5⟩ := key h3 h5
    rw [a5] at h4 h5 ⊢
    refine ⟨k, a2, h5, rfl, ?_⟩
    unfold leadsB
    rw [if_neg (by rw [wk h1 h2]; decide), if_neg a3, if_neg (by rw [wk h1 h2]; decide)]
    split
    · rfl
    · simpa using h4
  | val3 p h1 h2 h3 h4 h5 =>
    obtain ⟨b1, b2, b3⟩ := vals_inv h3
    refine ⟨p.1, b2, h5, rfl, ?_⟩
    unfold leadsB
    rw [if_neg (by rw [wk h1 h2]; decide), if_neg (by omega), if_neg (by rw [wk h1 h2]; decide)]
    split
    · rfl
    · simpa using h4

/-- Nothing more is found at these places. -/
def ClAt (T : List Th) (l : List Bool) (h i : Nat) : Prop := l.getD h true = true → i < (thAt T h).sl.length → obj T ((thAt T h).sl.getD i (0, 0)) = true → l.getD (ix ((thAt T h).sl.getD i (0, 0))) true = true ∨ leadsB T (thAt T h) i l = false
theorem closed_all {T : List Th} {R : List V} {M : List Int} {l : List Bool} (hR : ∀ v ∈ R, obj T v = true → l.getD (ix v) true = true) (hM : ∀ x ∈ M, 1 ≤ x → x ≤ (T.length : Int) → l.getD (x.toNat - 1) true = true)
    (hC : ∀ h, h < T.length → ∀ i, ClAt T l h i) {o : Nat} (hN : Nd T R M o) : l.getD o true = true := by
  induction hN with
  | root v hv ho => exact hR v hv ho
  | more x hx h1 h2 => exact hM x hx h1 h2
  | edge i c o hi hl hd hk ih ihk =>
    obtain ⟨j, a1, a2, a3, a4⟩ := leads_full hd ihk
    rcases hC i hl j ih a1 a2 with h | h
    · rw [← a3]; exact h
    · rw [a4] at h; cases h
/-- What the document's Strong finds is what is needed. -/
theorem strong_eq {T : List Th} {R : List V} {M : List Int} {l : List Bool} (hlen : l.length = T.length) (hs : ∀ i, i < T.length → l.getD i true = true → Nd T R M i) (hf : ∀ i, i < T.length → Nd T R M i → l.getD i true = true) : l = strong T R M := by
  have hl2 := strong_len T R M
  apply List.ext_getElem (by omega)
  intro i h1 h2
  have e1 : l.getD i true = l[i] := by simp [List.getD, h1]
  have e2 : (strong T R M).getD i true = (strong T R M)[i] := by simp [List.getD, h2]
  have := strong_iff T R M i (by omega)
  rw [← e1, ← e2]
  cases hq : l.getD i true with
  | true => exact (this.2 (hs i (by omega) hq)).symm
  | false =>
    cases hr : (strong T R M).getD i true with
    | false => rfl
    | true => have := hf i (by omega) (this.1 hr); rw [hq] at this; cases this
end Go.Proofs.Ytnofmpbdfcolfaa
