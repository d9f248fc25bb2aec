/- What a collection finds: plain facts. -/
import Derived.Test.YtnofmpbdfcolfaaX4
namespace Go.Proofs.Ytnofmpbdfcolfaa
open Go.RowKit Go.Shelf
set_option linter.unusedSimpArgs false
set_option linter.unusedVariables false

theorem getD_tf {l : List Bool} {i : Nat} (h : i < l.length) (a b : Bool) : l.getD i a = l.getD i b := by simp [List.getD, h]
theorem Pd.mem {T : List Th} {F : List Bool} {D : List Nat} (h : Pd T F D) {i : Nat} : i ∈ D ↔ i < T.length ∧ 0 < (thAt T i).fin ∧ F.getD i true = false := by
  rw [h.perm.mem_iff]
  simp [finL, finB]
theorem Pd.nodup {T : List Th} {F : List Bool} {D : List Nat} (h : Pd T F D) : D.Nodup := h.perm.nodup_iff.2 ((List.nodup_range).filter _)
/-- Of two with a Fin that is not another one's the one that was marked later comes first. -/
theorem Pd.falls {T : List Th} {F : List Bool} {D : List Nat} (h : Pd T F D) (hO : ∀ h, h < T.length → okH T h) {k : Nat} (hk : k + 1 < D.length) : (thAt T D[k + 1]).fin < (thAt T D[k]).fin := by
  have h1 := (List.pairwise_iff_getElem.1 h.srt) k (k + 1) (by omega) hk (by omega)
  have h2 := (List.pairwise_iff_getElem.1 h.nodup) k (k + 1) (by omega) hk (by omega)
  have m1 := h.mem.1 (List.getElem_mem (by omega : k < D.length))
  have m2 := h.mem.1 (List.getElem_mem hk)
  generalize D[k] = x at *
  generalize D[k + 1] = y at *
  unfold bef at h1
  rcases Nat.lt_or_gt_of_ne h2 with hl | hl
  · omega
  · rcases Int.lt_trichotomy (thAt T y).fin (thAt T x).fin with q | q | q
    · exact q
    · have := (hO x m1.1).2.2 y hl
      simp [twB, m1.2.1, q] at this
    · omega
theorem Pd.one {T : List Th} {F : List Bool} {D D' : List Nat} (h : Pd T F D) (h' : Pd T F D') : D = D' := by
  refine List.Perm.eq_of_pairwise (le := fun i j => ¬ bef T j i) ?_ h.srt h'.srt (h.perm.trans h'.perm.symm)
  intro a b _ _ h1 h2
  unfold bef at h1 h2
  omega

theorem clrTo_mem {T : List Th} {F L : List Bool} {x : V} : ∀ {n : Nat}, x ∈ clrTo T F L n ↔ ∃ h, h < n ∧ L.getD h false = true ∧ isWk (thAt T h) = true ∧ ∃ p, p ∈ vals (thAt T h) ∧ clrAt T (if F.getD h false then F else L) L (thAt T h) p = true ∧ x = ((h : Int) + 1, (p.1 : Int))
  | 0 => by simp [clrTo]
  | n + 1 => by
    rw [clrTo, List.mem_append, clrTo_mem]
    constructor
    · rintro (⟨h, h1, h2⟩ | hx)
      · exact ⟨h, by omega, h2⟩
      · refine ⟨n, by omega, ?_⟩
        unfold clrOf at hx
        split at hx
        · rename_i hb
          simp only [Bool.and_eq_true] at hb
          unfold clrJ at hx
          rw [List.take_length] at hx
          obtain ⟨p, hp, rfl⟩ := List.mem_map.1 hx
          exact ⟨hb.1, hb.2, p, (List.mem_filter.1 hp).1, (List.mem_filter.1 hp).2, rfl⟩
        · cases hx
    · rintro ⟨h, h1, h2, h3, p, h4, h5, rfl⟩
      by_cases e : h = n
      · subst e
        refine .inr ?_
        unfold clrOf
        rw [h2, h3, Bool.and_self, if_pos rfl]
        unfold clrJ
        rw [List.take_length]
        exact List.mem_map.2 ⟨p, List.mem_filter.2 ⟨h4, h5⟩, rfl⟩
      · exact .inl ⟨h, by omega, h2, h3, p, h4, h5, rfl⟩

/-- Entries by their handles, then their slots. -/
def lexV (a b : V) : Prop := a.1 < b.1 ∨ (a.1 = b.1 ∧ a.2 < b.2)
theorem valsF_ge (t : Th) : ∀ f s p, p ∈ valsF t f s → s ≤ p.1
  | 0, _, p, h => by simp [valsF] at h
  | f + 1, s, p, h => by
    unfold valsF at h
    split at h
    · split at h
      · rcases List.mem_cons.1 h with rfl | h
        · simp
        · have := valsF_ge t f _ p h; omega
      · rcases List.mem_cons.1 h with rfl | h
        · simp
        · have := valsF_ge t f _ p h; omega
    · cases h
theorem valsF_up (t : Th) : ∀ f s, (valsF t f s).Pairwise (fun p q => p.1 < q.1)
  | 0, _ => by simp [valsF]
  | f + 1, s => by
    unfold valsF
    split
    · split
      · exact List.pairwise_cons.2 ⟨fun q hq => by have := valsF_ge t f _ q hq; simp; omega, valsF_up t f _⟩
      · exact List.pairwise_cons.2 ⟨fun q hq => by have := valsF_ge t f _ q hq; simp; omega, valsF_up t f _⟩
    · simp
theorem vals_up (t : Th) : (vals t).Pairwise (fun p q => p.1 < q.1) := valsF_up t _ _
theorem clrOf_up (T : List Th) (F L : List Bool) (n : Nat) : (clrOf T F L n).Pairwise lexV := by
  unfold clrOf
  split
  · unfold clrJ
    rw [List.take_length, List.pairwise_map]
    refine List.Pairwise.imp (fun h => ?_) ((vals_up _).filter _)
    exact .inr ⟨rfl, by simpa using h⟩
  · simp
theorem clrTo_up (T : List Th) (F L : List Bool) : ∀ n, (clrTo T F L n).Pairwise lexV
  | 0 => by simp [clrTo]
  | n + 1 => by
    rw [clrTo, List.pairwise_append]
    refine ⟨clrTo_up T F L n, clrOf_up T F L n, fun a ha b hb => ?_⟩
    obtain ⟨h, h1, _, _, p, _, _, rfl⟩ := clrTo_mem.1 ha
    have : b.1 = (n : Int) + 1 := by
      unfold clrOf at hb
      split at hb
      · unfold clrJ at hb
        obtain ⟨p, _, rfl⟩ := List.mem_map.1 hb; rfl
      · cases hb
    exact .inl (by simp only; omega)

/-- First is within live. -/
theorem first_live {T : List Th} {R : List V} {M : List Int} {i : Nat} (hi : i < T.length) (h : (strong T R M).getD i true = false) : (strong T R []).getD i true = false := by
  cases hq : (strong T R []).getD i true with
  | false => rfl
  | true => have := strong_more (R := R) (R' := R) (M := []) (M' := M) (fun _ h => h) (fun _ h => by cases h) i hi hq; rw [h] at this; cases this

theorem held_lt {T : List Th} {v : V} (h : held T v = true) : ix v < T.length ∧ 1 ≤ v.2 ∧ v.2 ≤ (T.length : Int) := obj_ix (held_obj h)

/-- What is told of an entry that goes. -/
theorem clr_told {T : List Th} {R : List V} {M : List Int} {x : V} (hx : x ∈ clrTo T (strong T R []) (strong T R M) T.length) :
    ∃ h i : Nat, h < T.length ∧ x = ((h : Int) + 1, (i : Int)) ∧ isWk (thAt T h) = true ∧ 1 ≤ i ∧ i < (thAt T h).sl.length ∧ keyN (thAt T h) i ≠ -2 ∧
      ((2 ≤ (thAt T h).weak ∧ held T ((thAt T h).sl.getD i (0, 0)) = true ∧ (strong T R []).getD (ix ((thAt T h).sl.getD i (0, 0))) true = false) ∨
       ((thAt T h).weak ≠ 2 ∧ ∃ k : Nat, keyN (thAt T h) i = (k : Int) ∧ k < (thAt T h).sl.length ∧ held T ((thAt T h).sl.getD k (0, 0)) = true ∧ (strong T R []).getD (ix ((thAt T h).sl.getD k (0, 0))) true = false)) := by
  obtain ⟨h, h1, h2, h3, p, h4, h5, rfl⟩ := clrTo_mem.1 hx
  obtain ⟨a1, a2, a3⟩ := vals_inv h4
  refine ⟨h, p.1, h1, rfl, h3, a1, a2, ?_, ?_⟩
  · rcases a3 with ⟨e, _⟩ | ⟨k, _, _, e, _⟩ <;> omega
  · unfold clrAt at h5
    rw [Bool.or_eq_true] at h5
    rcases h5 with h5 | h5
    · simp only [lostB, Bool.and_eq_true, decide_eq_true_eq, Bool.not_eq_true'] at h5
      obtain ⟨b1, b2, b3⟩ := h5
      refine .inl ⟨b1, b2, ?_⟩
      change (if _ then _ else _ : List Bool).getD (ix _) true = false at b3
      split at b3
      · exact b3
      · exact first_live (held_lt b2).1 b3
    · simp only [lostB, Bool.and_eq_true, decide_eq_true_eq, Bool.not_eq_true', decide_eq_false_iff_not] at h5
      obtain ⟨b1, b2, b3⟩ := h5
      refine .inr ⟨b1, ?_⟩
      rcases a3 with ⟨_, e⟩ | ⟨k, e1, e2, e3, e4, e5⟩
      · rw [e, held_nil] at b2; cases b2
      · refine ⟨k, e3, by omega, by rw [← e5]; exact b2, ?_⟩
        rw [← e5]; exact first_live (held_lt b2).1 b3

/-- A slot of what lives that leads to what does not is cleared, or the key beside one that is. -/
theorem closed_slot {T : List Th} {R : List V} {M : List Int} {h i : Nat} (hh : h < T.length) (hl : (strong T R M).getD h true = true) (hi : i < (thAt T h).sl.length) (ho : obj T ((thAt T h).sl.getD i (0, 0)) = true) (hd : (strong T R M).getD (ix ((thAt T h).sl.getD i (0, 0))) true = false) :
    ((h : Int) + 1, (i : Int)) ∈ clrTo T (strong T R []) (strong T R M) T.length ∨ (0 < (thAt T h).weak ∧ ((h : Int) + 1, (i : Int) + 1) ∈ clrTo T (strong T R []) (strong T R M) T.length ∧ keyN (thAt T h) (i + 1) = (i : Int) ∧ i + 1 < (thAt T h).sl.length) := by
  have hL : leadsB T (thAt T h) i (strong T R M) = false := by
    cases hq : leadsB T (thAt T h) i (strong T R M) with
    | false => rfl
    | true =>
      have := leads_sound (fun i hi h => (strong_iff T R M i hi).1 h) ((strong_iff T R M h hh).1 hl) hh hi ho hq
      rw [(strong_iff T R M _ (obj_ix ho).1).2 this] at hd; cases hd
  have hlf : (strong T R M).getD h false = true := by rw [getD_tf (by rw [strong_len]; exact hh) false true]; exact hl
  have hin : ∀ p, p ∈ vals (thAt T h) → isWk (thAt T h) = true → clrAt T (if (strong T R []).getD h false then strong T R [] else strong T R M) (strong T R M) (thAt T h) p = true → ((h : Int) + 1, (p.1 : Int)) ∈ clrTo T (strong T R []) (strong T R M) T.length := fun p hp hw hc => clrTo_mem.2 ⟨h, hh, hlf, hw, p, hp, hc, rfl⟩
  generalize thAt T h = t at *
  have hsv : ∀ v, held T v = true → (strong T R M).getD (ix v) true = false → (if (strong T R []).getD h false then strong T R [] else strong T R M).getD (ix v) true = false := fun v hv hq => by
    split
    · exact first_live (held_lt hv).1 hq
    · exact hq
  have cV : ∀ p : Nat × V, 2 ≤ t.weak → held T (t.sl.getD p.1 (0, 0)) = true → (strong T R M).getD (ix (t.sl.getD p.1 (0, 0))) true = false → clrAt T (if (strong T R []).getD h false then strong T R [] else strong T R M) (strong T R M) t p = true := fun p h1 h2 h3 => by
    have h4 := hsv _ h2 h3
    unfold ix at h4
    simp only [clrAt, lostB, h1, h2, h4, decide_true, Bool.not_false, Bool.and_self, Bool.true_or]
  have cK : ∀ p : Nat × V, t.weak ≠ 2 → held T p.2 = true → (strong T R M).getD (ix p.2) true = false → clrAt T (if (strong T R []).getD h false then strong T R [] else strong T R M) (strong T R M) t p = true := fun p h1 h2 h3 => by
    unfold ix at h3
    simp only [clrAt, lostB, h1, h2, h3, decide_false, Bool.not_false, Bool.and_self, Bool.or_true]
  rcases wkN_cases t with ⟨_, e⟩ | ⟨hw, e, hwk⟩
  · unfold leadsB at hL; rw [if_pos e] at hL; cases hL
  · have hi0 : i ≠ 0 := fun e0 => by unfold leadsB at hL; rw [if_neg (by omega), if_pos e0] at hL; cases hL
    obtain ⟨v1, v2, v3⟩ := vals_all (t := t) (i := i) (by omega) hi
    have hkc := keyN_cases hi hi0
    rcases hwk with hwk | hwk | hwk
    · -- weak keys
      unfold leadsB at hL
      rw [if_neg (by omega), if_neg hi0, if_pos (by omega)] at hL
      by_cases hk1 : keyN t i = -1
      · rw [if_pos hk1] at hL; cases hL
      · rw [if_neg hk1] at hL
        simp only [Bool.or_eq_false_iff, Bool.not_eq_false'] at hL
        obtain ⟨b1, b2⟩ := hL
        unfold kySl at b1 b2
        by_cases hk2 : keyN t i = -2
        · rw [if_pos hk2] at b1 b2
          obtain ⟨c1, c2⟩ := v3 hk2
          refine .inr ⟨by omega, ?_, ?_, c1⟩
          · have := hin _ c2 hw (cK _ (by omega) b1 b2)
            simpa using this
          · obtain ⟨_, _, ⟨_, d⟩ | ⟨k, d1, d2, d3, _⟩⟩ := vals_inv c2
            · simp only at d; rw [d, held_nil] at b1; cases b1
            · simp only at d1 d3; rw [d3]; omega
        · rw [if_neg hk2] at b1 b2
          have hk3 : keyN t i = (i : Int) - 1 := by omega
          refine .inl (hin _ (v2 hk3) hw (cK _ (by omega) ?_ ?_))
          · rw [hk3] at b1; rw [show ((i : Int) - 1).toNat = i - 1 by omega] at b1; exact b1
          · rw [hk3] at b2; rw [show ((i : Int) - 1).toNat = i - 1 by omega] at b2; exact b2
    · -- weak values
      unfold leadsB at hL
      rw [if_neg (by omega), if_neg hi0, if_neg (by omega)] at hL
      by_cases hk2 : keyN t i = -2
      · rw [if_pos ⟨by omega, hk2⟩] at hL; cases hL
      · rw [if_neg (fun h => hk2 h.2)] at hL
        have hh4 : held T (t.sl.getD i (0, 0)) = true := by simp only [held, ho, Bool.and_true, Bool.not_eq_true']; exact hL
        by_cases hk1 : keyN t i = -1
        · exact .inl (hin _ (v1 hk1) hw (cV _ (by omega) hh4 hd))
        · exact .inl (hin _ (v2 (by omega)) hw (cV _ (by omega) hh4 hd))
    · -- both
      unfold leadsB at hL
      rw [if_neg (by omega), if_neg hi0, if_neg (by omega), if_neg (by omega)] at hL
      have hh4 : held T (t.sl.getD i (0, 0)) = true := by simp only [held, ho, Bool.and_true, Bool.not_eq_true']; exact hL
      by_cases hk2 : keyN t i = -2
      · obtain ⟨c1, c2⟩ := v3 hk2
        refine .inr ⟨by omega, ?_, ?_, c1⟩
        · have := hin _ c2 hw (cK _ (by omega) hh4 hd)
          simpa using this
        · obtain ⟨_, _, ⟨_, d⟩ | ⟨k, d1, d2, d3, _⟩⟩ := vals_inv c2
          · simp only at d; rw [d, held_nil] at hh4; cases hh4
          · simp only at d1 d3; rw [d3]; omega
      · by_cases hk1 : keyN t i = -1
        · exact .inl (hin _ (v1 hk1) hw (cV _ (by omega) hh4 hd))
        · exact .inl (hin _ (v2 (by omega)) hw (cV _ (by omega) hh4 hd))
end Go.Proofs.Ytnofmpbdfcolfaa
