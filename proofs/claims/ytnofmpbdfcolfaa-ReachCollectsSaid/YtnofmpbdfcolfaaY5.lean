/- The document's collection: plain facts. -/
import Derived.Test.YtnofmpbdfcolfaaY2
namespace Go.Proofs.Ytnofmpbdfcolfaa
open Go.RowKit Go.Shelf
set_option linter.unusedSimpArgs false
set_option linter.unusedVariables false

/-- Does the value in a slot go? -/
def dV (T : List Th) (F L : List Bool) (h i : Nat) : Bool :=
  decide (2 ≤ wkN (thAt T h)) && (held T ((thAt T h).sl.getD i (0, 0)) && (!L.getD (ix ((thAt T h).sl.getD i (0, 0))) true || (F.getD h true && !F.getD (ix ((thAt T h).sl.getD i (0, 0))) true)))
/-- Does its key? -/
def dK (T : List Th) (L : List Bool) (h i : Nat) : Bool :=
  decide (¬ wkN (thAt T h) = 2) && (decide (0 ≤ keyN (thAt T h) i) && (held T ((thAt T h).sl.getD (keyN (thAt T h) i).toNat (0, 0)) && !L.getD (ix ((thAt T h).sl.getD (keyN (thAt T h) i).toNat (0, 0))) true))
/-- Is an entry cleared by the document? -/
def dG (T : List Th) (F L : List Bool) (h i : Nat) : Bool := decide (1 ≤ i) && (decide (¬ keyN (thAt T h) i = -2) && (dV T F L h i || dK T L h i))
/-- The entries of the first slots that go. -/
def dJ (T : List Th) (F L : List Bool) (h j : Nat) : List V := ((List.range j).filter (dG T F L h)).map fun (i : Nat) => ((h : Int) + 1, (i : Int))
theorem dJ_yes {T : List Th} {F L : List Bool} {h j : Nat} (hq : dG T F L h j = true) : dJ T F L h (j + 1) = dJ T F L h j ++ [((h : Int) + 1, (j : Int))] := by simp [dJ, List.range_succ, hq]
theorem dJ_no {T : List Th} {F L : List Bool} {h j : Nat} (hq : dG T F L h j = false) : dJ T F L h (j + 1) = dJ T F L h j := by simp [dJ, List.range_succ, hq]
theorem dJ_one (T : List Th) (F L : List Bool) (h : Nat) : dJ T F L h 1 = [] := by simp [dJ, dG, List.range_succ]
theorem dJ_len (T : List Th) (F L : List Bool) (h j : Nat) : (dJ T F L h j).length ≤ j := by
  have := List.length_filter_le (dG T F L h) (List.range j)
  simpa [dJ] using this

theorem clrOf_doc {T : List Th} {R : List V} {M : List Int} {h : Nat} (hh : h < T.length) (hl : (strong T R M).getD h true = true) (hw : isWk (thAt T h) = true) :
    clrOf T (strong T R []) (strong T R M) h = dJ T (strong T R []) (strong T R M) h (thAt T h).sl.length := by
  have hlf : (strong T R M).getD h false = true := by rw [getD_tf (by rw [strong_len]; exact hh) false true]; exact hl
  have hff : (strong T R []).getD h false = (strong T R []).getD h true := getD_tf (by rw [strong_len]; exact hh) false true
  unfold clrOf dJ clrJ
  rw [hlf, hw, Bool.and_self, if_pos rfl, List.take_length, hff]
  have key : ∀ i, i ∈ ((vals (thAt T h)).filter (clrAt T (if (strong T R []).getD h true then strong T R [] else strong T R M) (strong T R M) (thAt T h))).map Prod.fst ↔ i ∈ (List.range (thAt T h).sl.length).filter (dG T (strong T R []) (strong T R M) h) := by
    intro i
    have hwk : wkN (thAt T h) = (thAt T h).weak := by unfold wkN; rw [if_pos hw]
    have hv : ∀ v, held T v = true → ((if (strong T R []).getD h true then strong T R [] else strong T R M).getD (v.2.toNat - 1) true = false ↔ ((strong T R M).getD (ix v) true = false ∨ ((strong T R []).getD h true = true ∧ (strong T R []).getD (ix v) true = false))) := fun v hv => by
      change (if _ then _ else _ : List Bool).getD (ix v) true = false ↔ _
      cases hq : (strong T R []).getD h true
      · simp
      · simp only [if_true, true_and]
        constructor
        · exact .inr
        · rintro (h1 | h1)
          · exact first_live (held_lt hv).1 h1
          · exact h1
    have hC : ∀ p : Nat × V, clrAt T (if (strong T R []).getD h true then strong T R [] else strong T R M) (strong T R M) (thAt T h) p = true ↔
        (2 ≤ (thAt T h).weak ∧ held T ((thAt T h).sl.getD p.1 (0, 0)) = true ∧ ((strong T R M).getD (ix ((thAt T h).sl.getD p.1 (0, 0))) true = false ∨ ((strong T R []).getD h true = true ∧ (strong T R []).getD (ix ((thAt T h).sl.getD p.1 (0, 0))) true = false))) ∨
        (¬ (thAt T h).weak = 2 ∧ held T p.2 = true ∧ (strong T R M).getD (ix p.2) true = false) := fun p => by
      simp only [clrAt, lostB, Bool.or_eq_true, Bool.and_eq_true, decide_eq_true_eq, Bool.not_eq_true', decide_eq_false_iff_not]
      constructor
      · rintro (⟨a, b, c⟩ | ⟨a, b, c⟩)
        · exact .inl ⟨a, b, (hv _ b).1 c⟩
        · exact .inr ⟨a, b, c⟩
      · rintro (⟨a, b, c⟩ | ⟨a, b, c⟩)
        · exact .inl ⟨a, b, (hv _ b).2 c⟩
        · exact .inr ⟨a, b, c⟩
    have hD : dG T (strong T R []) (strong T R M) h i = true ↔ 1 ≤ i ∧ ¬ keyN (thAt T h) i = -2 ∧
        ((2 ≤ (thAt T h).weak ∧ held T ((thAt T h).sl.getD i (0, 0)) = true ∧ ((strong T R M).getD (ix ((thAt T h).sl.getD i (0, 0))) true = false ∨ ((strong T R []).getD h true = true ∧ (strong T R []).getD (ix ((thAt T h).sl.getD i (0, 0))) true = false))) ∨
        (¬ (thAt T h).weak = 2 ∧ 0 ≤ keyN (thAt T h) i ∧ held T ((thAt T h).sl.getD (keyN (thAt T h) i).toNat (0, 0)) = true ∧ (strong T R M).getD (ix ((thAt T h).sl.getD (keyN (thAt T h) i).toNat (0, 0))) true = false)) := by
      simp only [dG, dV, dK, hwk, Bool.or_eq_true, Bool.and_eq_true, decide_eq_true_eq, Bool.not_eq_true']
    rw [List.mem_filter, List.mem_range, hD, List.mem_map]
    constructor
    · rintro ⟨p, hp, rfl⟩
      obtain ⟨hp1, hp2⟩ := List.mem_filter.1 hp
      obtain ⟨a1, a2, a3⟩ := vals_inv hp1
      refine ⟨a2, a1, by rcases a3 with ⟨e, _⟩ | ⟨k, _, _, e, _⟩ <;> omega, ?_⟩
      rcases (hC p).1 hp2 with h1 | ⟨h1, h2, h3⟩
      · exact .inl h1
      · refine .inr ⟨h1, ?_⟩
        rcases a3 with ⟨_, e⟩ | ⟨k, e1, e2, e3, e4, e5⟩
        · rw [e, held_nil] at h2; cases h2
        · rw [e3, Int.toNat_natCast, ← e5]
          exact ⟨by omega, h2, h3⟩
    · rintro ⟨hi, h1, h2, h3⟩
      obtain ⟨v1, v2, v3⟩ := vals_all (t := thAt T h) (i := i) h1 hi
      rcases keyN_cases hi (by omega : i ≠ 0) with hq | hq | hq
      · refine ⟨(i, (0, 0)), List.mem_filter.2 ⟨v1 hq, (hC _).2 ?_⟩, rfl⟩
        rcases h3 with h3 | ⟨a, b, c⟩
        · exact .inl h3
        · omega
      · exact absurd hq h2
      · refine ⟨(i, (thAt T h).sl.getD (i - 1) (0, 0)), List.mem_filter.2 ⟨v2 (by omega), (hC _).2 ?_⟩, rfl⟩
        rcases h3 with h3 | ⟨a, b, c⟩
        · exact .inl h3
        · rw [hq, Int.toNat_natCast] at c
          exact .inr ⟨a, c⟩
  have hs1 : (((vals (thAt T h)).filter (clrAt T (if (strong T R []).getD h true then strong T R [] else strong T R M) (strong T R M) (thAt T h))).map Prod.fst).Pairwise (· < ·) := by
    rw [List.pairwise_map]; exact (vals_up _).filter _
  have hs2 : ((List.range (thAt T h).sl.length).filter (dG T (strong T R []) (strong T R M) h)).Pairwise (· < ·) := (List.pairwise_lt_range).filter _
  have he := List.Perm.eq_of_pairwise (le := (· < ·)) (fun a b _ _ h1 h2 => by omega) hs1 hs2 ((List.perm_ext_iff_of_nodup (hs1.imp (fun h => by omega)) (hs2.imp (fun h => by omega))).2 key)
  rw [← he, List.map_map]
  rfl
theorem clrOf_none {T : List Th} {F L : List Bool} {h : Nat} (hq : (L.getD h false && isWk (thAt T h)) = false) : clrOf T F L h = [] := by unfold clrOf; rw [hq]; rfl

/-- A list with the newest one somewhere: all that lie behind it have a lesser Fin. -/
structure Ins (T : List Th) (D : List Nat) (x : Nat) (A B : List Nat) : Prop where
  eq : A ++ B = D
  lt : ∀ b ∈ B, (thAt T b).fin < (thAt T x).fin
theorem Ins.sorted {T : List Th} {D A B : List Nat} {x : Nat} (h : Ins T D x A B) (hs : D.Pairwise (fun i j => ¬ bef T j i)) (hx : ∀ d ∈ D, x < d) (hA : A = [] ∨ ∃ a A', A = A' ++ [a] ∧ ¬ (thAt T a).fin < (thAt T x).fin) : (A ++ x :: B).Pairwise (fun i j => ¬ bef T j i) := by
  obtain ⟨rfl, hl⟩ := h
  rw [List.pairwise_append] at hs ⊢
  obtain ⟨h1, h2, h3⟩ := hs
  refine ⟨h1, List.pairwise_cons.2 ⟨fun b hb => ?_, h2⟩, fun a ha y hy => ?_⟩
  · have := hl b hb; unfold bef; omega
  · rcases List.mem_cons.1 hy with rfl | hy
    · have hxa := hx a (List.mem_append.2 (.inl ha))
      rcases hA with rfl | ⟨a', A', rfl, ha'⟩
      · cases ha
      · have : ¬ (thAt T a).fin < (thAt T y).fin := by
          rcases List.mem_append.1 ha with h | h
          · have := (List.pairwise_append.1 h1).2.2 a h a' (by simp)
            unfold bef at this; omega
          · simp at h; rw [h]; exact ha'
        unfold bef; omega
    · exact h3 a ha y hy
end Go.Proofs.Ytnofmpbdfcolfaa
