/- Plain facts for ArenaTight: where blocks lie behind a compaction. -/
import Derived.Test.YtdaklohfecinjaaP3
namespace Go.Proofs.Ytdaklohfecinjaa
open Go.RowKit Go.Maps Go.Sort Go.Shelf
set_option linter.unusedSimpArgs false
set_option linter.unusedVariables false

/-- The block at a place of the order of addresses. -/
def gA (hb : List (Nat × Nd)) (p : Nat) : Nat × Nd := hb.getD p (0, ⟨0, 0, 0⟩)
/-- Where it lies behind a compaction. -/
def nA (hb : List (Nat × Nd)) (p : Nat) : Nat := sumS ((hb.map Prod.snd).take p)

theorem gA_at {hb : List (Nat × Nd)} {p : Nat} (hp : p < hb.length) : gA hb p = hb[p] := by simp [gA, List.getD, List.getElem?_eq_getElem hp]
theorem gA_range (hb : List (Nat × Nd)) : (List.range hb.length).map (gA hb) = hb := by
  apply List.ext_getElem
  · simp
  · intro i h1 h2
    simp only [List.getElem_map, List.getElem_range]
    exact gA_at h2

/-- The places of the blocks, by rising handles. -/
theorem places (hb : List (Nat × Nd)) : ∃ ps : List Nat, ps.Perm (List.range hb.length) ∧ hs (ps.map (gA hb)) = hsS hb := by
  let le : Nat → Nat → Bool := fun a b => decide ((gA hb a).1 ≤ (gA hb b).1)
  have tr : ∀ a b c, le a b = true → le b c = true → le a c = true := fun a b c h1 h2 => by simp only [le, decide_eq_true_eq] at *; omega
  have to : ∀ a b, (le a b || le b a) = true := fun a b => by simp only [le, Bool.or_eq_true, decide_eq_true_eq]; omega
  have hp := List.mergeSort_perm (List.range hb.length) le
  have hw := List.pairwise_mergeSort tr to (List.range hb.length)
  refine ⟨_, hp, ?_⟩
  have h1 : (hs (((List.range hb.length).mergeSort le).map (gA hb))).Perm (hs hb) := by
    have := (hp.map (gA hb)).map (fun x : Nat × Nd => (x.1 : Int))
    rw [gA_range] at this; exact this
  have h2 : hsS hb = (hs (((List.range hb.length).mergeSort le).map (gA hb))).mergeSort fun x y => decide (x ≤ y) := (mergeSort_of_perm_i h1).symm
  rw [h2]
  refine (List.mergeSort_of_pairwise ?_).symm
  unfold hs
  rw [List.pairwise_map, List.pairwise_map]
  refine hw.imp (fun {a b} h => ?_)
  simp only [le, decide_eq_true_eq] at h ⊢
  omega

theorem nA_succ {hb : List (Nat × Nd)} {p : Nat} (hp : p < hb.length) : nA hb (p + 1) = nA hb p + (gA hb p).2.s := by
  unfold nA
  rw [sumS_map_take hp, gA_at hp]
theorem nA_le {hb : List (Nat × Nd)} {p : Nat} : ∀ {q : Nat}, p ≤ q → q ≤ hb.length → nA hb p ≤ nA hb q
  | 0, h, _ => by have : p = 0 := by omega
                  subst this; exact Nat.le_refl _
  | q + 1, h, hq => by
    rcases Nat.lt_or_ge q p with h1 | h1
    · have : p = q + 1 := by omega
      subst this; exact Nat.le_refl _
    · rw [nA_succ (by omega)]
      have := nA_le (hb := hb) (p := p) h1 (by omega)
      omega
theorem nA_lt {hb : List (Nat × Nd)} (hpos : ∀ x ∈ hb, 1 ≤ x.2.s ∧ 1 ≤ x.1) {p q : Nat} (hq : q < hb.length) (h : p < q) : nA hb p < nA hb q := by
  have h1 := nA_succ (hb := hb) (p := p) (by omega)
  have h2 := nA_le (hb := hb) (p := p + 1) (q := q) (by omega) (by omega)
  have h3 := (hpos (gA hb p) (by rw [gA_at (by omega)]; exact List.getElem_mem _)).1
  omega

/-- The order stays. -/
theorem order_stays {w : World} {A C M F f size least n : Nat} {cs : List Int} {hb : List (Nat × Nd)} (h : Rp w A C M F f size least n cs hb) {p q : Nat} (hp : p < hb.length) (hq : q < hb.length) :
    (gA hb p).2.a < (gA hb q).2.a ↔ nA hb p < nA hb q := by
  have key : ∀ {i j : Nat}, i < j → j < hb.length → (gA hb i).2.a < (gA hb j).2.a := fun {i j} hij hj => by
    have h1 := h.geo.pair (i + 1) (j + 1) (by omega) (by simp [nodes]; omega)
    have e1 : (nodes F hb)[i + 1]'(by simp [nodes]; omega) = hb[i].2 := by simp [nodes]
    have e2 : (nodes F hb)[j + 1]'(by simp [nodes]; omega) = hb[j].2 := by simp [nodes]
    rw [e1, e2] at h1
    rw [gA_at (by omega), gA_at hj]
    have h3 := (h.pos hb[i] (List.getElem_mem _)).1
    omega
  rcases Nat.lt_trichotomy p q with e | e | e
  · exact ⟨fun _ => nA_lt h.pos hq e, fun _ => key e hq⟩
  · subst e; omega
  · have h1 := key e hp
    have h2 := nA_lt h.pos hp e
    omega

/-- As many move as lie elsewhere behind it. -/
theorem mv_count {F : Nat} {hb : List (Nat × Nd)} : ∀ k, k ≤ hb.length → mv (nodes F hb) (k + 1) = (List.range k).countP (fun p => !decide ((gA hb p).2.a = nA hb p))
  | 0, _ => by rw [mv_succ (by simp [nodes])]; simp [nodes, mv, sumS]
  | k + 1, hk => by
    have hk1 : k + 1 < (nodes F hb).length := by simp [nodes]; omega
    rw [mv_succ hk1, mv_count k (by omega), List.range_succ, List.countP_append, List.countP_singleton]
    have e1 : (nodes F hb)[k + 1] = hb[k].2 := by simp [nodes]
    have e2 : sumS ((nodes F hb).take (k + 1)) = nA hb k := by simp [nodes, sumS, nA]
    rw [e1, e2, gA_at (by omega)]
    by_cases h : hb[k].2.a = nA hb k
    · simp [h]
    · simp [h]
end Go.Proofs.Ytdaklohfecinjaa
