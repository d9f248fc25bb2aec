/- An object's cells are read as the object, and what is read has those cells. -/
import Derived.Test.YtnmchcanijkggaaV1
import Derived.Test.YtnmchcanijkggaaM2
namespace Go.Proofs.Ytnmchcanijkggaa
open Go.RowKit Go.Lib
set_option linter.unusedVariables false

theorem flat_pairs (ps : List (Int × Int)) : pairsOf (flatP ps) ps.length = ps := by
  apply List.ext_getElem?
  intro i
  by_cases hi : i < ps.length
  · have h := flat_get (ps := ps) i hi
    simp only [pairsOf, List.getElem?_map, List.getElem?_range hi, Option.map_some, List.getElem?_eq_getElem hi, Option.some.injEq]
    rw [h.1, h.2, List.getD, List.getElem?_eq_getElem hi]
    rfl
  · rw [List.getElem?_eq_none (by simp [pairsOf]; omega), List.getElem?_eq_none (by omega)]

theorem pairs_flat (zs : List Int) (m : Nat) (h : zs.length = 2 * m) : flatP (pairsOf zs m) = zs := by
  have hl : (pairsOf zs m).length = m := by simp [pairsOf]
  apply List.ext_getElem?
  intro i
  by_cases hi : i < 2 * m
  · have hg := flat_get (ps := pairsOf zs m) (i / 2) (by omega)
    have hlen := flat_len (pairsOf zs m)
    have e : (pairsOf zs m).getD (i / 2) (0, 0) = (zs.getD (2 * (i / 2)) 0, zs.getD (2 * (i / 2) + 1) 0) := by
      simp [pairsOf, List.getD, show i / 2 < m by omega]
    rw [e] at hg
    have a1 : (flatP (pairsOf zs m))[i]? = some ((flatP (pairsOf zs m)).getD i 0) := by
      rw [List.getD, List.getElem?_eq_getElem (show i < (flatP (pairsOf zs m)).length by omega)]; rfl
    have a2 : zs[i]? = some (zs.getD i 0) := by
      rw [List.getD, List.getElem?_eq_getElem (show i < zs.length by omega)]; rfl
    rw [a1, a2]
    rcases (show i = 2 * (i / 2) ∨ i = 2 * (i / 2) + 1 by omega) with h2 | h2
    · rw [h2, hg.1, ← h2]
    · rw [h2, hg.2, ← h2]
  · rw [List.getElem?_eq_none (by rw [flat_len, hl]; omega), List.getElem?_eq_none (by omega)]

theorem cells_len (h : Hd) (zs : List Int) (ps : List (Int × Int)) : (cellsL h zs ps).length = 2 + zs.length + 2 * ps.length := by
  simp only [cellsL, List.length_append, List.length_cons, List.length_nil, flat_len]

/-- Read of Cells. -/
theorem back {h : Hd} {zs : List Int} {ps : List (Int × Int)} (hw : wrongE h zs.length ps = 0) :
    readB (cellsL h zs ps) = true ∧ headOf (cellsL h zs ps) = h ∧ auxOf (cellsL h zs ps) = zs ∧ slotsOf (cellsL h zs ps) = ps ∧ ((cellsL h zs ps).length : Int) = sizeN h := by
  obtain ⟨hr, hx, hl, hv⟩ := wrong_zero hw
  have g0 : (cellsL h zs ps).getD 0 0 = c1 h := rfl
  have g1 : (cellsL h zs ps).getD 1 0 = c2 h := rfl
  have e1 : headOf (cellsL h zs ps) = h := by unfold headOf; rw [g0, g1]; exact (un_pack hr).2
  have e2 : auxN (cellsL h zs ps) = zs.length := by unfold auxN; rw [e1, hx]; simp
  have e3 : slotN (cellsL h zs ps) = ps.length := by unfold slotN; rw [e1, hl]; simp
  have e4 : auxOf (cellsL h zs ps) = zs := by
    unfold auxOf
    rw [e2]
    show ((zs ++ flatP ps)).take zs.length = zs
    simp
  have e5 : slotsOf (cellsL h zs ps) = ps := by
    unfold slotsOf
    rw [e2, e3]
    have : (cellsL h zs ps).drop (2 + zs.length) = flatP ps := by
      rw [← List.drop_drop]
      show ((zs ++ flatP ps)).drop zs.length = flatP ps
      simp
    rw [this, flat_pairs]
  have e6 : ((cellsL h zs ps).length : Int) = sizeN h := by
    rw [cells_len, sizeN, if_pos hr, hx, hl]; omega
  refine ⟨?_, e1, e4, e5, e6⟩
  simp only [readB, sizedB, g0, g1, (un_pack hr).1, e1, e5, hv, decide_eq_true e6, Bool.and_true, decide_eq_true_eq]
  rw [cells_len]; omega

/-- Cells of Read. -/
theorem one {zs : List Int} (h : readB zs = true) : wrongE (headOf zs) (auxOf zs).length (slotsOf zs) = 0 ∧ cellsL (headOf zs) (auxOf zs) (slotsOf zs) = zs := by
  simp only [readB, sizedB, Bool.and_eq_true, decide_eq_true_eq] at h
  obtain ⟨⟨h2, hu, hs⟩, hv⟩ := h
  have hright := un_right hu
  have hr : rightE (headOf zs) = 0 := hright.1
  have hbd := right_bds hr
  have e1 : (headOf zs).x = (auxN zs : Int) := by unfold auxN; rw [Int.toNat_of_nonneg hbd.x.1]
  have e2 : (headOf zs).l = (slotN zs : Int) := by unfold slotN; rw [Int.toNat_of_nonneg hbd.l.1]
  have hL : zs.length = 2 + auxN zs + 2 * slotN zs := by
    rw [sizeN, if_pos hr, e1, e2] at hs; omega
  have la : (auxOf zs).length = auxN zs := by unfold auxOf; rw [List.length_take, List.length_drop]; omega
  have ls : (slotsOf zs).length = slotN zs := by simp [slotsOf, pairsOf]
  constructor
  · unfold wrongE slotE
    rw [if_pos hr, if_pos ⟨by rw [e1, la], by rw [e2, ls]⟩, hv]; rfl
  · unfold cellsL
    have f1 : flatP (slotsOf zs) = zs.drop (2 + auxN zs) := by
      unfold slotsOf
      exact pairs_flat _ _ (by rw [List.length_drop]; omega)
    rw [f1, show c1 (headOf zs) = zs.getD 0 0 from hright.2.1, show c2 (headOf zs) = zs.getD 1 0 from hright.2.2]
    match zs, h2 with
    | a :: b :: r, _ =>
      show a :: b :: (((r).take (auxN (a :: b :: r))) ++ (a :: b :: r).drop (2 + auxN (a :: b :: r))) = a :: b :: r
      rw [← List.drop_drop]
      show a :: b :: (r.take (auxN (a :: b :: r)) ++ r.drop (auxN (a :: b :: r))) = a :: b :: r
      rw [List.take_append_drop]

theorem c_i64 {h : Hd} (hr : rightE h = 0) : I64 (c1 h) ∧ I64 (c2 h) := by
  obtain ⟨k1, e1, a1, w1, s1, f1, x1, l1⟩ := right_bds hr
  unfold I64 c1 c2
  omega
theorem cells_i64 {h : Hd} {zs : List Int} {ps : List (Int × Int)} (hr : rightE h = 0) (hz : Iall zs) (hp : Pall ps) : Iall (cellsL h zs ps) := by
  intro z hm
  simp only [cellsL, List.mem_append, List.mem_cons, List.not_mem_nil, or_false, flatP, List.mem_flatMap] at hm
  rcases hm with ((rfl | rfl) | hm) | ⟨p, hp1, hp2⟩
  · exact (c_i64 hr).1
  · exact (c_i64 hr).2
  · exact hz z hm
  · rcases hp2 with rfl | rfl
    · exact (hp p hp1).1
    · exact (hp p hp1).2
theorem slots_i64 {zs : List Int} (hz : Iall zs) (h : readB zs = true) : Pall (slotsOf zs) := by
  intro p hp
  have ho := one h
  simp only [slotsOf, pairsOf, List.mem_map, List.mem_range] at hp
  obtain ⟨i, hi, rfl⟩ := hp
  have hI : ∀ k, I64 ((zs.drop (2 + auxN zs)).getD k 0) := by
    intro k
    rcases Nat.lt_or_ge k (zs.drop (2 + auxN zs)).length with hk | hk
    · rw [List.getD, List.getElem?_eq_getElem hk]; exact hz _ (List.mem_of_mem_drop (List.getElem_mem hk))
    · rw [List.getD, List.getElem?_eq_none hk]; exact ⟨by decide, by decide⟩
  exact ⟨hI _, hI _⟩

set_option maxHeartbeats 1000000 in
theorem small_any (h : Hd) (ao so : Option Addr) (na ca ns cs : Nat) (w : World) :
    Calls Try.prog 25 #[AO h (.slice ao na ca) (.slice so ns cs)] w fun e w' => e = .returned (.bool (decide (na ≤ 300 ∧ ns ≤ 300))) ∧ Below w.heap.size w w' := by
  by_cases h1 : na ≤ 300
  · by_cases h2 : ns ≤ 300
    · rw [show decide (na ≤ 300 ∧ ns ≤ 300) = true by simp [h1, h2]]
      have e2 : decide ((ns : Int) ≤ 300) = true := by simp; omega
      go_enter Try.func25, Try.ntmps25
      go_wp2
      go_ret
      exact ⟨rfl, (Below.refl _ _).alloc (Nat.le_refl _) _⟩
    · rw [show decide (na ≤ 300 ∧ ns ≤ 300) = false by simp [h2]]
      have e2 : decide ((ns : Int) ≤ 300) = false := by simp; omega
      go_enter Try.func25, Try.ntmps25
      go_wp2
      go_ret
      exact ⟨rfl, (Below.refl _ _).alloc (Nat.le_refl _) _⟩
  · rw [show decide (na ≤ 300 ∧ ns ≤ 300) = false by simp [h1]]
    go_enter Try.func25, Try.ntmps25
    go_wp2
    go_ret
    exact ⟨rfl, (Below.refl _ _).alloc (Nat.le_refl _) _⟩
end Go.Proofs.Ytnmchcanijkggaa
