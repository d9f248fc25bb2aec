/- What tables and texts ask, of both sides in one form. -/
import Derived.Test.YtnmchcanijkggaaX9
namespace Go.Proofs.Ytnmchcanijkggaa
open Go.RowKit Go.Lib
set_option linter.unusedVariables false
set_option linter.unusedSimpArgs false

/-- Does a table fit? -/
def tabB (zs : List Int) (ps : List (Int × Int)) : Bool := decide (zs.length = 2 ∧ 0 < ps.length) && tabN (zs.getD 0 0) (zs.getD 1 0) (ps.getD 0 (0, 0)).1 ps.length

theorem and_pow (p : Nat) (hp : p ≤ 4096) : (bits .and .i64 (p : Int) (wrap64 ((p : Int) - 1)) == 0) = powB p := by
  rw [powB_bits p hp]
  rcases Nat.eq_zero_or_pos p with rfl | h
  · kernel_rfl
  · have e : wrap64 ((p : Int) - 1) = ((p - 1 : Nat) : Int) := by unfold wrap64; omega
    rw [e]
    have hk : (BitVec.ofInt 64 (p : Int) &&& BitVec.ofInt 64 ((p - 1 : Nat) : Int)).toNat = p &&& (p - 1) := by
      rw [BitVec.toNat_and, ofInt_u64 _ (by omega), ofInt_u64 _ (by omega)]
    show (IntKind.i64.wrap ((BitVec.ofInt 64 (p : Int) &&& BitVec.ofInt 64 ((p - 1 : Nat) : Int)).toNat : Nat) == 0) = _
    have hle : p &&& (p - 1) ≤ p := Nat.and_le_left
    rw [hk, IntKind.wrap_i64, Bool.eq_iff_iff]
    simp only [beq_iff_eq]
    omega

theorem slice_cells {w : World} {ao : Option Addr} {n c : Nat} {zs : List Int} (h : SliceIs w (.slice ao n c) zs) (h0 : 0 < zs.length) : ∃ b off, ao = some ⟨b, off, none⟩ ∧ ∀ i, i < zs.length → w.cell? ⟨b, off + i, none⟩ = some (.int .i64 (zs.getD i 0)) := h.at' h0

/-- The document's. -/
theorem Rfits_5 (h : Hd) (ao so : Option Addr) (na ca ns cs : Nat) (zs : List Int) (ps : List (Int × Int)) (w : World) (hk : h.k = 5) (ha : SliceIs w (.slice ao na ca) zs) (l1 : zs.length = na) (hp : PairsIs w (.slice so ns cs) ps) (l2 : ps.length = ns) (h2 : ns ≤ 300) :
    Calls Try.prog 50 #[AO h (.slice ao na ca) (.slice so ns cs)] w fun e w' => e = .returned (.bool (tabB zs ps)) ∧ Below w.heap.size w w' := by
  by_cases hn : na = 2
  · subst hn
    obtain ⟨b, off, rfl, hc⟩ := slice_cells ha (by omega)
    have c0 := hc 0 (by omega)
    have c1 := hc 1 (by omega)
    rw [Nat.add_zero] at c0
    have e0 : tabB zs ps = (decide (0 < ns) && tabN (zs.getD 0 0) (zs.getD 1 0) (ps.getD 0 (0, 0)).1 ns) := by simp [tabB, l1, l2]
    rw [e0]
    generalize zs.getD 0 0 = a at *
    generalize zs.getD 1 0 = p at *
    by_cases ga0 : a < 0
    · rw [show (decide (0 < ns) && tabN a p (ps.getD 0 (0, 0)).1 ns) = false by simp [tabN, show ¬ 0 ≤ a by omega]]
      exact Rtab_a0 h b off ca so ns cs a p w hk c0 c1 ga0 (decide_eq_false (by omega))
    by_cases ga1 : 4096 < a
    · rw [show (decide (0 < ns) && tabN a p (ps.getD 0 (0, 0)).1 ns) = false by simp [tabN, show ¬ a ≤ (ns : Int) by omega]]
      exact Rtab_a1 h b off ca so ns cs a p w hk c0 c1 (by omega) ga1 (decide_eq_false (by omega))
    by_cases gp0 : p < 0
    · rw [show (decide (0 < ns) && tabN a p (ps.getD 0 (0, 0)).1 ns) = false by simp [tabN, show ¬ 0 ≤ p by omega]]
      exact Rtab_p0 h b off ca so ns cs a p w hk c0 c1 (by omega) (by omega) gp0 (decide_eq_false (by omega))
    by_cases gp1 : 4096 < p
    · rw [show (decide (0 < ns) && tabN a p (ps.getD 0 (0, 0)).1 ns) = false by simp [tabN, show ¬ p ≤ (ns : Int) by omega]]
      exact Rtab_p1 h b off ca so ns cs a p w hk c0 c1 (by omega) (by omega) (by omega) gp1 (decide_eq_false (by omega))
    obtain ⟨q, rfl⟩ : ∃ q : Nat, p = q := ⟨p.toNat, by omega⟩
    have hq : q ≤ 4096 := by omega
    have hpow := and_pow q hq
    have HP : Hid (∀ W, Calls Try.prog 64 #[.int .i64 (q : Int)] W fun e w' => e = .returned (.bool (powB q)) ∧ W = w') := fun W => power_any q W hq
    cases hb : powB q
    · rw [hb] at HP hpow
      rw [show (decide (0 < ns) && tabN a q (ps.getD 0 (0, 0)).1 ns) = false by simp only [tabN, hpow, Bool.false_and, Bool.and_false]]
      exact Rtab_pow h b off ca so ns cs a q w hk c0 c1 (by omega) (by omega) (by omega) (by omega) HP
    · rw [hb] at HP hpow
      have u1 : wrap64 (1 + a) = 1 + a := by unfold wrap64; omega
      have u2 : wrap64 (2 * (q : Int)) = 2 * (q : Int) := by unfold wrap64; omega
      have u3 : wrap64 (1 + a + 2 * (q : Int)) = 1 + a + 2 * (q : Int) := by unfold wrap64; omega
      by_cases hnum : (ns : Int) = 1 + a + 2 * q
      · have n0 : 0 < ns := by omega
        obtain ⟨b2, off2, hso, d1, d2⟩ := hp.at' (k := 0) (by omega)
        subst hso
        rw [Nat.zero_mul, Nat.add_zero] at d1
        generalize (ps.getD 0 (0, 0)).1 = t at *
        have e1 : (decide (0 < ns) && tabN a q t ns) = (t == 0 || t == 5) := by
          simp only [tabN, hpow, decide_eq_true n0, decide_eq_true (show 0 ≤ a by omega), decide_eq_true (show a ≤ (ns : Int) by omega), decide_eq_true (show (0 : Int) ≤ (q : Int) by omega), decide_eq_true (show (q : Int) ≤ (ns : Int) by omega), Bool.true_and, show (1 + a + 2 * (q : Int) == (ns : Int)) = true by rw [beq_iff_eq]; omega]
        rw [e1]
        cases ht : (t == 0)
        · rw [Bool.false_or]
          exact Rtab_t5 h b off ca b2 off2 ns cs a q t w hk c0 c1 d1 (by omega) (by omega) (by omega) (by omega) (by omega) HP u1 u2 u3 (by rw [beq_iff_eq]; exact hnum) ht
        · rw [Bool.true_or]
          exact Rtab_t0 h b off ca b2 off2 ns cs a q t w hk c0 c1 d1 (by omega) (by omega) (by omega) (by omega) (by omega) HP u1 u2 u3 (by rw [beq_iff_eq]; exact hnum) ht
      · rw [show (decide (0 < ns) && tabN a q (ps.getD 0 (0, 0)).1 ns) = false by
          simp only [tabN, show (1 + a + 2 * (q : Int) == (ns : Int)) = false by rw [beq_eq_false_iff_ne]; omega, Bool.false_and, Bool.and_false]]
        exact Rtab_num h b off ca so ns cs a q w hk c0 c1 (by omega) (by omega) (by omega) (by omega) HP u1 u2 u3 (by rw [beq_eq_false_iff_ne]; exact hnum)
  · rw [show tabB zs ps = false by simp [tabB, l1, hn]]
    exact Rtab_two h ao so na ca ns cs w hk (by rw [beq_eq_false_iff_ne]; omega)

/-- The program's. -/
theorem fits_5 (h : Hd) (ao so : Option Addr) (na ca ns cs : Nat) (zs : List Int) (ps : List (Int × Int)) (w : World) (ha : SliceIs w (.slice ao na ca) zs) (l1 : zs.length = na) (hp : PairsIs w (.slice so ns cs) ps) (l2 : ps.length = ns) (h2 : ns ≤ 300) :
    Calls Try.prog 57 #[AO h (.slice ao na ca) (.slice so ns cs)] w fun e w' => e = .returned (.bool (tabB zs ps)) ∧ Below w.heap.size w w' := by
  by_cases hn : na = 2 ∧ 0 < ns
  · obtain ⟨rfl, h0⟩ := hn
    obtain ⟨b, off, rfl, hc⟩ := slice_cells ha (by omega)
    have c0 := hc 0 (by omega)
    have c1 := hc 1 (by omega)
    rw [Nat.add_zero] at c0
    obtain ⟨b2, off2, hso, d1, d2⟩ := hp.at' (k := 0) (by omega)
    subst hso
    rw [Nat.zero_mul, Nat.add_zero] at d1
    rw [show tabB zs ps = tabN (zs.getD 0 0) (zs.getD 1 0) (ps.getD 0 (0, 0)).1 ns by simp [tabB, l1, l2, h0]]
    exact fitsTable_two h b off ca b2 off2 ns cs _ _ _ w h0 (by omega) c0 c1 d1
  · rw [show tabB zs ps = false by simp only [tabB, l1, l2, decide_eq_false hn, Bool.false_and]]
    exact fitsTable_no h ao so na ca ns cs w hn

/-- Does a text fit? -/
def txtB (zs : List Int) (ns : Nat) : Bool := decide (0 < zs.length ∧ ns = 0) && (txE (zs.drop 1) (zs.getD 0 0) == 0)

theorem tail_cells {w : World} {b off : Nat} {zs : List Int} (hc : ∀ i, i < zs.length → w.cell? ⟨b, off + i, none⟩ = some (.int .i64 (zs.getD i 0))) : ∀ i, i < (zs.drop 1).length → w.cell? ⟨b, off + 1 + i, none⟩ = some (.int .i64 ((zs.drop 1).getD i 0)) := by
  intro i hi
  rw [List.length_drop] at hi
  have := hc (1 + i) (by omega)
  rw [show off + 1 + i = off + (1 + i) by omega, this]
  simp [List.getD, List.getElem?_drop, Nat.add_comm]

theorem fits_4 (h : Hd) (ao so : Option Addr) (na ca ns cs : Nat) (zs : List Int) (w : World) (ha : SliceIs w (.slice ao na ca) zs) (l1 : zs.length = na) (hI : Iall zs) (hca : na ≤ ca) (h1 : na ≤ 300) :
    Calls Try.prog 56 #[AO h (.slice ao na ca) (.slice so ns cs)] w fun e w' => e = .returned (.bool (txtB zs ns)) ∧ Below w.heap.size w w' := by
  by_cases hn : 0 < na ∧ ns = 0
  · obtain ⟨h0, rfl⟩ := hn
    obtain ⟨b, off, rfl, hc⟩ := slice_cells ha (by omega)
    have c0 := hc 0 (by omega)
    rw [Nat.add_zero] at c0
    have hd : (zs.drop 1).length + 1 = na := by rw [List.length_drop]; omega
    rw [show txtB zs 0 = (txE (zs.drop 1) (zs.getD 0 0) == 0) by simp [txtB, l1, h0]]
    have := fitsText_some h (zs.getD 0 0) (zs.drop 1) b off ca cs so w (by omega) (iall_get hI (by omega)).2 (by omega) c0 (tail_cells hc)
    rwa [hd] at this
  · rw [show txtB zs ns = false by simp only [txtB, l1, decide_eq_false hn, Bool.false_and]]
    exact fitsText_no h ao so na ca ns cs w (by omega)

theorem Rfits_4 (h : Hd) (ao so : Option Addr) (na ca ns cs : Nat) (zs : List Int) (w : World) (hk : h.k = 4) (ha : SliceIs w (.slice ao na ca) zs) (l1 : zs.length = na) (hca : na ≤ ca) (h1 : na ≤ 300) :
    Calls Try.prog 50 #[AO h (.slice ao na ca) (.slice so ns cs)] w fun e w' => e = .returned (.bool (txtB zs ns)) ∧ Below w.heap.size w w' := by
  by_cases hn : 0 < na ∧ ns = 0
  · obtain ⟨h0, rfl⟩ := hn
    obtain ⟨b, off, rfl, hc⟩ := slice_cells ha (by omega)
    have c0 := hc 0 (by omega)
    rw [Nat.add_zero] at c0
    have hd : (zs.drop 1).length + 1 = na := by rw [List.length_drop]; omega
    rw [show txtB zs 0 = (txE (zs.drop 1) (zs.getD 0 0) == 0) by simp [txtB, l1, h0]]
    by_cases hx : zs.getD 0 0 < 0 ∨ 32768 < zs.getD 0 0
    · have e : txE (zs.drop 1) (zs.getD 0 0) = 1 := by
        unfold txE
        rw [if_pos]
        rcases hx with hx | hx
        · exact Or.inl hx
        · right; omega
      rw [e]
      exact RfitsText_out h b off na ca cs so _ w hk h0 hx c0
    · have := RfitsText_some h (zs.getD 0 0) (zs.drop 1) b off ca cs so w (by omega) hk (by omega) (by omega) (by omega) c0 (tail_cells hc)
      rwa [hd] at this
  · rw [show txtB zs ns = false by simp only [txtB, l1, decide_eq_false hn, Bool.false_and]]
    exact RfitsText_no h ao so na ca ns cs w hk (by omega)
end Go.Proofs.Ytnmchcanijkggaa
