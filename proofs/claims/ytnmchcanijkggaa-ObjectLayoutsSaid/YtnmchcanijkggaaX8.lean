/- The document's fits, of functions. -/
import Derived.Test.YtnmchcanijkggaaX7
namespace Go.Proofs.Ytnmchcanijkggaa
open Go.RowKit Go.Lib
set_option linter.unusedVariables false
set_option linter.unusedSimpArgs false

set_option maxRecDepth 20000 in
set_option maxHeartbeats 8000000 in
theorem Rfits_6 (h : Hd) (ao so : Option Addr) (na ca ns cs : Nat) (ps : List (Int × Int)) (w : World) (hk : h.k = 6) (hp : PairsIs w (.slice so ns cs) ps) (hl : ps.length = ns) (h2 : ns ≤ 100000) :
    Calls Try.prog 50 #[AO h (.slice ao na ca) (.slice so ns cs)] w fun e w' => e = .returned (.bool (funB na ps)) ∧ Below w.heap.size w w' := by
  obtain ⟨k, c, a, ww, s, f, x, l⟩ := h
  simp only at hk
  subst hk
  by_cases h0 : ns = 0
  · have e : funB na ps = false := by
      rw [Bool.eq_false_iff]
      intro hf
      simp only [funB, Bool.and_eq_true, decide_eq_true_eq, beq_iff_eq] at hf
      omega
    rw [e]
    subst h0
    clear hp e
    by_cases h1 : na = 0
    · subst h1
      go_enter Try.func50, Try.ntmps50
      go_wp2_with fail
      go_loop [6] (fun i => i = .int .i64 1) (fun _ => 0)
      case atStart => rfl
      case round =>
        subst hrel
        go_wp2
        go_ret
        exact ⟨rfl, (Below.refl _ _).alloc (Nat.le_refl _) _⟩
    · have e1 : ((na : Int) == 0) = false := by simp; omega
      clear h1
      go_enter Try.func50, Try.ntmps50
      go_wp2_with fail
      go_loop [6] (fun i => i = .int .i64 1) (fun _ => 0)
      case atStart => rfl
      case round =>
        subst hrel
        go_wp2
        go_ret
        exact ⟨rfl, (Below.refl _ _).alloc (Nat.le_refl _) _⟩
  · obtain ⟨b, off, rfl, e0, _⟩ := hp.at' (k := 0) (by omega)
    obtain ⟨t0, ht0⟩ : ∃ t, t = (ps.getD 0 (0, 0)).1 := ⟨_, rfl⟩
    have d0 : w.cell? ⟨b, off, none⟩ = some (.int .i64 t0) := by rw [ht0]; simpa using e0
    have hlt : b < w.heap.size := by
      rcases Nat.lt_or_ge b w.heap.size with h | h
      · exact h
      · rw [show w.cell? ⟨b, off, none⟩ = none by simp [World.cell?, Array.getElem?_eq_none h]] at d0; cases d0
    have HP : Hid (∀ k, k < ns → w.cell? ⟨b, off + k * 2, none⟩ = some (.int .i64 (ps.getD k (0, 0)).1)) := by
      intro k hk
      obtain ⟨b'', off'', hso, g1, _⟩ := hp.at' (k := k) (by omega)
      injection hso with hs1
      injection hs1 with hs2 hs3
      subst hs2
      subst hs3
      exact g1
    have HF : Hid (funB na ps = (decide (na = 0) && ((t0 == 9) && boxes ps (ns - 1)))) := by
      show _ = _
      unfold funB
      rw [hl, show decide (0 < ns) = true by simp; omega, ← ht0, Bool.true_and]
    have n1 : (0 : Int) < (ns : Int) := by omega
    clear hp e0 ht0 hl
    go_enter Try.func50, Try.ntmps50
    go_wp2_with fail
    go_loop [6] (fun i => ∃ j : Nat, 1 ≤ j ∧ j ≤ ns ∧ i = .int .i64 j ∧ Hid (boxes ps (j - 1) = true)) (fun i => ns - (intOf i).toNat)
    case atStart => exact ⟨1, Nat.le_refl _, by omega, rfl, rfl⟩
    case round =>
      obtain ⟨j, hj1, hj, rfl, HA⟩ := hrel
      by_cases hjn : j < ns
      · obtain ⟨t, ht⟩ : ∃ t, t = (ps.getD j (0, 0)).1 := ⟨_, rfl⟩
        have c1 : w.cell? ⟨b, off + j * 2, none⟩ = some (.int .i64 t) := by rw [ht]; exact HP.out j hjn
        have HX : Hid (((ps.getD (j - 1 + 1) (0, 0)).1 == 7) = (t == 7)) := by show _ = _; rw [ht, show j - 1 + 1 = j by omega]
        have k1 : (0 : Int) ≤ (j : Int) := by omega
        have k2 : (j : Int) < (ns : Int) := by omega
        clear ht
        by_cases h7 : t = 7
        · subst h7
          have HA2 : Hid (boxes ps (j + 1 - 1) = true) := by
            show _ = _; rw [show j + 1 - 1 = j - 1 + 1 by omega, boxes_snoc, HA.out, HX.out]; rfl
          go_wp2
          go_round
          case rel => exact ⟨j + 1, by omega, by omega, by go_num, HA2.out⟩
          case measure => simp [intOf]; omega
        · have hne : (t != 7) = true := by simp [h7]
          have HA2 : Hid (boxes ps (ns - 1) = false) := boxes_no (k := j - 1) (by omega) (by rw [HX.out]; simp [h7])
          clear h7
          go_wp2
          go_ret
          exact ⟨by rw [HF.out, HA2.out]; simp, (Below.refl _ _).alloc (Nat.le_refl _) _⟩
      · have he : j = ns := by omega
        subst he
        have HF2 : Hid (funB na ps = (decide (na = 0) && (t0 == 9))) := by show _ = _; rw [HF.out, HA.out, Bool.and_true]
        clear HA HF
        by_cases h1 : na = 0
        · subst h1
          go_wp2
          go_ret
          exact ⟨by rw [HF2.out]; simp, (Below.refl _ _).alloc (Nat.le_refl _) _⟩
        · have e1 : ((na : Int) == 0) = false := by simp; omega
          have HF3 : Hid (funB na ps = false) := by show _ = _; rw [HF2.out]; simp [h1]
          clear h1
          go_wp2
          go_ret
          exact ⟨by rw [HF3.out]; rfl, (Below.refl _ _).alloc (Nat.le_refl _) _⟩
end Go.Proofs.Ytnmchcanijkggaa
