/- What tables ask. -/
import Derived.Test.YtnmchcanijkggaaD3
namespace Go.Proofs.Ytnmchcanijkggaa
open Go.RowKit Go.Lib
set_option linter.unusedVariables false

/-- Do these four numbers fit a table of so many slots? -/
def tabN (a p t : Int) (n : Nat) : Bool := decide (0 ≤ a) && (decide (a ≤ n) && (decide (0 ≤ p) && (decide (p ≤ n) && ((bits .and .i64 p (wrap64 (p - 1)) == 0) && ((1 + a + 2 * p == (n : Int)) && (t == 0 || t == 5))))))

set_option maxHeartbeats 2000000 in
theorem fitsTable_two (h : Hd) (b off ca b2 off2 ns cs : Nat) (a p t : Int) (w : World) (h0 : 0 < ns) (h2 : ns ≤ 100000) (ca0 : w.cell? ⟨b, off, none⟩ = some (.int .i64 a)) (ca1 : w.cell? ⟨b, off + 1, none⟩ = some (.int .i64 p)) (ct : w.cell? ⟨b2, off2, none⟩ = some (.int .i64 t)) :
    Calls Try.prog 57 #[AO h (.slice (some ⟨b, off, none⟩) 2 ca) (.slice (some ⟨b2, off2, none⟩) ns cs)] w fun e w' => e = .returned (.bool (tabN a p t ns)) ∧ Below w.heap.size w w' := by
  have hlt : b < w.heap.size := by
    rcases Nat.lt_or_ge b w.heap.size with h | h
    · exact h
    · rw [show w.cell? ⟨b, off, none⟩ = none by simp [World.cell?, Array.getElem?_eq_none h]] at ca0; cases ca0
  have hlt2 : b2 < w.heap.size := by
    rcases Nat.lt_or_ge b2 w.heap.size with h | h
    · exact h
    · rw [show w.cell? ⟨b2, off2, none⟩ = none by simp [World.cell?, Array.getElem?_eq_none h]] at ct; cases ct
  have en : ((ns : Int) == 0) = false := by simp; omega
  have n1 : (0 : Int) < (ns : Int) := by omega
  by_cases g1 : a < 0
  · rw [show tabN a p t ns = false by simp [tabN, show ¬ 0 ≤ a by omega]]
    go_enter Try.func57, Try.ntmps57
    go_wp2
    go_quiet (fail)
    go_wp2
    go_ret
    exact ⟨rfl, below_drewN ((Below.refl _ _).alloc (Nat.le_refl _) _) _⟩
  by_cases g2 : (ns : Int) < a
  · rw [show tabN a p t ns = false by simp [tabN, show ¬ a ≤ (ns : Int) by omega]]
    go_enter Try.func57, Try.ntmps57
    go_wp2
    go_quiet (fail)
    go_wp2
    go_ret
    exact ⟨rfl, below_drewN ((Below.refl _ _).alloc (Nat.le_refl _) _) _⟩
  by_cases g3 : p < 0
  · rw [show tabN a p t ns = false by simp [tabN, show ¬ 0 ≤ p by omega]]
    go_enter Try.func57, Try.ntmps57
    go_wp2
    go_quiet (fail)
    go_wp2
    go_ret
    exact ⟨rfl, below_drewN ((Below.refl _ _).alloc (Nat.le_refl _) _) _⟩
  by_cases g4 : (ns : Int) < p
  · rw [show tabN a p t ns = false by simp [tabN, show ¬ p ≤ (ns : Int) by omega]]
    go_enter Try.func57, Try.ntmps57
    go_wp2
    go_quiet (fail)
    go_wp2
    go_ret
    exact ⟨rfl, below_drewN ((Below.refl _ _).alloc (Nat.le_refl _) _) _⟩
  have hs : tabN a p t ns = ((bits .and .i64 p (wrap64 (p - 1)) == 0) && ((1 + a + 2 * p == (ns : Int)) && (t == 0 || t == 5))) := by
    simp [tabN, show 0 ≤ a by omega, show a ≤ (ns : Int) by omega, show 0 ≤ p by omega, show p ≤ (ns : Int) by omega]
  have hw : wrap64 (p - 1) = p - 1 := by unfold wrap64; omega
  rw [hw] at hs
  rw [hs]
  clear hs hw
  cases g5 : (bits .and .i64 p (p - 1) == 0)
  · rw [Bool.false_and]
    go_enter Try.func57, Try.ntmps57
    go_wp2
    go_quiet (fail)
    go_wp2
    go_ret
    exact ⟨rfl, below_drewN ((Below.refl _ _).alloc (Nat.le_refl _) _) _⟩
  cases g6 : (1 + a + 2 * p == (ns : Int))
  · rw [Bool.false_and, Bool.and_false]
    go_enter Try.func57, Try.ntmps57
    go_wp2
    go_quiet (fail)
    go_wp2
    go_ret
    exact ⟨rfl, below_drewN ((Below.refl _ _).alloc (Nat.le_refl _) _) _⟩
  rw [Bool.true_and, Bool.true_and]
  cases g7 : (t == 0)
  · rw [Bool.false_or]
    go_enter Try.func57, Try.ntmps57
    go_wp2
    go_quiet (fail)
    go_wp2
    go_ret
    exact ⟨rfl, below_drewN ((Below.refl _ _).alloc (Nat.le_refl _) _) _⟩
  · rw [Bool.true_or]
    go_enter Try.func57, Try.ntmps57
    go_wp2
    go_quiet (fail)
    go_wp2
    go_ret
    exact ⟨rfl, below_drewN ((Below.refl _ _).alloc (Nat.le_refl _) _) _⟩

set_option maxHeartbeats 1000000 in
theorem fitsTable_no (h : Hd) (ao so : Option Addr) (na ca ns cs : Nat) (w : World) (hn : ¬ (na = 2 ∧ 0 < ns)) :
    Calls Try.prog 57 #[AO h (.slice ao na ca) (.slice so ns cs)] w fun e w' => e = .returned (.bool false) ∧ Below w.heap.size w w' := by
  by_cases h1 : na = 2
  · subst h1
    obtain rfl : ns = 0 := by omega
    go_enter Try.func57, Try.ntmps57
    go_wp2
    go_ret
    exact ⟨rfl, (Below.refl _ _).alloc (Nat.le_refl _) _⟩
  · have en : ((na : Int) != 2) = true := by simp; omega
    clear hn h1
    go_enter Try.func57, Try.ntmps57
    go_wp2
    go_ret
    exact ⟨rfl, (Below.refl _ _).alloc (Nat.le_refl _) _⟩
end Go.Proofs.Ytnmchcanijkggaa
