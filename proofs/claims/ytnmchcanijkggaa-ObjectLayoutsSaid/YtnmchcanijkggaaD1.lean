/- What kinds ask: threads, protos; keys of tables; dead values where no key is. -/
import Derived.Test.YtnmchcanijkggaaL2
namespace Go.Proofs.Ytnmchcanijkggaa
open Go.RowKit Go.Lib
set_option linter.unusedVariables false

set_option maxHeartbeats 1000000 in
theorem fitsThread_any (h : Hd) (ao so : Option Addr) (na ca ns cs : Nat) (w : World) :
    Calls Try.prog 61 #[AO h (.slice ao na ca) (.slice so ns cs)] w fun e w' => e = .returned (.bool (decide (na = 0))) ∧ Below w.heap.size w w' := by
  by_cases h1 : na = 0
  · subst h1
    go_enter Try.func61, Try.ntmps61
    go_wp2
    go_ret
    exact ⟨rfl, (Below.refl _ _).alloc (Nat.le_refl _) _⟩
  · have e1 : ((na : Int) == 0) = false := by simp; omega
    rw [show decide (na = 0) = false by simp [h1]]
    clear h1
    go_enter Try.func61, Try.ntmps61
    go_wp2
    go_ret
    exact ⟨rfl, (Below.refl _ _).alloc (Nat.le_refl _) _⟩

set_option maxHeartbeats 1000000 in
theorem fitsProto_any (h : Hd) (ao so : Option Addr) (na ca ns cs : Nat) (w : World) :
    Calls Try.prog 62 #[AO h (.slice ao na ca) (.slice so ns cs)] w fun e w' => e = .returned (.bool (decide (na = 1))) ∧ Below w.heap.size w w' := by
  by_cases h1 : na = 1
  · subst h1
    go_enter Try.func62, Try.ntmps62
    go_wp2
    go_ret
    exact ⟨rfl, (Below.refl _ _).alloc (Nat.le_refl _) _⟩
  · have e1 : ((na : Int) == 1) = false := by simp; omega
    rw [show decide (na = 1) = false by simp [h1]]
    clear h1
    go_enter Try.func62, Try.ntmps62
    go_wp2
    go_ret
    exact ⟨rfl, (Below.refl _ _).alloc (Nat.le_refl _) _⟩

/-- Is place i a pair's key, where A values stand in the array part? -/
def keyB (A i : Nat) : Bool := decide (1 + A ≤ i) && decide ((i - (1 + A)) % 2 = 0)

set_option maxHeartbeats 2000000 in
theorem keyOfTable_any (h : Hd) (b off na ca A i : Nat) (so : Option Addr) (ns cs : Nat) (w : World) (hna : 0 < na) (hA : A ≤ 100000) (hi : i ≤ 100000) (hc : w.cell? ⟨b, off, none⟩ = some (.int .i64 (A : Int))) :
    Calls Try.prog 58 #[AO h (.slice (some ⟨b, off, none⟩) na ca) (.slice so ns cs), .int .i64 (i : Int)] w fun e w' => e = .returned (.bool (keyB A i)) ∧ Below w.heap.size w w' := by
  have hlt : b < w.heap.size := by
    rcases Nat.lt_or_ge b w.heap.size with h | h
    · exact h
    · rw [show w.cell? ⟨b, off, none⟩ = none by simp [World.cell?, Array.getElem?_eq_none h]] at hc; cases hc
  have n1 : (0 : Int) < (na : Int) := by omega
  by_cases h1 : 1 + A ≤ i
  · obtain ⟨d, hd⟩ : ∃ d : Nat, d = i - (1 + A) := ⟨_, rfl⟩
    have e1 : ((i : Int) - (1 + (A : Int))) = (d : Int) := by omega
    have g1 : (1 : Int) + (A : Int) ≤ (i : Int) := by omega
    have g2 : d ≤ 100000 := by omega
    rw [show keyB A i = decide (d % 2 = 0) by simp [keyB, h1, hd]]
    clear hd h1
    have e2 : ((d : Int).tmod 2 == 0) = decide (d % 2 = 0) := by
      rw [Int.tmod_eq_emod_of_nonneg (by omega), Bool.eq_iff_iff]; simp; omega
    have e3 : ((d : Int) % 2 == 0) = decide (d % 2 = 0) := by
      rw [Bool.eq_iff_iff]; simp; omega
    go_enter Try.func58, Try.ntmps58
    go_wp2
    go_ret
    exact ⟨by first | rfl | (rw [← e3]; rfl) | (rw [← e2]; rfl), (Below.refl _ _).alloc (Nat.le_refl _) _⟩
  · have g1 : ¬ ((1 : Int) + (A : Int) ≤ (i : Int)) := by omega
    rw [show keyB A i = false by simp [keyB, h1]]
    go_enter Try.func58, Try.ntmps58
    go_wp2
    go_ret
    exact ⟨rfl, (Below.refl _ _).alloc (Nat.le_refl _) _⟩
end Go.Proofs.Ytnmchcanijkggaa
