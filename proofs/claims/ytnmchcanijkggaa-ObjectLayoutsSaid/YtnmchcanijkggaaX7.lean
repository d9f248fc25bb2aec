/- The document's fits, of boxes, threads and protos. -/
import Derived.Test.YtnmchcanijkggaaX6
namespace Go.Proofs.Ytnmchcanijkggaa
open Go.RowKit Go.Lib
set_option linter.unusedVariables false
set_option linter.unusedSimpArgs false

set_option maxRecDepth 20000 in
set_option maxHeartbeats 4000000 in
theorem Rfits_7 (h : Hd) (ao so : Option Addr) (na ca ns cs : Nat) (w : World) (hk : h.k = 7) :
    Calls Try.prog 50 #[AO h (.slice ao na ca) (.slice so ns cs)] w fun e w' => e = .returned (.bool (decide (na = 0 ∧ ns = 1))) ∧ Below w.heap.size w w' := by
  obtain ⟨k, c, a, ww, s, f, x, l⟩ := h
  simp only at hk
  subst hk
  by_cases h1 : na = 0
  · subst h1
    by_cases h2 : ns = 1
    · subst h2
      rw [show decide (0 = 0 ∧ 1 = 1) = true by decide]
      go_enter Try.func50, Try.ntmps50
      go_wp2
      go_ret
      exact ⟨rfl, (Below.refl _ _).alloc (Nat.le_refl _) _⟩
    · have e1 : ((ns : Int) == 1) = false := by simp; omega
      rw [show decide (0 = 0 ∧ ns = 1) = false by simp [h2]]
      clear h2
      go_enter Try.func50, Try.ntmps50
      go_wp2
      go_ret
      exact ⟨rfl, (Below.refl _ _).alloc (Nat.le_refl _) _⟩
  · have e1 : ((na : Int) == 0) = false := by simp; omega
    rw [show decide (na = 0 ∧ ns = 1) = false by simp [h1]]
    clear h1
    go_enter Try.func50, Try.ntmps50
    go_wp2
    go_ret
    exact ⟨rfl, (Below.refl _ _).alloc (Nat.le_refl _) _⟩

set_option maxRecDepth 20000 in
set_option maxHeartbeats 4000000 in
theorem Rfits_8 (h : Hd) (ao so : Option Addr) (na ca ns cs : Nat) (w : World) (hk : h.k = 8) :
    Calls Try.prog 50 #[AO h (.slice ao na ca) (.slice so ns cs)] w fun e w' => e = .returned (.bool (decide (na = 0))) ∧ Below w.heap.size w w' := by
  obtain ⟨k, c, a, ww, s, f, x, l⟩ := h
  simp only at hk
  subst hk
  by_cases h1 : na = 0
  · subst h1
    rw [show decide (0 = 0) = true by decide]
    go_enter Try.func50, Try.ntmps50
    go_wp2
    go_ret
    exact ⟨rfl, (Below.refl _ _).alloc (Nat.le_refl _) _⟩
  · have e1 : ((na : Int) == 0) = false := by simp; omega
    rw [show decide (na = 0) = false by simp [h1]]
    clear h1
    go_enter Try.func50, Try.ntmps50
    go_wp2
    go_ret
    exact ⟨rfl, (Below.refl _ _).alloc (Nat.le_refl _) _⟩

set_option maxRecDepth 20000 in
set_option maxHeartbeats 4000000 in
theorem Rfits_9 (h : Hd) (ao so : Option Addr) (na ca ns cs : Nat) (w : World) (hk : h.k = 9) :
    Calls Try.prog 50 #[AO h (.slice ao na ca) (.slice so ns cs)] w fun e w' => e = .returned (.bool (decide (na = 1))) ∧ Below w.heap.size w w' := by
  obtain ⟨k, c, a, ww, s, f, x, l⟩ := h
  simp only at hk
  subst hk
  by_cases h1 : na = 1
  · subst h1
    rw [show decide (1 = 1) = true by decide]
    go_enter Try.func50, Try.ntmps50
    go_wp2
    go_ret
    exact ⟨rfl, (Below.refl _ _).alloc (Nat.le_refl _) _⟩
  · have e1 : ((na : Int) == 1) = false := by simp; omega
    rw [show decide (na = 1) = false by simp [h1]]
    clear h1
    go_enter Try.func50, Try.ntmps50
    go_wp2
    go_ret
    exact ⟨rfl, (Below.refl _ _).alloc (Nat.le_refl _) _⟩

end Go.Proofs.Ytnmchcanijkggaa
