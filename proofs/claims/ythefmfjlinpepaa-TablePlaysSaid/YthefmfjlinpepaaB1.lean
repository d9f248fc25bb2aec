/- bits.Len64 of small numbers; atLeast. -/
import Derived.Test.YthefmfjlinpepaaB2
namespace Go.Proofs.Ythefmfjlinpepaa
open Go.RowKit Go.Shelf
set_option linter.unusedSimpArgs false
set_option linter.unusedVariables false
attribute [local go_sem] Oper.semAt_some

set_option maxRecDepth 20000 in
set_option maxHeartbeats 1000000 in
theorem Len_low (x : Nat) (hx : x < 256) (w : World) : Calls Try.prog 91 #[.int .u64 (x : Int)] w fun e w' => e = .returned (.int .i64 (Lib.bitLen x : Nat)) ∧ w = w' := by
  go_enter Try.func91, Try.ntmps91
  go_wp2_with (go_at_call 90; refine (Len64_one (x : Int) _ (by omega) (by omega)).mono ?_; rintro e w' ⟨rfl, rfl⟩)
  go_ret
  exact ⟨rfl, rfl⟩

/-- The least power of two that is not below a number; 0 of 0. -/
def pw2 (n : Nat) : Nat := if n = 0 then 0 else 2 ^ Lib.bitLen (n - 1)
theorem pw2_facts : ∀ n, n ≤ 256 → n ≤ pw2 n ∧ pw2 n ≤ 256 ∧ bits .and .i64 ((pw2 n : Nat) : Int) (((pw2 n : Nat) : Int) - 1) = 0 ∧ (n ≠ 0 → pw2 n < 2 * n) := by decide +kernel

set_option maxRecDepth 20000 in
set_option maxHeartbeats 1000000 in
theorem atLeast_any (n : Nat) (hn : n ≤ 256) (w : World) : Calls Try.prog 85 #[.int .i64 (n : Int)] w fun e w' => e = .returned (.int .i64 (pw2 n : Nat)) ∧ w = w' := by
  by_cases h0 : n = 0
  · subst h0
    go_enter Try.func85, Try.ntmps85
    go_wp2
    go_ret
    exact ⟨rfl, rfl⟩
  · obtain ⟨x, rfl⟩ : ∃ x, n = x + 1 := ⟨n - 1, by omega⟩
    have HP : Hid (pw2 (x + 1) = 2 ^ Lib.bitLen x) := by show _ = _; simp [pw2]
    have HL : Hid (∀ w, Calls Try.prog 91 #[.int .u64 (x : Int)] w fun e w' => e = .returned (.int .i64 (Lib.bitLen x : Nat)) ∧ w = w') := Len_low x (by omega)
    have hk : Lib.bitLen x < 9 := by have := Lib.bitLen_le x 8 (by decide) (by omega); omega
    generalize Lib.bitLen x = k at HP HL hk
    have e0 : ((x + 1 : Nat) : Int) - 1 = (x : Int) := by omega
    have e1 : (((x + 1 : Nat) : Int) == 0) = false := by simp; omega
    go_enter Try.func85, Try.ntmps85
    go_wp2_with fail
    refine (HL.out w).mono ?_
    rintro e w' ⟨rfl, rfl⟩
    clear HL
    obtain rfl | rfl | rfl | rfl | rfl | rfl | rfl | rfl | rfl : k = 0 ∨ k = 1 ∨ k = 2 ∨ k = 3 ∨ k = 4 ∨ k = 5 ∨ k = 6 ∨ k = 7 ∨ k = 8 := by omega
    all_goals (
      go_wp2
      go_ret
      exact ⟨by rw [HP.out]; rfl, rfl⟩)
end Go.Proofs.Ythefmfjlinpepaa
