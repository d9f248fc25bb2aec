/- The document's powers of two. -/
import Derived.Test.YtnmchcanijkggaaX3
namespace Go.Proofs.Ytnmchcanijkggaa
open Go.RowKit Go.Lib
set_option linter.unusedVariables false

/-- Is this number 0 or a power of two (up to 4096)? -/
def powB (p : Nat) : Bool := p == 0 || (List.range 13).any (fun k => 2 ^ k == p)
theorem powB_grid : ∀ a : Fin 65, ∀ b : Fin 64, 4096 < 64 * a.val + b.val ∨ powB (64 * a.val + b.val) = (((64 * a.val + b.val) &&& (64 * a.val + b.val - 1)) == 0) := by decide +kernel
theorem powB_bits (p : Nat) (h : p ≤ 4096) : powB p = ((p &&& (p - 1)) == 0) := by
  have := powB_grid ⟨p / 64, by omega⟩ ⟨p % 64, by omega⟩
  simp only [show 64 * (p / 64) + p % 64 = p by omega] at this
  rcases this with h' | h'
  · omega
  · exact h'
theorem powB_end (p k : Nat) (hk : k ≤ 12) (h1 : ∀ j, j < k → 2 ^ j < p) (h2 : p ≤ 2 ^ k) : powB p = (p == 0 || 2 ^ k == p) := by
  unfold powB
  congr 1
  by_cases h : 2 ^ k = p
  · rw [show (2 ^ k == p) = true by simp [h], List.any_eq_true]
    exact ⟨k, by simp; omega, by simp [h]⟩
  · rw [show (2 ^ k == p) = false by simp [h], List.any_eq_false]
    intro j hj
    simp only [beq_iff_eq]
    intro e
    rcases Nat.lt_trichotomy j k with hjk | hjk | hjk
    · have := h1 j hjk; omega
    · subst hjk; exact h e
    · have := Nat.pow_lt_pow_right (show 1 < 2 by decide) hjk; omega

set_option maxHeartbeats 1000000 in
theorem power_any (p : Nat) (w : World) (hp : p ≤ 4096) :
    Calls Try.prog 64 #[.int .i64 p] w fun e w' => e = .returned (.bool (powB p)) ∧ w = w' := by
  have h12 : 2 ^ 12 = 4096 := by decide
  go_enter Try.func64, Try.ntmps64
  go_wp2_with fail
  go_loop [3] (fun i => ∃ x : Nat, i = .int .i64 x ∧ Hid (∃ k, k ≤ 12 ∧ x = 2 ^ k ∧ ∀ j, j < k → 2 ^ j < p)) (fun i => 4096 - (intOf i).toNat)
  case atStart => exact ⟨1, rfl, 0, by omega, rfl, fun j hj => by omega⟩
  case round =>
    obtain ⟨x, rfl, HX⟩ := hrel
    have hx0 : 1 ≤ x := by obtain ⟨k, _, rfl, _⟩ := HX.out; exact Nat.one_le_two_pow
    by_cases hlt : x < p
    · have HN : Hid (∃ k, k ≤ 12 ∧ 2 * x = 2 ^ k ∧ ∀ j, j < k → 2 ^ j < p) := by
        obtain ⟨k, hk, rfl, hj⟩ := HX.out
        refine ⟨k + 1, ?_, by rw [Nat.pow_succ]; omega, fun j hjk => ?_⟩
        · rcases Nat.lt_or_ge k 12 with h | h
          · omega
          · have := Nat.pow_le_pow_right (show 0 < 2 by decide) h; omega
        · by_cases e : j = k
          · subst e; exact hlt
          · exact hj j (by omega)
      clear HX
      have l1 : (x : Int) < (p : Int) := by omega
      go_wp2
      go_round
      case rel => exact ⟨2 * x, by go_num, HN.out⟩
      case measure => simp [intOf]; omega
    · have HP : Hid (powB p = (p == 0 || x == p)) := by
        obtain ⟨k, hk, rfl, hj⟩ := HX.out
        exact powB_end p k hk hj (by omega)
      clear HX
      have l1 : ¬ (x : Int) < (p : Int) := by omega
      by_cases h0 : p = 0
      · subst h0
        go_wp2
        go_ret
        exact ⟨by rw [HP.out]; rfl, rfl⟩
      · have e0 : ((p : Int) == 0) = false := by simp; omega
        go_wp2
        go_ret
        refine ⟨?_, rfl⟩
        rw [HP.out, show (p == 0) = false by simp [h0], Bool.false_or]
        by_cases h : x = p
        · subst h; simp
        · rw [show (x == p) = false by simp [h], show ((x : Int) == (p : Int)) = false by simp; omega]; rfl
end Go.Proofs.Ytnmchcanijkggaa
