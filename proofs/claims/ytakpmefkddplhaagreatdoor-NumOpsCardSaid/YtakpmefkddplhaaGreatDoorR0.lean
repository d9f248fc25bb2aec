/- Plain facts: a quotient rounded down and its rest make up the number again, modulo 2^64. -/
import Derived.Test.YtakpmefkddplhaaGreatDoorW8
namespace Go.Proofs.YtakpmefkddplhaaGreatDoor
open Go.RowKit

theorem wrap_ex (x : Int) : ∃ j : Int, wrap64 x = x + 18446744073709551616 * j := ⟨-((x + 9223372036854775808) / 18446744073709551616), by unfold wrap64; omega⟩
theorem wrap_of {x a k : Int} (h : x = a + 18446744073709551616 * k) (h1 : -9223372036854775808 ≤ a) (h2 : a ≤ 9223372036854775807) : wrap64 x = a := by unfold wrap64; omega
theorem wrap_id {a : Int} (h1 : -9223372036854775808 ≤ a) (h2 : a ≤ 9223372036854775807) : wrap64 a = a := wrap_of (k := 0) (by omega) h1 h2

/-- What is left of a quotient towards nought: less than the divisor, of the number's sign. -/
theorem tmod_facts (a b : Int) (hb : ¬ b = 0) : b * a.tdiv b + a.tmod b = a ∧ (0 ≤ a → 0 ≤ a.tmod b) ∧ (a ≤ 0 → a.tmod b ≤ 0) ∧ (0 < b → -b < a.tmod b ∧ a.tmod b < b) ∧ (b < 0 → b < a.tmod b ∧ a.tmod b < -b) := by
  have h0 := Int.mul_tdiv_add_tmod a b
  have hn : (a.tmod b).natAbs < b.natAbs := by
    rw [Int.natAbs_tmod]
    exact Nat.mod_lt _ (by omega)
  refine ⟨h0, fun h => Int.tmod_nonneg b h, fun h => ?_, fun h => ?_, fun h => ?_⟩
  · have := Int.tmod_nonneg b (show 0 ≤ -a by omega)
    rw [Int.neg_tmod] at this
    omega
  · omega
  · omega

/-- The rest lies between nought and the divisor. -/
theorem rd_near (a b : Int) (hb : ¬ b = 0) (g1 : -9223372036854775808 ≤ b) (g2 : b ≤ 9223372036854775807) : (0 < b → 0 ≤ rd a b ∧ rd a b < b) ∧ (b < 0 → rd a b ≤ 0 ∧ b < rd a b) ∧ rd a b = a.tmod b + (if btw a b then b else 0) := by
  obtain ⟨h0, h1, h2, h3, h4⟩ := tmod_facts a b hb
  generalize hm : a.tmod b = m at *
  unfold rd
  cases hbt : btw a b
  · rw [hm, if_neg (by decide), if_neg (by decide)]
    unfold btw at hbt
    rw [hm] at hbt
    by_cases hm0 : m = 0
    · subst hm0; omega
    · have hs : decide (a < 0) = decide (b < 0) := by
        simp [hm0] at hbt
        rw [Bool.eq_iff_iff]; simp; omega
      have hs' : (a < 0) ↔ (b < 0) := by simpa using hs
      omega
  · rw [hm, if_pos rfl, if_pos rfl]
    unfold btw at hbt
    rw [hm] at hbt
    simp at hbt
    obtain ⟨hm0, hs⟩ := hbt
    have hw : wrap64 (m + b) = m + b := wrap_id (by omega) (by omega)
    rw [hw]
    omega

theorem qd_ex (a b : Int) : ∃ j : Int, qd a b = a.tdiv b - (if btw a b then 1 else 0) + 18446744073709551616 * j := by
  unfold qd
  cases btw a b
  · rw [if_neg (by decide), if_neg (by decide)]
    obtain ⟨j, h⟩ := wrap_ex (a.tdiv b)
    exact ⟨j, by omega⟩
  · rw [if_pos rfl, if_pos rfl]
    obtain ⟨j, h⟩ := wrap_ex (a.tdiv b)
    obtain ⟨k, h'⟩ := wrap_ex (wrap64 (a.tdiv b) - 1)
    exact ⟨j + k, by rw [h', h]; omega⟩

/-- Quotient times divisor, and the rest, are the number again. -/
theorem qd_rd (a b : Int) (hb : ¬ b = 0) (h1 : -9223372036854775808 ≤ a) (h2 : a ≤ 9223372036854775807) (g1 : -9223372036854775808 ≤ b) (g2 : b ≤ 9223372036854775807) : wrap64 (wrap64 (qd a b * b) + rd a b) = a := by
  obtain ⟨h0, _⟩ := tmod_facts a b hb
  obtain ⟨_, _, hr⟩ := rd_near a b hb g1 g2
  obtain ⟨j, hq⟩ := qd_ex a b
  obtain ⟨k, hk⟩ := wrap_ex (qd a b * b)
  refine wrap_of (k := j * b + k) ?_ h1 h2
  rw [hk, hr, hq]
  cases btw a b
  · simp only [Bool.false_eq_true, if_false]
    have : (a.tdiv b - 0 + 18446744073709551616 * j) * b = b * a.tdiv b + 18446744073709551616 * (j * b) := by
      rw [Int.sub_zero, Int.add_mul, Int.mul_comm (a.tdiv b) b, Int.mul_assoc]
    rw [this, Int.mul_add]
    omega
  · simp only [if_true]
    have : (a.tdiv b - 1 + 18446744073709551616 * j) * b = b * a.tdiv b - b + 18446744073709551616 * (j * b) := by
      rw [Int.add_mul, Int.sub_mul, Int.one_mul, Int.mul_comm (a.tdiv b) b, Int.mul_assoc]
    rw [this, Int.mul_add]
    omega
end Go.Proofs.YtakpmefkddplhaaGreatDoor
