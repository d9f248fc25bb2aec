/- Plain facts on float64: words of one value that is not nought are one word. -/
import Derived.Test.YtakpmefkddplhaaGreatDoorFm5
namespace Fm
open Ieee

/-- The scaled magnitude of a rung. -/
def mag (r : Nat) : Int := if r < 4503599627370496 then (r : Int) else if r < 9218868437227405312 then ((4503599627370496 + r % 4503599627370496 : Nat) : Int) * P2 (r / 4503599627370496 - 1) else P2 2200

theorem P2_zero : P2 0 = 1 := rfl
theorem P2_one : P2 1 = 2 := rfl

theorem mag_step {r : Nat} (h : r < 9218868437227405312) : mag r < mag (r + 1) := by
  unfold mag
  by_cases h1 : r + 1 < 4503599627370496
  · rw [if_pos (by omega), if_pos h1]; omega
  · by_cases h2 : r + 1 = 4503599627370496
    · rw [if_pos (by omega), if_neg (by omega), if_pos (by omega), h2]
      rw [show 4503599627370496 / 4503599627370496 - 1 = 0 from by decide, P2_zero, show 4503599627370496 % 4503599627370496 = 0 from by decide]
      omega
    · rw [if_neg (by omega), if_pos h, if_neg (by omega)]
      have hp := P2_pos (r / 4503599627370496 - 1)
      by_cases h3 : r + 1 < 9218868437227405312
      · rw [if_pos h3]
        by_cases h4 : (r + 1) % 4503599627370496 = 0
        · have e1 : (r + 1) / 4503599627370496 = r / 4503599627370496 + 1 := by omega
          have e2 : r % 4503599627370496 = 4503599627370495 := by omega
          rw [h4, e1, e2, show r / 4503599627370496 + 1 - 1 = (r / 4503599627370496 - 1) + 1 from by omega, P2_add, P2_one]
          generalize P2 (r / 4503599627370496 - 1) = p at *
          omega
        · have e1 : (r + 1) / 4503599627370496 = r / 4503599627370496 := by omega
          have e2 : (r + 1) % 4503599627370496 = r % 4503599627370496 + 1 := by omega
          rw [e1, e2]
          exact Int.mul_lt_mul_of_pos_right (by omega) hp
      · rw [if_neg h3]
        have e : r / 4503599627370496 - 1 = 2045 := by omega
        rw [e]
        have a1 : ((4503599627370496 + r % 4503599627370496 : Nat) : Int) * P2 2045 ≤ P2 53 * P2 2045 := Int.mul_le_mul_of_nonneg_right (by rw [← P2_nat]; omega) (Int.le_of_lt (P2_pos _))
        rw [← P2_add] at a1
        have a2 : P2 (53 + 2045) < P2 2200 := P2_lt (by omega)
        omega

theorem mag_mono {a b : Nat} (h : a < b) (hb : b ≤ 9218868437227405312) : mag a < mag b := by
  obtain ⟨d, rfl⟩ : ∃ d, b = a + 1 + d := ⟨b - a - 1, by omega⟩
  clear h
  induction d with
  | zero => exact mag_step (by omega)
  | succ d ih =>
    have h1 := ih (by omega)
    have h2 := mag_step (r := a + 1 + d) (by omega)
    rw [show a + 1 + (d + 1) = a + 1 + d + 1 from rfl]
    omega

theorem mag_zero : mag 0 = 0 := rfl

theorem val_mag {x : Nat} (h : nanB x = false) : val x = if x / 9223372036854775808 % 2 == 1 then -(mag (x % 9223372036854775808)) else mag (x % 9223372036854775808) := by
  unfold nanB at h
  have h := of_decide_eq_false h
  unfold val mag
  rw [read_eq]
  by_cases h1 : x % 9223372036854775808 < 4503599627370496
  · rw [if_pos h1, if_pos h1]
    have e : ∀ s m, V (.number s m (-1074)) = if s then -((m : Int) * P2 ((-1074 : Int) + 1074).toNat) else (m : Int) * P2 ((-1074 : Int) + 1074).toNat := fun _ _ => rfl
    rw [e, show ((-1074 : Int) + 1074).toNat = 0 from rfl, P2_zero, Int.mul_one]
  · rw [if_neg h1, if_neg h1]
    by_cases h2 : x % 9223372036854775808 < 9218868437227405312
    · rw [if_pos h2, if_pos h2]
      have e : ∀ s m i, V (.number s m i) = if s then -((m : Int) * P2 (i + 1074).toNat) else (m : Int) * P2 (i + 1074).toNat := fun _ _ _ => rfl
      rw [e]
      rw [show (-1074 + ((x % 9223372036854775808 / 4503599627370496 - 1 : Nat) : Int) + 1074).toNat = x % 9223372036854775808 / 4503599627370496 - 1 from by omega]
    · rw [if_neg h2, if_neg h2, if_pos (by omega)]
      rfl

/-- Two words of one value that is not nought are one word. -/
theorem val_inj {x y : Nat} (hx : x < 18446744073709551616) (hy : y < 18446744073709551616) (nx : nanB x = false) (ny : nanB y = false) (h : val x = val y) (h0 : val x ≠ 0) : x = y := by
  have vx := val_mag nx
  have vy := val_mag ny
  unfold nanB at nx ny
  have nx := of_decide_eq_false nx
  have ny := of_decide_eq_false ny
  have key : ∀ r : Nat, r ≤ 9218868437227405312 → 0 ≤ mag r ∧ (0 < r → 0 < mag r) := by
    intro r hr
    rcases Nat.eq_zero_or_pos r with h | h
    · subst h; exact ⟨by rw [mag_zero]; omega, fun h => by omega⟩
    · have := mag_mono h hr; rw [mag_zero] at this; exact ⟨by omega, fun _ => this⟩
  have kx := key (x % 9223372036854775808) (by omega)
  have ky := key (y % 9223372036854775808) (by omega)
  have sx : x / 9223372036854775808 = 0 ∨ x / 9223372036854775808 = 1 := by omega
  have sy : y / 9223372036854775808 = 0 ∨ y / 9223372036854775808 = 1 := by omega
  have hr : mag (x % 9223372036854775808) = mag (y % 9223372036854775808) → x % 9223372036854775808 = y % 9223372036854775808 := by
    intro he
    rcases Nat.lt_trichotomy (x % 9223372036854775808) (y % 9223372036854775808) with h1 | h1 | h1
    · have := mag_mono h1 (by omega); omega
    · exact h1
    · have := mag_mono h1 (by omega); omega
  rcases sx with sx | sx <;> rcases sy with sy | sy <;> rw [sx] at vx <;> rw [sy] at vy <;> simp at vx vy
  · have := hr (by omega); omega
  · exfalso; omega
  · exfalso; omega
  · have := hr (by omega); omega
end Fm
