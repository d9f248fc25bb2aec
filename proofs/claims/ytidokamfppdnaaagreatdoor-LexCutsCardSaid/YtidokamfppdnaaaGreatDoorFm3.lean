/- Plain facts on float64: a number's whole part, and how an int stands to it. -/
import Derived.Test.YtidokamfppdnaaaGreatDoorFm2
namespace Fm
open Ieee

/-- The scaled value of a word. -/
def val (x : Nat) : Int := V (double.read x)

/-- The scaled value of an int. -/
def ival (n : Int) : Int := n * P2 1074

/-- A number's whole part towards nought. -/
def trunc (x : Nat) : Option Int := (double.read x).toInt .zero

/-- The word of the number rounded down. -/
def floorW (x : Nat) : Nat := double.write ((double.read x).integral .down)

/-- The word nearest to an int. -/
def ofInt (n : Int) : Nat := double.write (.number (n < 0) n.natAbs 0)

theorem ival_lt {a b : Int} : ival a < ival b ↔ a < b := by
  unfold ival
  exact ⟨fun h => Int.lt_of_mul_lt_mul_right h (Int.le_of_lt (P2_pos _)), fun h => Int.mul_lt_mul_of_pos_right h (P2_pos _)⟩
theorem ival_inj {a b : Int} : ival a = ival b ↔ a = b := by
  constructor
  · intro h
    rcases Int.lt_trichotomy a b with h1 | h1 | h1
    · have := ival_lt.2 h1; omega
    · exact h1
    · have := ival_lt.2 h1; omega
  · intro h; rw [h]
theorem ival_le {a b : Int} : ival a ≤ ival b ↔ a ≤ b := by
  rw [← Int.not_lt, ← Int.not_lt, ival_lt]

/-- The parts of a number: its magnitude's whole part and what is left, scaled. -/
theorem parts (m : Nat) (i : Int) (hi : -1074 ≤ i) : ∃ q r : Nat, (m <<< i.toNat) / 2 ^ (-i).toNat = q ∧ ((m <<< i.toNat) % 2 ^ (-i).toNat != 0) = (r != 0) ∧ (m : Int) * P2 (i + 1074).toNat = (q : Int) * P2 1074 + (r : Int) ∧ (r : Int) < P2 1074 ∧
    (∃ m' j : Nat, q = m' * 2 ^ j ∧ m' ≤ m ∧ j ≤ i.toNat) ∧ (0 ≤ i → r = 0) ∧ (i < 0 → 2 * q ≤ m) := by
  by_cases h : 0 ≤ i
  · refine ⟨m * 2 ^ i.toNat, 0, ?_, ?_, ?_, P2_pos _, ⟨m, i.toNat, rfl, Nat.le_refl _, Nat.le_refl _⟩, fun _ => rfl, fun h' => by omega⟩
    · rw [Nat.shiftLeft_eq, show (-i).toNat = 0 from by omega, Nat.pow_zero, Nat.div_one]
    · rw [show (-i).toNat = 0 from by omega, Nat.pow_zero, Nat.mod_one]
    · rw [show (i + 1074).toNat = i.toNat + 1074 from by omega, P2_add, ← Int.mul_assoc, Int.natCast_mul, P2_nat]; simp
  · obtain ⟨k, hk⟩ : ∃ k : Nat, (-i).toNat = k := ⟨_, rfl⟩
    have hk0 : 0 < k := by omega
    have ep : P2 1074 = P2 k * P2 (i + 1074).toNat := by rw [← P2_add, show k + (i + 1074).toNat = 1074 from by omega]
    have hp : 0 < 2 ^ k := Nat.two_pow_pos _
    have hpk : ((2 ^ k : Nat) : Int) = P2 k := P2_nat k
    have hmod := Nat.mod_lt m hp
    have hdm := Nat.div_add_mod m (2 ^ k)
    have hpos := P2_pos (i + 1074).toNat
    refine ⟨m / 2 ^ k, (m % 2 ^ k) * 2 ^ (i + 1074).toNat, ?_, ?_, ?_, ?_, ⟨m / 2 ^ k, 0, by simp, Nat.div_le_self _ _, Nat.zero_le _⟩, fun h' => by omega, fun _ => ?_⟩
    · rw [hk, show i.toNat = 0 from by omega, Nat.shiftLeft_zero]
    · rw [hk, show i.toNat = 0 from by omega, Nat.shiftLeft_zero, Bool.eq_iff_iff]
      have := Nat.two_pow_pos (i + 1074).toNat
      simp only [bne_iff_ne, ne_eq, Nat.mul_eq_zero]
      constructor
      · intro h1 h2; rcases h2 with h2 | h2; exact h1 h2; omega
      · intro h1 h2; exact h1 (Or.inl h2)
    · rw [ep, Int.natCast_mul, P2_nat, ← Int.mul_assoc, ← Int.add_mul, ← hpk, ← Int.natCast_mul, ← Int.natCast_add, Nat.mul_comm (m / 2 ^ k), hdm]
    · rw [ep, Int.natCast_mul, P2_nat, ← hpk]
      exact Int.mul_lt_mul_of_pos_right (by omega) hpos
    · have h2 : 2 ≤ 2 ^ k := by
        have : 2 ^ 1 ≤ 2 ^ k := Nat.pow_le_pow_right (by decide) hk0
        omega
      have : 2 * (m / 2 ^ k) ≤ 2 ^ k * (m / 2 ^ k) := Nat.mul_le_mul_right _ h2
      omega

/-- What is told of a finite word: its whole part, and what is left. -/
theorem finite {x : Nat} {s : Bool} {m : Nat} {i : Int} (hr : double.read x = .number s m i) (hm : m < 2 ^ 53) (hi : -1074 ≤ i) (hi' : i ≤ 971) :
    ∃ q r : Nat, trunc x = some (if s then -(q : Int) else q) ∧ val x = (if s then -((q : Int) * P2 1074 + r) else (q : Int) * P2 1074 + r) ∧ (r : Int) < P2 1074 ∧
      (double.read x).integral .down = .number s (q + (s && r != 0).toNat) 0 ∧ (∃ m' j : Nat, q = m' * 2 ^ j ∧ m' < 9007199254740992 ∧ j ≤ i.toNat) ∧ (r ≠ 0 → q < 9007199254740991) := by
  obtain ⟨q, r, h1, h2, h3, h4, ⟨m', j, h5, h6, h7⟩, h8, h9⟩ := parts m i hi
  refine ⟨q, r, ?_, ?_, h4, ?_, ⟨m', j, h5, by omega, h7⟩, ?_⟩
  · unfold trunc Datum.toInt
    rw [hr]
    show some (signed s (Toward.cut .zero s (m <<< i.toNat) (-i).toNat) 0) = _
    rw [cut_zero, h1, signed_eq]
    have : P2 0 = 1 := rfl
    rw [this, Int.mul_one]
  · unfold val
    rw [hr]
    have e : V (.number s m i) = if s then -((m : Int) * P2 (i + 1074).toNat) else (m : Int) * P2 (i + 1074).toNat := rfl
    rw [e, h3]
  · rw [hr]
    show Datum.number s (Toward.cut .down s (m <<< i.toNat) (-i).toNat) 0 = _
    rw [cut_down, h1, h2]
  · intro hr0
    by_cases hi0 : 0 ≤ i
    · exact absurd (h8 hi0) hr0
    · have := h9 (by omega); omega

end Fm
