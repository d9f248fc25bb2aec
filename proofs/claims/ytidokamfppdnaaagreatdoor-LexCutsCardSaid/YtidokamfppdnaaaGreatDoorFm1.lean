/- Plain facts on the words of float64: which are NaNs, how they are ordered, what is exact. -/
import Ieee.Arith
import Derived.Laws.FloatBits
namespace Fm
open Ieee

/-- A power of two, kept shut. -/
def P2 (n : Nat) : Int := 2 ^ n
theorem P2_pos (n : Nat) : 0 < P2 n := Int.pow_pos (by decide)
theorem P2_add (a b : Nat) : P2 (a + b) = P2 a * P2 b := Int.pow_add ..
theorem P2_lt {a b : Nat} (h : a < b) : P2 a < P2 b := Int.pow_lt_pow_of_lt (by decide) h
theorem P2_nat (n : Nat) : ((2 ^ n : Nat) : Int) = P2 n := by unfold P2; simp

/-- Is the word a NaN? -/
def nanB (x : Nat) : Bool := decide (9218868437227405312 < x % 9223372036854775808)

theorem D_signWeight : double.signWeight = 9223372036854775808 := by decide
theorem D_binade : double.binade = 4503599627370496 := by decide
theorem D_infRung : double.infRung = 9218868437227405312 := by decide
theorem D_leastPlace : double.leastPlace = -1074 := by decide
theorem D_fractionBits : double.fractionBits = 52 := rfl
theorem D_width : double.width = 64 := rfl

/-- The scaled value of a datum: a number times 2 ^ 1074; an infinity is beyond all of them. -/
def V : Datum → Int
  | .number s m i => if s then -((m : Int) * P2 (i + 1074).toNat) else (m : Int) * P2 (i + 1074).toNat
  | .infinity s => if s then -(P2 2200) else P2 2200
  | .nan _ _ => 0

/-- What reading gives. -/
theorem read_eq (x : Nat) : double.read x =
    (if x % 9223372036854775808 < 4503599627370496 then .number (x / 9223372036854775808 % 2 == 1) (x % 9223372036854775808) (-1074)
    else if x % 9223372036854775808 < 9218868437227405312 then
      .number (x / 9223372036854775808 % 2 == 1) (4503599627370496 + x % 9223372036854775808 % 4503599627370496) (-1074 + ((x % 9223372036854775808 / 4503599627370496 - 1 : Nat) : Int))
    else if x % 9223372036854775808 = 9218868437227405312 then .infinity (x / 9223372036854775808 % 2 == 1)
    else .nan (x / 9223372036854775808 % 2 == 1) (x % 9223372036854775808 - 9218868437227405312)) := by
  unfold Format.read
  rw [D_signWeight, D_binade, D_infRung, D_leastPlace]

theorem read_nan {x : Nat} (h : nanB x = true) : ∃ s t, double.read x = .nan s t := by
  unfold nanB at h
  have h := of_decide_eq_true h
  exact ⟨_, _, by rw [read_eq, if_neg (by omega), if_neg (by omega), if_neg (by omega)]⟩

theorem read_not_nan {x : Nat} (h : nanB x = false) : (∃ s m i, double.read x = .number s m i ∧ m < 2 ^ 53 ∧ -1074 ≤ i ∧ i ≤ 971) ∨ (∃ s, double.read x = .infinity s) := by
  unfold nanB at h
  have h := of_decide_eq_false h
  by_cases h1 : x % 9223372036854775808 < 4503599627370496
  · left; refine ⟨_, _, _, by rw [read_eq, if_pos h1], by omega, by omega, by omega⟩
  · by_cases h2 : x % 9223372036854775808 < 9218868437227405312
    · left; refine ⟨_, _, _, by rw [read_eq, if_neg h1, if_pos h2], by omega, by omega, ?_⟩
      have : x % 9223372036854775808 / 4503599627370496 ≤ 2046 := by omega
      omega
    · right; refine ⟨_, by rw [read_eq, if_neg h1, if_neg h2, if_pos (by omega)]⟩

theorem order_nan_left {x y : Nat} (h : nanB x = true) : double.order x y = none := by
  obtain ⟨s, t, e⟩ := read_nan h
  unfold Format.order
  rw [e]; rfl
theorem order_nan_right {x y : Nat} (h : nanB y = true) : double.order x y = none := by
  obtain ⟨s, t, e⟩ := read_nan h
  unfold Format.order
  rw [e]; cases double.read x <;> rfl

theorem signed_eq (s : Bool) (m k : Nat) : signed s m k = if s then -((m : Int) * P2 k) else (m : Int) * P2 k := by
  unfold signed
  rw [Nat.shiftLeft_eq, Int.natCast_mul, P2_nat]

theorem compare_mul (a b : Int) (c : Int) (h : 0 < c) : compare (a * c) (b * c) = compare a b := by
  rcases Int.lt_trichotomy a b with h1 | h1 | h1
  · rw [Int.compare_eq_lt.2 h1, Int.compare_eq_lt.2 (Int.mul_lt_mul_of_pos_right h1 h)]
  · subst h1; rw [Int.compare_eq_eq.2 rfl, Int.compare_eq_eq.2 rfl]
  · rw [Int.compare_eq_gt.2 h1, Int.compare_eq_gt.2 (Int.mul_lt_mul_of_pos_right h1 h)]

theorem V_signed (s : Bool) (m : Nat) (i base : Int) (h : base ≤ i) (hb : -1074 ≤ base) : V (.number s m i) = signed s m (i - base).toNat * P2 (base + 1074).toNat := by
  rw [signed_eq]
  show (if s then _ else _) = _
  have e : (i + 1074).toNat = (i - base).toNat + (base + 1074).toNat := by omega
  rw [e, P2_add]
  cases s <;> simp [Int.mul_assoc, Int.neg_mul]

theorem V_bound (s : Bool) (m : Nat) (i : Int) (hm : m < 2 ^ 53) (hi : i ≤ 971) : -(P2 2200) < V (.number s m i) ∧ V (.number s m i) < P2 2200 := by
  have h1 : (m : Int) * P2 (i + 1074).toNat < P2 2200 := by
    have e0 : (m : Int) ≤ P2 53 := by rw [← P2_nat]; omega
    have e1 : (m : Int) * P2 (i + 1074).toNat ≤ P2 53 * P2 (i + 1074).toNat := Int.mul_le_mul_of_nonneg_right e0 (Int.le_of_lt (P2_pos _))
    have e2 : P2 53 * P2 (i + 1074).toNat = P2 (53 + (i + 1074).toNat) := (P2_add ..).symm
    have e3 : P2 (53 + (i + 1074).toNat) < P2 2200 := P2_lt (by omega)
    omega
  have h0 : 0 ≤ (m : Int) * P2 (i + 1074).toNat := Int.mul_nonneg (by omega) (Int.le_of_lt (P2_pos _))
  have hb := P2_pos 2200
  have e : V (.number s m i) = if s then -((m : Int) * P2 (i + 1074).toNat) else (m : Int) * P2 (i + 1074).toNat := rfl
  rw [e]
  cases s
  · rw [if_neg (by decide)]; omega
  · rw [if_pos rfl]; omega

/-- The order of two words that are no NaNs is that of their values. -/
theorem order_val {x y : Nat} (hx : nanB x = false) (hy : nanB y = false) : double.order x y = some (compare (V (double.read x)) (V (double.read y))) := by
  unfold Format.order
  rcases read_not_nan hx with ⟨s, m, i, e, hm, hi, hi'⟩ | ⟨s, e⟩ <;> rcases read_not_nan hy with ⟨t, n, j, f, hn, hj, hj'⟩ | ⟨t, f⟩ <;> rw [e, f]
  · show some (compare _ _) = _
    rw [V_signed s m i (min i j) (by omega) (by omega), V_signed t n j (min i j) (by omega) (by omega), compare_mul _ _ _ (P2_pos _)]
  · have b := V_bound s m i hm hi'
    show some _ = _
    cases t
    · rw [Int.compare_eq_lt.2 (by show _ < P2 2200; exact b.2)]; rfl
    · rw [Int.compare_eq_gt.2 (by show -(P2 2200) < _; exact b.1)]; rfl
  · have b := V_bound t n j hn hj'
    show some _ = _
    cases s
    · rw [Int.compare_eq_gt.2 (by show _ < P2 2200; exact b.2)]; rfl
    · rw [Int.compare_eq_lt.2 (by show -(P2 2200) < _; exact b.1)]; rfl
  · cases s <;> cases t
    · rw [Int.compare_eq_eq.2 rfl]; rfl
    · rw [Int.compare_eq_gt.2 (by show -(P2 2200) < P2 2200; have := P2_pos 2200; omega)]; rfl
    · rw [Int.compare_eq_lt.2 (by show -(P2 2200) < P2 2200; have := P2_pos 2200; omega)]; rfl
    · rw [Int.compare_eq_eq.2 rfl]; rfl

theorem order_self (x : Nat) : double.order x x = if nanB x then none else some .eq := by
  cases h : nanB x
  · rw [order_val h h, Int.compare_eq_eq.2 rfl]; rfl
  · rw [order_nan_left h]; rfl
end Fm
