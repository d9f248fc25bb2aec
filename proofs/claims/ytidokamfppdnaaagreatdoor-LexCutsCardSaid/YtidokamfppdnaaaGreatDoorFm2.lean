/- Plain facts on float64: the negative, sums and products turned round, whole parts, what is exact. -/
import Derived.Test.YtidokamfppdnaaaGreatDoorFm1
namespace Fm
open Ieee

/-- The word with its sign turned. -/
def neg (x : Nat) : Nat := x ^^^ 2 ^ (double.exponentBits + double.fractionBits)

theorem neg_eq {x : Nat} (h : x < 18446744073709551616) : neg x = if x < 9223372036854775808 then x + 9223372036854775808 else x - 9223372036854775808 := by
  have e : neg x = x ^^^ 2 ^ 63 := rfl
  rw [e]
  by_cases h1 : x < 9223372036854775808
  · rw [if_pos h1]
    have h2 : x < 2 ^ 63 := h1
    have := Nat.two_pow_add_eq_or_of_lt h2 1
    rw [Nat.add_comm, show 9223372036854775808 = 2 ^ 63 * 1 from rfl, this]
    apply Nat.eq_of_testBit_eq
    intro i
    rw [Nat.mul_one, Nat.testBit_xor, Nat.testBit_or, Nat.testBit_two_pow]
    by_cases hi : 63 = i
    · subst hi; rw [Nat.testBit_lt_two_pow h2]; decide
    · simp [hi]
  · rw [if_neg h1]
    obtain ⟨y, rfl⟩ : ∃ y, x = 9223372036854775808 + y := ⟨x - 9223372036854775808, by omega⟩
    have h2 : y < 2 ^ 63 := by omega
    have := Nat.two_pow_add_eq_or_of_lt h2 1
    rw [show 9223372036854775808 + y - 9223372036854775808 = y from by omega, show 9223372036854775808 + y = 2 ^ 63 * 1 + y from rfl, this]
    apply Nat.eq_of_testBit_eq
    intro i
    rw [Nat.mul_one, Nat.testBit_xor, Nat.testBit_or, Nat.testBit_two_pow]
    by_cases hi : 63 = i
    · subst hi; rw [Nat.testBit_lt_two_pow h2]; decide
    · simp [hi]

theorem neg_lt {x : Nat} (h : x < 18446744073709551616) : neg x < 18446744073709551616 := by
  rw [neg_eq h]; split <;> omega

theorem read_neg {x : Nat} (h : x < 18446744073709551616) : double.read (neg x) = (double.read x).opposite := by
  rw [read_eq, read_eq, neg_eq h]
  by_cases h1 : x < 9223372036854775808
  · rw [if_pos h1]
    have a1 : (x + 9223372036854775808) % 9223372036854775808 = x % 9223372036854775808 := by omega
    have a2 : (x + 9223372036854775808) / 9223372036854775808 % 2 = 1 := by omega
    have a3 : x / 9223372036854775808 % 2 = 0 := by omega
    rw [a1, a2, a3]
    split; · rfl
    split; · rfl
    split <;> rfl
  · rw [if_neg h1]
    have a1 : (x - 9223372036854775808) % 9223372036854775808 = x % 9223372036854775808 := by omega
    have a2 : (x - 9223372036854775808) / 9223372036854775808 % 2 = 0 := by omega
    have a3 : x / 9223372036854775808 % 2 = 1 := by omega
    rw [a1, a2, a3]
    split; · rfl
    split; · rfl
    split <;> rfl

theorem nan_neg {x : Nat} (h : x < 18446744073709551616) : nanB (neg x) = nanB x := by
  unfold nanB
  rw [neg_eq h]
  by_cases h1 : x < 9223372036854775808
  · rw [if_pos h1, show (x + 9223372036854775808) % 9223372036854775808 = x % 9223372036854775808 from by omega]
  · rw [if_neg h1, show (x - 9223372036854775808) % 9223372036854775808 = x % 9223372036854775808 from by omega]

theorem sum_comm (a b : Datum) : a.sum b = b.sum a := by
  cases a <;> cases b <;> simp only [Datum.sum]
  · rename_i s m i t n j
    rw [show min i j = min j i from by omega]
    have e : ∀ A B : Int, A + B = B + A := Int.add_comm
    rw [e]
    cases s <;> cases t <;> rfl
  · rename_i s t
    cases s <;> cases t <;> rfl

theorem product_comm (a b : Datum) : a.product b = b.product a := by
  cases a <;> cases b <;> simp only [Datum.product]
  · rename_i s m i t n j
    rw [Nat.mul_comm, Int.add_comm, Bool.xor_comm]
  · rename_i s t
    rw [Bool.xor_comm]

theorem add_comm (x y : Nat) : double.add x y = double.add y x := by unfold Format.add; rw [sum_comm]
theorem mul_comm (x y : Nat) : double.mul x y = double.mul y x := by unfold Format.mul; rw [product_comm]
theorem sub_neg (x : Nat) {y : Nat} (h : y < 18446744073709551616) : double.add x (neg y) = double.sub x y := by
  unfold Format.add Format.sub; rw [read_neg h]

/-- What is left of a number that is cut towards nought. -/
theorem cut_zero (s : Bool) (n drop : Nat) : Toward.cut .zero s n drop = n / 2 ^ drop := by
  unfold Toward.cut
  simp only [Bool.toNat_false, Nat.add_zero]
  rw [Nat.shiftLeft_eq, Nat.one_mul]
  by_cases h : drop ≤ n.log2 + 2
  · rw [Nat.min_eq_left h]
  · rw [Nat.min_eq_right (by omega)]
    have h1 : n < 2 ^ (n.log2 + 1) := Nat.lt_log2_self
    have h2 : 2 ^ (n.log2 + 1) ≤ 2 ^ (n.log2 + 2) := Nat.pow_le_pow_right (by decide) (by omega)
    have h3 : 2 ^ (n.log2 + 1) ≤ 2 ^ drop := Nat.pow_le_pow_right (by decide) (by omega)
    rw [Nat.div_eq_of_lt (by omega), Nat.div_eq_of_lt (by omega)]

/-- Rounded down: one more where a negative number has something left. -/
theorem cut_down (s : Bool) (n drop : Nat) : Toward.cut .down s n drop = n / 2 ^ drop + (s && n % 2 ^ drop != 0).toNat := by
  unfold Toward.cut
  simp only []
  rw [Nat.shiftLeft_eq, Nat.one_mul]
  by_cases h : drop ≤ n.log2 + 2
  · rw [Nat.min_eq_left h]
  · rw [Nat.min_eq_right (by omega)]
    have h1 : n < 2 ^ (n.log2 + 1) := Nat.lt_log2_self
    have h2 : 2 ^ (n.log2 + 1) ≤ 2 ^ (n.log2 + 2) := Nat.pow_le_pow_right (by decide) (by omega)
    have h3 : 2 ^ (n.log2 + 1) ≤ 2 ^ drop := Nat.pow_le_pow_right (by decide) (by omega)
    rw [Nat.div_eq_of_lt (by omega), Nat.div_eq_of_lt (by omega), Nat.mod_eq_of_lt (by omega), Nat.mod_eq_of_lt (by omega)]

/-- A cut that drops nothing. -/
theorem cut_even_zero (s : Bool) (n : Nat) : Toward.cut .even s n 0 = n := by
  unfold Toward.cut
  simp [Nat.mod_one]

theorem cut_even_dvd (s : Bool) (n drop : Nat) (hd : drop ≤ n.log2 + 2) (h : n % 2 ^ drop = 0) : Toward.cut .even s n drop = n / 2 ^ drop := by
  unfold Toward.cut
  simp only []
  rw [Nat.shiftLeft_eq, Nat.one_mul, Nat.min_eq_left hd, h]
  have : 0 < 2 ^ drop := Nat.two_pow_pos _
  have e1 : decide (2 ^ drop < 2 * 0) = false := by simp
  have e2 : (2 ^ drop == 2 * 0) = false := by rw [beq_eq_false_iff_ne]; omega
  rw [e1, e2]; rfl

/-- The word of a rung below infinity is no NaN and reads as that rung. -/
theorem read_word (s : Bool) (kept e : Nat) (h1 : 4503599627370496 ≤ kept) (h2 : kept < 9007199254740992) (he : e ≤ 2045) :
    double.read (double.word s (e * 4503599627370496 + kept)) = .number s kept (-1074 + (e : Int)) ∧ nanB (double.word s (e * 4503599627370496 + kept)) = false ∧ double.word s (e * 4503599627370496 + kept) < 18446744073709551616 := by
  unfold Format.word
  rw [D_signWeight]
  have hr : e * 4503599627370496 + kept < 9218868437227405312 := by omega
  have hm : (e * 4503599627370496 + kept) % 4503599627370496 = kept - 4503599627370496 := by omega
  have hd : (e * 4503599627370496 + kept) / 4503599627370496 = e + 1 := by omega
  have key : ∀ x : Nat, x % 9223372036854775808 = e * 4503599627370496 + kept → (x / 9223372036854775808 % 2 == 1) = s → double.read x = .number s kept (-1074 + (e : Int)) ∧ nanB x = false := by
    intro x h3 h4
    constructor
    · rw [read_eq, h3, h4, if_neg (by omega), if_pos hr, hm, hd, show 4503599627370496 + (kept - 4503599627370496) = kept from by omega, show e + 1 - 1 = e from by omega]
    · unfold nanB; rw [h3]; exact decide_eq_false (by omega)
  cases s
  · simp only [Bool.false_eq_true, if_false]
    have := key (e * 4503599627370496 + kept) (by omega) (by rw [Nat.div_eq_of_lt (by omega)]; rfl)
    exact ⟨this.1, this.2, by omega⟩
  · simp only [if_true]
    have := key (9223372036854775808 + (e * 4503599627370496 + kept)) (by omega) (by rw [show (9223372036854775808 + (e * 4503599627370496 + kept)) / 9223372036854775808 = 1 from by omega]; rfl)
    exact ⟨this.1, this.2, by omega⟩

theorem log2_bounds {n : Nat} (h : n ≠ 0) : 2 ^ n.log2 ≤ n ∧ n < 2 ^ (n.log2 + 1) := ⟨Nat.log2_self_le h, Nat.lt_log2_self⟩

/-- The nearest word of a whole number that the format has is exact. -/
theorem nearest_exact (s : Bool) (m i : Nat) (hm : m < 9007199254740992) (hi : i ≤ 971) :
    V (double.read (double.nearest s (m * 2 ^ i) 0)) = (if s then -((m * 2 ^ i : Nat) : Int) * P2 1074 else ((m * 2 ^ i : Nat) : Int) * P2 1074) ∧ nanB (double.nearest s (m * 2 ^ i) 0) = false ∧ double.nearest s (m * 2 ^ i) 0 < 18446744073709551616 := by
  by_cases h0 : m = 0
  · subst h0
    rw [Nat.zero_mul]
    have e : double.nearest s 0 0 = double.word s 0 := by unfold Format.nearest; rw [if_pos rfl]
    rw [e]
    cases s
    · have r : double.read (double.word false 0) = .number false 0 (-1074) := by decide
      exact ⟨by rw [r]; simp [V], by decide, by decide⟩
    · have r : double.read (double.word true 0) = .number true 0 (-1074) := by decide
      exact ⟨by rw [r]; simp [V], by decide, by decide⟩
  · obtain ⟨M, hM⟩ : ∃ M, M = m * 2 ^ i := ⟨_, rfl⟩
    have hp : 0 < 2 ^ i := Nat.two_pow_pos _
    have hM0 : M ≠ 0 := by
      rw [hM]; exact Nat.mul_ne_zero h0 (by omega)
    rw [← hM]
    have hlog : M.log2 = m.log2 + i := by
      have b := log2_bounds h0
      rw [hM]
      refine (Nat.log2_eq_iff (hM ▸ hM0)).2 ⟨?_, ?_⟩
      · rw [Nat.pow_add]; exact Nat.mul_le_mul_right _ b.1
      · rw [show m.log2 + i + 1 = (m.log2 + 1) + i from by omega, Nat.pow_add]; exact Nat.mul_lt_mul_of_pos_right b.2 hp
    have hml : m.log2 ≤ 52 := by
      have b := log2_bounds h0
      have : m.log2 < 53 := (Nat.log2_lt h0).2 (by omega)
      omega
    have bM := log2_bounds hM0
    -- the kept digits and where they end
    have hkey : ∃ kept e : Nat, double.nearest s M 0 = double.word s (e * 4503599627370496 + kept) ∧ 4503599627370496 ≤ kept ∧ kept < 9007199254740992 ∧ e = M.log2 + 1022 ∧ (kept : Int) * P2 e = (M : Int) * P2 1074 := by
      unfold Format.nearest
      rw [if_neg hM0, D_fractionBits, D_leastPlace, D_binade, D_infRung]
      simp only []
      by_cases hl : M.log2 ≤ 52
      · have e1 : max ((0 : Int) + M.log2 - (52 : Nat)) (-1074) = (M.log2 : Int) - 52 := by omega
        rw [e1]
        have e2 : ((0 : Int) - ((M.log2 : Int) - 52)).toNat = 52 - M.log2 := by omega
        have e3 : ((M.log2 : Int) - 52 - 0).toNat = 0 := by omega
        rw [e2, e3, cut_even_zero, Nat.shiftLeft_eq]
        have k1 : 4503599627370496 ≤ M * 2 ^ (52 - M.log2) := by
          have : 2 ^ M.log2 * 2 ^ (52 - M.log2) ≤ M * 2 ^ (52 - M.log2) := Nat.mul_le_mul_right _ bM.1
          rw [← Nat.pow_add, show M.log2 + (52 - M.log2) = 52 from by omega] at this
          exact this
        have k2 : M * 2 ^ (52 - M.log2) < 9007199254740992 := by
          have : M * 2 ^ (52 - M.log2) < 2 ^ (M.log2 + 1) * 2 ^ (52 - M.log2) := Nat.mul_lt_mul_of_pos_right bM.2 (Nat.two_pow_pos _)
          rw [← Nat.pow_add, show M.log2 + 1 + (52 - M.log2) = 53 from by omega] at this
          exact this
        have e4 : ((M.log2 : Int) - 52 - -1074).toNat = M.log2 + 1022 := by omega
        rw [e4, Nat.min_eq_left (by omega)]
        refine ⟨M * 2 ^ (52 - M.log2), M.log2 + 1022, rfl, k1, k2, rfl, ?_⟩
        rw [Int.natCast_mul, P2_nat, Int.mul_assoc, ← P2_add, show 52 - M.log2 + (M.log2 + 1022) = 1074 from by omega]
      · have e1 : max ((0 : Int) + M.log2 - (52 : Nat)) (-1074) = (M.log2 : Int) - 52 := by omega
        rw [e1]
        have e2 : ((0 : Int) - ((M.log2 : Int) - 52)).toNat = 0 := by omega
        have e3 : ((M.log2 : Int) - 52 - 0).toNat = M.log2 - 52 := by omega
        have hdvd : M % 2 ^ (M.log2 - 52) = 0 := by
          obtain ⟨c, hc⟩ : ∃ c, i = (M.log2 - 52) + c := ⟨i - (M.log2 - 52), by omega⟩
          have hd : 2 ^ (M.log2 - 52) ∣ M := by
            refine ⟨m * 2 ^ c, ?_⟩
            have : M = m * 2 ^ (M.log2 - 52 + c) := by rw [← hc]; exact hM
            rw [Nat.pow_add] at this
            rw [Nat.mul_left_comm]; exact this
          exact Nat.mod_eq_zero_of_dvd hd
        rw [e2, e3, Nat.shiftLeft_zero, cut_even_dvd _ _ _ (by omega) hdvd]
        have hq : M / 2 ^ (M.log2 - 52) * 2 ^ (M.log2 - 52) = M := Nat.div_mul_cancel (Nat.dvd_of_mod_eq_zero hdvd)
        have hpp : 0 < 2 ^ (M.log2 - 52) := Nat.two_pow_pos _
        have k1 : 4503599627370496 ≤ M / 2 ^ (M.log2 - 52) := by
          rw [Nat.le_div_iff_mul_le hpp]
          have : 2 ^ 52 * 2 ^ (M.log2 - 52) ≤ M := by rw [← Nat.pow_add, show 52 + (M.log2 - 52) = M.log2 from by omega]; exact bM.1
          exact this
        have k2 : M / 2 ^ (M.log2 - 52) < 9007199254740992 := by
          rw [Nat.div_lt_iff_lt_mul hpp]
          have : M < 2 ^ 53 * 2 ^ (M.log2 - 52) := by rw [← Nat.pow_add, show 53 + (M.log2 - 52) = M.log2 + 1 from by omega]; exact bM.2
          exact this
        have e4 : ((M.log2 : Int) - 52 - -1074).toNat = M.log2 + 1022 := by omega
        rw [e4, Nat.min_eq_left (by omega)]
        refine ⟨M / 2 ^ (M.log2 - 52), M.log2 + 1022, rfl, k1, k2, rfl, ?_⟩
        rw [show M.log2 + 1022 = (M.log2 - 52) + 1074 from by omega, P2_add, ← Int.mul_assoc, ← P2_nat, ← Int.natCast_mul, hq]
    obtain ⟨kept, e, h1, h2, h3, h4, h5⟩ := hkey
    have r := read_word s kept e h2 h3 (by omega)
    rw [h1]
    refine ⟨?_, r.2.1, r.2.2⟩
    rw [r.1]
    have hv : V (.number s kept (-1074 + (e : Int))) = if s then -((kept : Int) * P2 (-1074 + (e : Int) + 1074).toNat) else (kept : Int) * P2 (-1074 + (e : Int) + 1074).toNat := rfl
    rw [hv, show ((-1074 : Int) + (e : Int) + 1074).toNat = e from by omega, h5]
    cases s
    · rw [if_neg (by decide), if_neg (by decide)]
    · rw [if_pos rfl, if_pos rfl, Int.neg_mul]
end Fm
