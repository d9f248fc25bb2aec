/- Plain facts on float64: how an int stands to a float, in the words of both texts; words of one value. -/
import Derived.Test.YtidokamfppdnaaaGreatDoorFm4
namespace Fm
open Ieee

/-- An order's number. -/
def sgn : Ordering → Int
  | .lt => -1
  | .eq => 0
  | .gt => 1
/-- How two floats stand, and an int to a float. -/
def cmpV (a b : Int) : Int := sgn (compare a b)

theorem cmpV_lt {a b : Int} (h : a < b) : cmpV a b = -1 := by unfold cmpV; rw [Int.compare_eq_lt.2 h]; rfl
theorem cmpV_gt {a b : Int} (h : b < a) : cmpV a b = 1 := by unfold cmpV; rw [Int.compare_eq_gt.2 h]; rfl
theorem cmpV_self (a : Int) : cmpV a a = 0 := by unfold cmpV; rw [Int.compare_eq_eq.2 rfl]; rfl
theorem cmpV_cases (a b : Int) : (a < b ∧ cmpV a b = -1) ∨ (a = b ∧ cmpV a b = 0) ∨ (b < a ∧ cmpV a b = 1) := by
  rcases Int.lt_trichotomy a b with h | h | h
  · exact Or.inl ⟨h, cmpV_lt h⟩
  · exact Or.inr (Or.inl ⟨h, by rw [h]; exact cmpV_self b⟩)
  · exact Or.inr (Or.inr ⟨h, cmpV_gt h⟩)
theorem cmpV_neg (a b : Int) : cmpV b a = - cmpV a b := by
  rcases cmpV_cases a b with h | h | h <;> rcases cmpV_cases b a with k | k | k <;> omega

/-- Beyond the ints a float is held against nought as against any int. -/
theorem mix_out {x : Nat} {n : Int} (hn : nanB x = false) (h : ¬ within x) (h1 : -9223372036854775808 ≤ n) (h2 : n ≤ 9223372036854775807) : cmpV 0 (val x) = cmpV (ival n) (val x) := by
  unfold within at h
  have a1 : ival (-9223372036854775808) ≤ ival n := ival_le.2 h1
  have a2 : ival n < ival 9223372036854775808 := ival_lt.2 (by omega)
  have a3 : ival 0 = 0 := by unfold ival; simp
  have a4 : ival (-9223372036854775808) < ival 0 := ival_lt.2 (by omega)
  have a5 : ival 0 < ival 9223372036854775808 := ival_lt.2 (by omega)
  by_cases h3 : ival (-9223372036854775808) ≤ val x
  · have h4 : ival 9223372036854775808 ≤ val x := by
      rcases Int.lt_or_le (val x) (ival 9223372036854775808) with h5 | h5
      · exact absurd ⟨hn, h3, h5⟩ h
      · exact h5
    rw [cmpV_lt (by omega), cmpV_lt (by omega)]
  · rw [cmpV_gt (by omega), cmpV_gt (by omega)]

/-- The nearest word keeps a number's sign. -/
theorem nearest_sign (s : Bool) (mag : Nat) (place : Int) (hp : -1074 ≤ place) :
    nanB (double.nearest s mag place) = false ∧ double.nearest s mag place < 18446744073709551616 ∧ (mag = 0 → val (double.nearest s mag place) = 0) ∧ (mag ≠ 0 → if s then val (double.nearest s mag place) < 0 else 0 < val (double.nearest s mag place)) := by
  -- a word of a rung up to infinity
  have hw : ∀ rung : Nat, rung ≤ 9218868437227405312 → nanB (double.word s rung) = false ∧ double.word s rung < 18446744073709551616 ∧ (rung = 0 → val (double.word s rung) = 0) ∧ (rung ≠ 0 → if s then val (double.word s rung) < 0 else 0 < val (double.word s rung)) := by
    intro rung hr
    obtain ⟨x, hx⟩ : ∃ x, x = double.word s rung := ⟨_, rfl⟩
    have hx' : x = if s then 9223372036854775808 + rung else rung := by rw [hx]; unfold Format.word; rw [D_signWeight]
    rw [← hx]
    have e1 : x % 9223372036854775808 = rung := by cases s <;> simp at hx' <;> omega
    have e2 : (x / 9223372036854775808 % 2 == 1) = s := by
      cases s
      · simp at hx'; rw [show x / 9223372036854775808 = 0 from by omega]; rfl
      · simp at hx'; rw [show x / 9223372036854775808 = 1 from by omega]; rfl
    have h1 : nanB x = false := by unfold nanB; rw [e1]; exact decide_eq_false (by omega)
    refine ⟨h1, by cases s <;> simp at hx' <;> omega, ?_, ?_⟩
    · intro h0
      subst h0
      unfold val
      rw [read_eq, e1, e2, if_pos (by omega)]
      have e : V (.number s 0 (-1074)) = if s then -(((0 : Nat) : Int) * P2 ((-1074 : Int) + 1074).toNat) else ((0 : Nat) : Int) * P2 ((-1074 : Int) + 1074).toNat := rfl
      rw [e]; cases s <;> simp
    · intro h0
      have hv : ∃ k : Int, 0 < k ∧ val x = if s then -k else k := by
        unfold val
        rw [read_eq, e1, e2]
        split
        · exact ⟨(rung : Int) * P2 ((-1074 : Int) + 1074).toNat, Int.mul_pos (by omega) (P2_pos _), rfl⟩
        · split
          · exact ⟨_, Int.mul_pos (by omega) (P2_pos _), rfl⟩
          · rw [if_pos (by omega)]; exact ⟨P2 2200, P2_pos _, rfl⟩
      obtain ⟨k, hk, hv⟩ := hv
      rw [hv]
      cases s
      · simp; exact hk
      · simp; exact hk
  unfold Format.nearest
  by_cases h0 : mag = 0
  · rw [if_pos h0]
    have := hw 0 (by omega)
    exact ⟨this.1, this.2.1, fun _ => this.2.2.1 rfl, fun h => absurd h0 h⟩
  · rw [if_neg h0, D_fractionBits, D_leastPlace, D_binade, D_infRung]
    simp only []
    obtain ⟨last, hlast⟩ : ∃ last, last = max (place + mag.log2 - (52 : Nat)) (-1074) := ⟨_, rfl⟩
    rw [← hlast]
    obtain ⟨kept, hk⟩ : ∃ kept, kept = Toward.cut .even s (mag <<< (place - last).toNat) (last - place).toNat := ⟨_, rfl⟩
    rw [← hk]
    have hpos : min ((last - -1074).toNat * 4503599627370496 + kept) 9218868437227405312 ≠ 0 := by
      by_cases hl : last = -1074
      · have h1 : (last - place).toNat = 0 := by omega
        rw [h1, cut_even_zero, Nat.shiftLeft_eq] at hk
        have : 0 < 2 ^ (place - last).toNat := Nat.two_pow_pos _
        have h2 : kept ≠ 0 := by rw [hk]; exact Nat.mul_ne_zero h0 (by omega)
        omega
      · have : 0 < (last - -1074).toNat := by omega
        omega
    have := hw _ (Nat.min_le_right ((last - -1074).toNat * 4503599627370496 + kept) 9218868437227405312)
    exact ⟨this.1, this.2.1, fun h => absurd h h0, fun _ => this.2.2.2 hpos⟩

/-- The difference of a float and an int that the format has bears the sign of their true difference. -/
theorem sub_sign {x y : Nat} (hx : ∃ s m i, double.read x = .number s m i ∧ -1074 ≤ i) (hy : ∃ s m i, double.read y = .number s m i ∧ -1074 ≤ i) :
    ∃ r, double.sub x y = some r ∧ nanB r = false ∧ r < 18446744073709551616 ∧ cmpV (val r) 0 = cmpV (val x) (val y) := by
  obtain ⟨s, m, i, hx, hi⟩ := hx
  obtain ⟨t, n, j, hy, hj⟩ := hy
  have vx : val x = signed s m (i - min i j).toNat * P2 (min i j + 1074).toNat := by unfold val; rw [hx]; exact V_signed s m i (min i j) (by omega) (by omega)
  have vy : val y = signed t n (j - min i j).toNat * P2 (min i j + 1074).toNat := by unfold val; rw [hy]; exact V_signed t n j (min i j) (by omega) (by omega)
  unfold Format.sub
  rw [hx, hy]
  have hneg : signed (!t) n (j - min i j).toNat = - signed t n (j - min i j).toNat := by rw [signed_eq, signed_eq]; cases t <;> simp
  obtain ⟨A, hA⟩ : ∃ A, A = signed s m (i - min i j).toNat := ⟨_, rfl⟩
  obtain ⟨B, hB⟩ : ∃ B, B = signed t n (j - min i j).toNat := ⟨_, rfl⟩
  have e : (Datum.number s m i).sum (Datum.number t n j).opposite = some (.number (if A + -B = 0 then s && !t else decide (A + -B < 0)) (A + -B).natAbs (min i j)) := by
    show (Datum.number s m i).sum (Datum.number (!t) n j) = _
    simp only [Datum.sum]
    rw [hneg, ← hA, ← hB]
  rw [e]
  have hs := nearest_sign (if A + -B = 0 then s && !t else decide (A + -B < 0)) (A + -B).natAbs (min i j) (by omega)
  refine ⟨_, rfl, hs.1, hs.2.1, ?_⟩
  show cmpV (val (double.nearest _ _ _)) 0 = _
  rw [vx, vy, ← hA, ← hB]
  have hc : cmpV (A * P2 (min i j + 1074).toNat) (B * P2 (min i j + 1074).toNat) = cmpV A B := by unfold cmpV; rw [compare_mul _ _ _ (P2_pos _)]
  rw [hc]
  by_cases h0 : A + -B = 0
  · rw [hs.2.2.1 (by omega), show A = B from by omega, cmpV_self, cmpV_self]
  · have := hs.2.2.2 (by omega)
    rw [if_neg h0] at this ⊢
    by_cases h1 : A + -B < 0
    · rw [decide_eq_true h1, if_pos rfl] at this
      rw [decide_eq_true h1, cmpV_lt this, cmpV_lt (by omega)]
    · rw [decide_eq_false h1, if_neg (by decide)] at this
      rw [decide_eq_false h1, cmpV_gt this, cmpV_gt (by omega)]

/-- An exact word of an int reads as a number. -/
theorem read_of_val {y : Nat} {n : Int} (hy : nanB y = false) (h1 : -9223372036854775808 ≤ n) (h2 : n ≤ 9223372036854775808) (h : val y = ival n) : ∃ s m i, double.read y = .number s m i ∧ -1074 ≤ i := by
  have b := ival_bound h1 h2
  rcases read_not_nan hy with ⟨s, m, i, e, hm, hi, hi'⟩ | ⟨s, e⟩
  · exact ⟨s, m, i, e, hi⟩
  · rw [val_inf y s e] at h
    cases s
    · rw [if_neg (by decide)] at h; omega
    · rw [if_pos rfl] at h; omega
end Fm
