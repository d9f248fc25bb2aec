/- Plain facts on float64: ints against floats; what is whole. -/
import Derived.Test.YtidokamfppdnaaaGreatDoorFm3
namespace Fm
open Ieee

/-- The words of -2^63 and 2^63. -/
def loW : Nat := 14114281232179134464
def hiW : Nat := 4890909195324358656

theorem P2_63 : P2 63 = 9223372036854775808 := by decide

theorem val_hi : val hiW = ival 9223372036854775808 := by
  have r : double.read hiW = .number false 4503599627370496 11 := by decide
  unfold val ival
  rw [r]
  have e : V (.number false 4503599627370496 11) = ((4503599627370496 : Nat) : Int) * P2 ((11 : Int) + 1074).toNat := rfl
  rw [e, show ((11 : Int) + 1074).toNat = 11 + 1074 from rfl, P2_add, ← Int.mul_assoc, show ((4503599627370496 : Nat) : Int) * P2 11 = 9223372036854775808 from by decide]
theorem val_lo : val loW = ival (-9223372036854775808) := by
  have r : double.read loW = .number true 4503599627370496 11 := by decide
  unfold val ival
  rw [r]
  have e : V (.number true 4503599627370496 11) = -(((4503599627370496 : Nat) : Int) * P2 ((11 : Int) + 1074).toNat) := rfl
  rw [e, show ((11 : Int) + 1074).toNat = 11 + 1074 from rfl, P2_add, ← Int.mul_assoc, show ((4503599627370496 : Nat) : Int) * P2 11 = 9223372036854775808 from by decide, Int.neg_mul]
theorem val_zero : val 0 = 0 := by
  have r : double.read 0 = .number false 0 (-1074) := by decide
  unfold val
  rw [r]
  have e : V (.number false 0 (-1074)) = ((0 : Nat) : Int) * P2 ((-1074 : Int) + 1074).toNat := rfl
  rw [e]; simp
theorem nan_hi : nanB hiW = false := by decide
theorem nan_lo : nanB loW = false := by decide
theorem nan_zero : nanB 0 = false := by decide

/-- Does the number, rounded down, lie among the ints of 64 bits? -/
def within (x : Nat) : Prop := nanB x = false ∧ ival (-9223372036854775808) ≤ val x ∧ val x < ival 9223372036854775808

theorem order_eq {x y : Nat} (hx : nanB x = false) (hy : nanB y = false) : double.order x y = some (compare (val x) (val y)) := order_val hx hy

theorem lt_iff {x y : Nat} (hx : nanB x = false) (hy : nanB y = false) : (double.order x y == some .lt) = decide (val x < val y) := by
  rw [order_eq hx hy, Bool.eq_iff_iff]; simp [Int.compare_eq_lt]
theorem gt_iff {x y : Nat} (hx : nanB x = false) (hy : nanB y = false) : (double.order x y == some .gt) = decide (val y < val x) := by
  rw [order_eq hx hy, Bool.eq_iff_iff]; simp [Int.compare_eq_gt]
theorem eq_iff {x y : Nat} (hx : nanB x = false) (hy : nanB y = false) : (double.order x y == some .eq) = decide (val x = val y) := by
  rw [order_eq hx hy, Bool.eq_iff_iff]; simp
theorem ge_iff {x y : Nat} (hx : nanB x = false) (hy : nanB y = false) : (double.order x y == some .gt || double.order x y == some .eq) = decide (val y ≤ val x) := by
  rw [gt_iff hx hy, eq_iff hx hy, Bool.eq_iff_iff]; simp; omega
theorem cmp_nan {x y : Nat} (h : nanB x = true ∨ nanB y = true) (o : Ordering) : (double.order x y == some o) = false := by
  rcases h with h | h
  · rw [order_nan_left h]; rfl
  · rw [order_nan_right h]; rfl

/-- The test of both texts: 'f >= -2^63 && f < 2^63'. -/
theorem within_test (x : Nat) : ((double.order x loW == some .gt || double.order x loW == some .eq) && double.order x hiW == some .lt) = true ↔ within x := by
  unfold within
  cases h : nanB x
  · rw [ge_iff h nan_lo, lt_iff h nan_hi, val_lo, val_hi]; simp
  · rw [cmp_nan (Or.inl h)]; simp [cmp_nan (Or.inl h)]

theorem ival_bound {n : Int} (h1 : -9223372036854775808 ≤ n) (h2 : n ≤ 9223372036854775808) : -(P2 2200) < ival n ∧ ival n < P2 2200 := by
  have e : P2 2200 = P2 1126 * P2 1074 := by rw [← P2_add]
  have e63 : P2 63 < P2 1126 := P2_lt (by omega)
  rw [P2_63] at e63
  unfold ival
  rw [e, ← Int.neg_mul]
  exact ⟨Int.mul_lt_mul_of_pos_right (by omega) (P2_pos _), Int.mul_lt_mul_of_pos_right (by omega) (P2_pos _)⟩

theorem val_inf (x : Nat) (s : Bool) (h : double.read x = .infinity s) : val x = if s then -(P2 2200) else P2 2200 := by
  unfold val; rw [h]; rfl

/-- A word whose value is an int is cut to that int. -/
theorem trunc_of_val {y : Nat} {n : Int} (hy : nanB y = false) (h1 : -9223372036854775808 ≤ n) (h2 : n ≤ 9223372036854775808) (h : val y = ival n) : trunc y = some n := by
  have b := ival_bound h1 h2
  rcases read_not_nan hy with ⟨s, m, i, e, hm, hi, hi'⟩ | ⟨s, e⟩
  · obtain ⟨q, r, t1, t2, t3, _, _, _⟩ := finite e hm hi hi'
    rw [t1]
    rw [t2] at h
    have hp := P2_pos 1074
    -- the rest is nought
    have key : ∀ k : Int, (q : Int) * P2 1074 + r = k * P2 1074 → (q : Int) = k := by
      intro k hk
      have a1 : (q : Int) * P2 1074 ≤ k * P2 1074 := by omega
      have a2 : k * P2 1074 < (q + 1) * P2 1074 := by rw [Int.add_mul, Int.one_mul]; omega
      have b1 := Int.le_of_mul_le_mul_right a1 hp
      have b2 := Int.lt_of_mul_lt_mul_right a2 (Int.le_of_lt hp)
      omega
    cases s
    · rw [if_neg (by decide)] at h ⊢
      rw [key n h]
    · rw [if_pos rfl] at h ⊢
      have := key (-n) (by unfold ival at h; rw [Int.neg_mul]; omega)
      rw [this]; simp
  · rw [val_inf y s e] at h
    cases s
    · rw [if_neg (by decide)] at h; omega
    · rw [if_pos rfl] at h; omega

/-- The nearest word of an int whose magnitude the format has is that int. -/
theorem ofInt_exact (n : Int) (m j : Nat) (hn : n.natAbs = m * 2 ^ j) (hm : m < 9007199254740992) (hj : j ≤ 971) : val (ofInt n) = ival n ∧ nanB (ofInt n) = false ∧ ofInt n < 18446744073709551616 := by
  have e : ofInt n = double.nearest (decide (n < 0)) (m * 2 ^ j) 0 := by unfold ofInt Format.write; rw [hn]
  have h := nearest_exact (decide (n < 0)) m j hm hj
  rw [e]
  refine ⟨?_, h.2.1, h.2.2⟩
  unfold val ival
  rw [h.1, ← hn]
  by_cases h0 : n < 0
  · rw [decide_eq_true h0, if_pos rfl, show -(n.natAbs : Int) = n from by omega]
  · rw [decide_eq_false h0, if_neg (by decide), show (n.natAbs : Int) = n from by omega]

/-- What is told of a number within the ints: cut towards nought it is t; rounded down it is d; both are words that the format has. -/
theorem within_parts {x : Nat} (h : within x) : ∃ t d : Int, trunc x = some t ∧ -9223372036854775808 ≤ t ∧ t ≤ 9223372036854775807 ∧ -9223372036854775808 ≤ d ∧ d ≤ 9223372036854775807 ∧
    val (ofInt t) = ival t ∧ nanB (ofInt t) = false ∧ val (floorW x) = ival d ∧ nanB (floorW x) = false ∧ floorW x < 18446744073709551616 ∧ trunc (floorW x) = some d ∧
    ival d ≤ val x ∧ val x < ival (d + 1) ∧ ival (t - 1) < val x ∧ val x < ival (t + 1) ∧ (val x = ival d ↔ val x = ival t) ∧ (∃ s m i, double.read x = .number s m i ∧ -1074 ≤ i) := by
  obtain ⟨hn, hlo, hhi⟩ := h
  have blo := ival_bound (n := -9223372036854775808) (by omega) (by omega)
  have bhi := ival_bound (n := 9223372036854775808) (by omega) (by omega)
  rcases read_not_nan hn with ⟨s, m, i, e, hm, hi, hi'⟩ | ⟨s, e⟩
  · obtain ⟨q, r, t1, t2, t3, t4, ⟨m', j, t5, t6, t7⟩, t8⟩ := finite e hm hi hi'
    have hp := P2_pos 1074
    have hj : j ≤ 971 := by omega
    -- the magnitude of the number rounded down
    obtain ⟨D, hD⟩ : ∃ D : Nat, D = q + (s && r != 0).toNat := ⟨_, rfl⟩
    obtain ⟨m2, j2, d1, d2, d3⟩ : ∃ m2 j2 : Nat, D = m2 * 2 ^ j2 ∧ m2 < 9007199254740992 ∧ j2 ≤ 971 := by
      by_cases hc : (s && r != 0) = true
      · have hr0 : r ≠ 0 := by simp at hc; exact hc.2
        refine ⟨q + 1, 0, by rw [hD, hc]; simp, by have := t8 hr0; omega, by omega⟩
      · refine ⟨m', j, by rw [hD, Bool.eq_false_iff.2 hc, ← t5]; rfl, t6, hj⟩
    have hf : floorW x = double.nearest s (m2 * 2 ^ j2) 0 := by
      unfold floorW; rw [t4, ← hD, d1]; rfl
    have hfe := nearest_exact s m2 j2 d2 d3
    rw [← d1] at hfe
    have hvf : val (floorW x) = ival (if s then -(D : Int) else D) := by
      unfold val ival; rw [hf, ← d1, hfe.1]; cases s
      · rw [if_neg (by decide), if_neg (by decide)]
      · rw [if_pos rfl, if_pos rfl]
    have hnf : nanB (floorW x) = false := by rw [hf, ← d1]; exact hfe.2.1
    have hlf : floorW x < 18446744073709551616 := by rw [hf, ← d1]; exact hfe.2.2
    rw [t2] at hlo hhi
    unfold ival at hlo hhi
    have hq : ∀ k : Int, (q : Int) * P2 1074 + r < k * P2 1074 → (q : Int) < k := fun k hk => Int.lt_of_mul_lt_mul_right (by omega : (q : Int) * P2 1074 < k * P2 1074) (Int.le_of_lt hp)
    have hq' : ∀ k : Int, (q : Int) * P2 1074 + r ≤ k * P2 1074 → (q : Int) ≤ k := fun k hk => Int.le_of_mul_le_mul_right (by omega : (q : Int) * P2 1074 ≤ k * P2 1074) hp
    cases s
    · rw [if_neg (by decide)] at t1 t2 hlo hhi hvf
      have hD' : D = q := by rw [hD]; rfl
      rw [hD'] at hvf
      have b1 := hq _ hhi
      have hx := ofInt_exact (q : Int) m' j (by rw [Int.natAbs_natCast]; exact t5) t6 hj
      refine ⟨q, q, t1, by omega, by omega, by omega, by omega, hx.1, hx.2.1, hvf, hnf, hlf, trunc_of_val hnf (by omega) (by omega) hvf, ?_, ?_, ?_, ?_, Iff.rfl, ⟨_, _, _, e, hi⟩⟩
      · rw [t2]; unfold ival; omega
      · rw [t2]; unfold ival; rw [Int.add_mul, Int.one_mul]; omega
      · rw [t2]; unfold ival; rw [Int.sub_mul, Int.one_mul]; omega
      · rw [t2]; unfold ival; rw [Int.add_mul, Int.one_mul]; omega
    · rw [if_pos rfl] at t1 t2 hlo hhi hvf
      rw [Int.neg_mul] at hlo
      have b1 := hq' 9223372036854775808 (by omega)
      have hx := ofInt_exact (-(q : Int)) m' j (by rw [Int.natAbs_neg, Int.natAbs_natCast]; exact t5) t6 hj
      by_cases hr : r = 0
      · subst hr
        have hD' : D = q := by rw [hD]; rfl
        rw [hD'] at hvf
        refine ⟨-(q : Int), -(q : Int), t1, by omega, by omega, by omega, by omega, hx.1, hx.2.1, hvf, hnf, hlf, trunc_of_val hnf (by omega) (by omega) hvf, ?_, ?_, ?_, ?_, Iff.rfl, ⟨_, _, _, e, hi⟩⟩
        · rw [t2]; unfold ival; rw [Int.neg_mul]; omega
        · rw [t2]; unfold ival; rw [Int.add_mul, Int.one_mul, Int.neg_mul]; omega
        · rw [t2]; unfold ival; rw [Int.sub_mul, Int.one_mul, Int.neg_mul]; omega
        · rw [t2]; unfold ival; rw [Int.add_mul, Int.one_mul, Int.neg_mul]; omega
      · have hD' : D = q + 1 := by rw [hD]; simp [hr]
        rw [hD'] at hvf
        have b2 : (q : Int) < 9223372036854775808 := Int.lt_of_mul_lt_mul_right (by omega : (q : Int) * P2 1074 < 9223372036854775808 * P2 1074) (Int.le_of_lt hp)
        have hvf' : val (floorW x) = ival (-(q : Int) - 1) := by rw [hvf]; congr 1; omega
        refine ⟨-(q : Int), -(q : Int) - 1, t1, by omega, by omega, by omega, by omega, hx.1, hx.2.1, hvf', hnf, hlf, trunc_of_val hnf (by omega) (by omega) hvf', ?_, ?_, ?_, ?_, ?_, ⟨_, _, _, e, hi⟩⟩
        · rw [t2]; unfold ival; rw [Int.sub_mul, Int.one_mul, Int.neg_mul]; omega
        · rw [t2]; unfold ival; rw [show -(q : Int) - 1 + 1 = -(q : Int) from by omega, Int.neg_mul]; omega
        · rw [t2]; unfold ival; rw [Int.sub_mul, Int.one_mul, Int.neg_mul]; omega
        · rw [t2]; unfold ival; rw [Int.add_mul, Int.one_mul, Int.neg_mul]; omega
        · rw [t2]; unfold ival; rw [Int.sub_mul, Int.one_mul, Int.neg_mul]; omega
  · exfalso
    rw [val_inf x s e] at hlo hhi
    cases s
    · rw [if_neg (by decide)] at hhi; omega
    · rw [if_pos rfl] at hlo; omega
end Fm
