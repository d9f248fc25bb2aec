/- Joined: Fm1 Fm2 Fm3 Fm4 Fm5 N1 N2 N3 N4 N5. -/
import Ieee.Arith
import Derived.Laws.FloatBits
import Derived.Test.YtgkgpjbbmnfnmaaGreatDoorRows
import Derived.Test.YtgkgpjbbmnfnmaaGreatDoorGA
import Derived.WalkKit
import Derived.WalkSpells
import Derived.WalkLawsBesides
import Derived.Laws.EntriesVeiled
import Derived.Deep.QuietTactic
import Derived.BigQuiet
import Derived.Lib.ConvBytes
import Derived.Lib.AtoiAllMem
import Derived.Lib.Hide
import Derived.Laws.Strings3
import Derived.Laws.Closers25
import Derived.Laws.Closers25b
import Derived.BigCall
import Derived.BigGuard
/- Plain facts on the words of float64: which are NaNs, how they are ordered, what is exact. -/
namespace Fm
open Ieee

/-- A power of two, kept shut. -/
def P2 (n : Nat) : Int := 2 ^ n
theorem P2_pos (n : Nat) : 0 < P2 n := Int.pow_pos (by decide)
theorem P2_add (a b : Nat) : P2 (a + b) = P2 a * P2 b := Int.pow_add ..
theorem P2_lt {a b : Nat} (h : a < b) : P2 a < P2 b := Int.pow_lt_pow_of_lt (by decide) h
theorem P2_nat (n : Nat) : ((2 ^ n : Nat) : Int) = P2 n := by unfold P2; simp

/-- Is the word a NaN? -/
def nanB (x : Nat) : Bool := decide (9218868437227405312 < x % 9223372036854775808)

theorem D_signWeight : double.signWeight = 9223372036854775808 := by decide
theorem D_binade : double.binade = 4503599627370496 := by decide
theorem D_infRung : double.infRung = 9218868437227405312 := by decide
theorem D_leastPlace : double.leastPlace = -1074 := by decide
/-- The scaled value of a datum: a number times 2 ^ 1074; an infinity is beyond all of them. -/
def V : Datum → Int
  | .number s m i => if s then -((m : Int) * P2 (i + 1074).toNat) else (m : Int) * P2 (i + 1074).toNat
  | .infinity s => if s then -(P2 2200) else P2 2200
  | .nan _ _ => 0

/-- What reading gives. -/
theorem read_eq (x : Nat) : double.read x =
    (if x % 9223372036854775808 < 4503599627370496 then .number (x / 9223372036854775808 % 2 == 1) (x % 9223372036854775808) (-1074)
    else if x % 9223372036854775808 < 9218868437227405312 then
      .number (x / 9223372036854775808 % 2 == 1) (4503599627370496 + x % 9223372036854775808 % 4503599627370496) (-1074 + ((x % 9223372036854775808 / 4503599627370496 - 1 : Nat) : Int))
    else if x % 9223372036854775808 = 9218868437227405312 then .infinity (x / 9223372036854775808 % 2 == 1)
    else .nan (x / 9223372036854775808 % 2 == 1) (x % 9223372036854775808 - 9218868437227405312)) := by
  unfold Format.read
  rw [D_signWeight, D_binade, D_infRung, D_leastPlace]

theorem read_nan {x : Nat} (h : nanB x = true) : ∃ s t, double.read x = .nan s t := by
  unfold nanB at h
  have h := of_decide_eq_true h
  exact ⟨_, _, by rw [read_eq, if_neg (by omega), if_neg (by omega), if_neg (by omega)]⟩

theorem read_not_nan {x : Nat} (h : nanB x = false) : (∃ s m i, double.read x = .number s m i ∧ m < 2 ^ 53 ∧ -1074 ≤ i ∧ i ≤ 971) ∨ (∃ s, double.read x = .infinity s) := by
  unfold nanB at h
  have h := of_decide_eq_false h
  by_cases h1 : x % 9223372036854775808 < 4503599627370496
  · left; refine ⟨_, _, _, by rw [read_eq, if_pos h1], by omega, by omega, by omega⟩
  · by_cases h2 : x % 9223372036854775808 < 9218868437227405312
    · left; refine ⟨_, _, _, by rw [read_eq, if_neg h1, if_pos h2], by omega, by omega, ?_⟩
      have : x % 9223372036854775808 / 4503599627370496 ≤ 2046 := by omega
      omega
    · right; refine ⟨_, by rw [read_eq, if_neg h1, if_neg h2, if_pos (by omega)]⟩

theorem order_nan_left {x y : Nat} (h : nanB x = true) : double.order x y = none := by
  obtain ⟨s, t, e⟩ := read_nan h
  unfold Format.order
  rw [e]; rfl
theorem signed_eq (s : Bool) (m k : Nat) : signed s m k = if s then -((m : Int) * P2 k) else (m : Int) * P2 k := by
  unfold signed
  rw [Nat.shiftLeft_eq, Int.natCast_mul, P2_nat]

theorem compare_mul (a b : Int) (c : Int) (h : 0 < c) : compare (a * c) (b * c) = compare a b := by
  rcases Int.lt_trichotomy a b with h1 | h1 | h1
  · rw [Int.compare_eq_lt.2 h1, Int.compare_eq_lt.2 (Int.mul_lt_mul_of_pos_right h1 h)]
  · subst h1; rw [Int.compare_eq_eq.2 rfl, Int.compare_eq_eq.2 rfl]
  · rw [Int.compare_eq_gt.2 h1, Int.compare_eq_gt.2 (Int.mul_lt_mul_of_pos_right h1 h)]

theorem V_signed (s : Bool) (m : Nat) (i base : Int) (h : base ≤ i) (hb : -1074 ≤ base) : V (.number s m i) = signed s m (i - base).toNat * P2 (base + 1074).toNat := by
  rw [signed_eq]
  show (if s then _ else _) = _
  have e : (i + 1074).toNat = (i - base).toNat + (base + 1074).toNat := by omega
  rw [e, P2_add]
  cases s <;> simp [Int.mul_assoc, Int.neg_mul]

theorem V_bound (s : Bool) (m : Nat) (i : Int) (hm : m < 2 ^ 53) (hi : i ≤ 971) : -(P2 2200) < V (.number s m i) ∧ V (.number s m i) < P2 2200 := by
  have h1 : (m : Int) * P2 (i + 1074).toNat < P2 2200 := by
    have e0 : (m : Int) ≤ P2 53 := by rw [← P2_nat]; omega
    have e1 : (m : Int) * P2 (i + 1074).toNat ≤ P2 53 * P2 (i + 1074).toNat := Int.mul_le_mul_of_nonneg_right e0 (Int.le_of_lt (P2_pos _))
    have e2 : P2 53 * P2 (i + 1074).toNat = P2 (53 + (i + 1074).toNat) := (P2_add ..).symm
    have e3 : P2 (53 + (i + 1074).toNat) < P2 2200 := P2_lt (by omega)
    omega
  have h0 : 0 ≤ (m : Int) * P2 (i + 1074).toNat := Int.mul_nonneg (by omega) (Int.le_of_lt (P2_pos _))
  have hb := P2_pos 2200
  have e : V (.number s m i) = if s then -((m : Int) * P2 (i + 1074).toNat) else (m : Int) * P2 (i + 1074).toNat := rfl
  rw [e]
  cases s
  · rw [if_neg (by decide)]; omega
  · rw [if_pos rfl]; omega

/-- The order of two words that are no NaNs is that of their values. -/
theorem order_val {x y : Nat} (hx : nanB x = false) (hy : nanB y = false) : double.order x y = some (compare (V (double.read x)) (V (double.read y))) := by
  unfold Format.order
  rcases read_not_nan hx with ⟨s, m, i, e, hm, hi, hi'⟩ | ⟨s, e⟩ <;> rcases read_not_nan hy with ⟨t, n, j, f, hn, hj, hj'⟩ | ⟨t, f⟩ <;> rw [e, f]
  · show some (compare _ _) = _
    rw [V_signed s m i (min i j) (by omega) (by omega), V_signed t n j (min i j) (by omega) (by omega), compare_mul _ _ _ (P2_pos _)]
  · have b := V_bound s m i hm hi'
    show some _ = _
    cases t
    · rw [Int.compare_eq_lt.2 (by show _ < P2 2200; exact b.2)]; rfl
    · rw [Int.compare_eq_gt.2 (by show -(P2 2200) < _; exact b.1)]; rfl
  · have b := V_bound t n j hn hj'
    show some _ = _
    cases s
    · rw [Int.compare_eq_gt.2 (by show _ < P2 2200; exact b.2)]; rfl
    · rw [Int.compare_eq_lt.2 (by show -(P2 2200) < _; exact b.1)]; rfl
  · cases s <;> cases t
    · rw [Int.compare_eq_eq.2 rfl]; rfl
    · rw [Int.compare_eq_gt.2 (by show -(P2 2200) < P2 2200; have := P2_pos 2200; omega)]; rfl
    · rw [Int.compare_eq_lt.2 (by show -(P2 2200) < P2 2200; have := P2_pos 2200; omega)]; rfl
    · rw [Int.compare_eq_eq.2 rfl]; rfl

theorem order_self (x : Nat) : double.order x x = if nanB x then none else some .eq := by
  cases h : nanB x
  · rw [order_val h h, Int.compare_eq_eq.2 rfl]; rfl
  · rw [order_nan_left h]; rfl
end Fm

/- Plain facts on float64: the negative, sums and products turned round, whole parts, what is exact. -/
namespace Fm
open Ieee

/-- The word with its sign turned. -/
def neg (x : Nat) : Nat := x ^^^ 2 ^ (double.exponentBits + double.fractionBits)

theorem sum_comm (a b : Datum) : a.sum b = b.sum a := by
  cases a <;> cases b <;> simp only [Datum.sum]
  · rename_i s m i t n j
    rw [show min i j = min j i from by omega]
    have e : ∀ A B : Int, A + B = B + A := Int.add_comm
    rw [e]
    cases s <;> cases t <;> rfl
  · rename_i s t
    cases s <;> cases t <;> rfl

theorem product_comm (a b : Datum) : a.product b = b.product a := by
  cases a <;> cases b <;> simp only [Datum.product]
  · rename_i s m i t n j
    rw [Nat.mul_comm, Int.add_comm, Bool.xor_comm]
  · rename_i s t
    rw [Bool.xor_comm]

theorem add_comm (x y : Nat) : double.add x y = double.add y x := by unfold Format.add; rw [sum_comm]
theorem mul_comm (x y : Nat) : double.mul x y = double.mul y x := by unfold Format.mul; rw [product_comm]
end Fm

/- Plain facts on float64: a number's whole part, and how an int stands to it. -/
namespace Fm
open Ieee

/-- The scaled value of a word. -/
def val (x : Nat) : Int := V (double.read x)

/-- The scaled value of an int. -/
def ival (n : Int) : Int := n * P2 1074

/-- The word nearest to an int. -/
def ofInt (n : Int) : Nat := double.write (.number (n < 0) n.natAbs 0)

/-- The parts of a number: its magnitude's whole part and what is left, scaled. -/
theorem parts (m : Nat) (i : Int) (hi : -1074 ≤ i) : ∃ q r : Nat, (m <<< i.toNat) / 2 ^ (-i).toNat = q ∧ ((m <<< i.toNat) % 2 ^ (-i).toNat != 0) = (r != 0) ∧ (m : Int) * P2 (i + 1074).toNat = (q : Int) * P2 1074 + (r : Int) ∧ (r : Int) < P2 1074 ∧
    (∃ m' j : Nat, q = m' * 2 ^ j ∧ m' ≤ m ∧ j ≤ i.toNat) ∧ (0 ≤ i → r = 0) ∧ (i < 0 → 2 * q ≤ m) := by
  by_cases h : 0 ≤ i
  · refine ⟨m * 2 ^ i.toNat, 0, ?_, ?_, ?_, P2_pos _, ⟨m, i.toNat, rfl, Nat.le_refl _, Nat.le_refl _⟩, fun _ => rfl, fun h' => by omega⟩
    · rw [Nat.shiftLeft_eq, show (-i).toNat = 0 from by omega, Nat.pow_zero, Nat.div_one]
    · rw [show (-i).toNat = 0 from by omega, Nat.pow_zero, Nat.mod_one]
    · rw [show (i + 1074).toNat = i.toNat + 1074 from by omega, P2_add, ← Int.mul_assoc, Int.natCast_mul, P2_nat]; simp
  · obtain ⟨k, hk⟩ : ∃ k : Nat, (-i).toNat = k := ⟨_, rfl⟩
    have hk0 : 0 < k := by omega
    have ep : P2 1074 = P2 k * P2 (i + 1074).toNat := by rw [← P2_add, show k + (i + 1074).toNat = 1074 from by omega]
    have hp : 0 < 2 ^ k := Nat.two_pow_pos _
    have hpk : ((2 ^ k : Nat) : Int) = P2 k := P2_nat k
    have hmod := Nat.mod_lt m hp
    have hdm := Nat.div_add_mod m (2 ^ k)
    have hpos := P2_pos (i + 1074).toNat
    refine ⟨m / 2 ^ k, (m % 2 ^ k) * 2 ^ (i + 1074).toNat, ?_, ?_, ?_, ?_, ⟨m / 2 ^ k, 0, by simp, Nat.div_le_self _ _, Nat.zero_le _⟩, fun h' => by omega, fun _ => ?_⟩
    · rw [hk, show i.toNat = 0 from by omega, Nat.shiftLeft_zero]
    · rw [hk, show i.toNat = 0 from by omega, Nat.shiftLeft_zero, Bool.eq_iff_iff]
      have := Nat.two_pow_pos (i + 1074).toNat
      simp only [bne_iff_ne, ne_eq, Nat.mul_eq_zero]
      constructor
      · intro h1 h2; rcases h2 with h2 | h2; exact h1 h2; omega
      · intro h1 h2; exact h1 (Or.inl h2)
    · rw [ep, Int.natCast_mul, P2_nat, ← Int.mul_assoc, ← Int.add_mul, ← hpk, ← Int.natCast_mul, ← Int.natCast_add, Nat.mul_comm (m / 2 ^ k), hdm]
    · rw [ep, Int.natCast_mul, P2_nat, ← hpk]
      exact Int.mul_lt_mul_of_pos_right (by omega) hpos
    · have h2 : 2 ≤ 2 ^ k := by
        have : 2 ^ 1 ≤ 2 ^ k := Nat.pow_le_pow_right (by decide) hk0
        omega
      have : 2 * (m / 2 ^ k) ≤ 2 ^ k * (m / 2 ^ k) := Nat.mul_le_mul_right _ h2
      omega

end Fm

/- Plain facts on float64: ints against floats; what is whole. -/
namespace Fm
open Ieee

/-- Does the number, rounded down, lie among the ints of 64 bits? -/
def within (x : Nat) : Prop := nanB x = false ∧ ival (-9223372036854775808) ≤ val x ∧ val x < ival 9223372036854775808

end Fm

/- Plain facts on float64: how an int stands to a float, in the words of both texts; words of one value. -/
namespace Fm
open Ieee

end Fm

/- Numbers made, and ints and texts with a point read. Out of the numbers' own texts, renumbered. -/
namespace Go.Proofs.YtgkgpjbbmnfnmaaGreatDoor
open Go.RowKit
set_option linter.unusedSimpArgs false
set_option linter.unusedVariables false

/-- A value of the language, as the program holds it. -/
abbrev AV (t n : Int) : Value := .agg #[.int .i64 t, .int .i64 n]
/-- The bits of an int. -/
def B (n : Int) : Nat := (IntKind.u64.wrap n).toNat
/-- The int of bits. -/
def bi (x : Nat) : Int := wrap64 (x : Int)
/-- The N of Float. -/
def flt (x : Nat) : Int := if Fm.nanB x then 9221120237041090561 else bi x
/-- Is it a number? -/
def isNum (t n : Int) : Bool := t == 2 || (t == 3 && (!Fm.nanB (B n) || n == 9221120237041090561))
theorem B_eq {n : Int} : (B n : Int) = n % 18446744073709551616 := by
  unfold B; rw [IntKind.wrap_u64]; omega
theorem B_bi {x : Nat} (h : x < 18446744073709551616) : B (bi x) = x := by
  have := B_eq (n := bi x); unfold bi wrap64 at this ⊢; omega
theorem bi_bounds (x : Nat) : -9223372036854775808 ≤ bi x ∧ bi x ≤ 9223372036854775807 := by
  unfold bi wrap64; omega
theorem flt_bounds (x : Nat) : -9223372036854775808 ≤ flt x ∧ flt x ≤ 9223372036854775807 := by
  unfold flt; have := bi_bounds x; split <;> omega
theorem call_frombits (n : Int) (w : World) : (callFunc 153 #[.int .u64 (IntKind.u64.wrap n)]).run Tryz.prog w = .ok (.value (.float .f64 (B n))) w := by kernel_rfl
theorem call_bits (x : Nat) (w : World) : (callFunc 152 #[.float .f64 x]).run Tryz.prog w = .ok (.value (.int .u64 x)) w := by kernel_rfl
set_option maxHeartbeats 400000 in
theorem Int_any (n : Int) (w : World) :
    Calls Tryz.prog 119 #[.int .i64 n] w fun e w' => e = .returned (AV 2 n) ∧ Below w.heap.size w w' := by
  go_enter Tryz.func119, Tryz.ntmps119
  go_wp2
  exact bodyPost_ret (v := AV 2 n) (by simp [results, Tryz.results119, go_sem]) rfl ⟨rfl, (Below.refl _ _).alloc (Nat.le_refl _) _⟩
set_option maxHeartbeats 400000 in
theorem pointed_any (t n : Int) (w : World) :
    Calls Tryz.prog 121 #[AV t n] w fun e w' => e = .returned (.float .f64 (B n)) ∧ Below w.heap.size w w' := by
  have hc := call_frombits n
  go_enter Tryz.func121, Tryz.ntmps121
  go_wp2
  go_ret
  exact ⟨rfl, (Below.refl _ _).alloc (Nat.le_refl _) _⟩
theorem isnan_eq (x : Nat) : (FloatKind.f64.format.order x x != some .eq) = Fm.nanB x := by
  show (Ieee.double.order x x != some .eq) = _
  rw [Fm.order_self]; cases Fm.nanB x <;> rfl
set_option maxHeartbeats 400000 in
theorem IsNaN_any (x : Nat) (w : World) :
    Calls Tryz.prog 149 #[.float .f64 x] w fun e w' => e = .returned (.bool (Fm.nanB x)) ∧ w' = w := by
  go_enter Tryz.func149, Tryz.ntmps149
  go_wp2
  go_ret
  exact ⟨by rw [← isnan_eq x]; rfl, rfl⟩
set_option maxHeartbeats 400000 in
theorem ofBits_any (x : Int) (w : World) :
    Calls Tryz.prog 115 #[.int .u64 x] w fun e w' => e = .returned (AV 3 (wrap64 x)) ∧ Below w.heap.size w w' := by
  go_enter Tryz.func115, Tryz.ntmps115
  go_wp2
  exact bodyPost_ret (v := AV 3 (wrap64 x)) (by simp [results, Tryz.results115, go_sem]) rfl ⟨rfl, (Below.refl _ _).alloc (Nat.le_refl _) _⟩
theorem bcell {W w1 : World} (hb : Below W.heap.size W w1) : (∀ b o, b < W.heap.size → w1.cell? ⟨b, o, none⟩ = W.cell? ⟨b, o, none⟩) ∧ (∀ b o, b < W.heap.size → w1.frozen? ⟨b, o, none⟩ = W.frozen? ⟨b, o, none⟩) :=
  ⟨fun b o h => hb.cell (p := ⟨b, o, none⟩) h, fun b o h => hb.frozen (p := ⟨b, o, none⟩) h⟩
set_option maxHeartbeats 400000 in
theorem Float_any (x : Nat) (w : World) :
    Calls Tryz.prog 120 #[.float .f64 x] w fun e w' => e = .returned (AV 3 (flt x)) ∧ Below w.heap.size w w' := by
  cases h : Fm.nanB x
  · have hk := call_bits x
    go_enter Tryz.func120, Tryz.ntmps120
    go_wp2_with (first | (go_at_call 149; refine (IsNaN_any _ _).mono ?_; rintro e w' ⟨rfl, rfl⟩))
    go_wp2_with fail
    refine (ofBits_any _ _).mono ?_
    rintro e w1 ⟨rfl, hb⟩
    obtain ⟨hc, hf⟩ := bcell hb
    have hz : w.heap.size < w1.heap.size := by have := hb.size; simp at this; omega
    go_wp2
    exact bodyPost_ret (v := AV 3 (wrap64 x)) (by simp [results, Tryz.results120, go_sem, hc]) rfl ⟨by simp [flt, h, bi], ((((Below.refl _ _).alloc (Nat.le_refl _) _).trans (hb.mono (by simp))).setCell (Nat.le_refl _) _).setCell (Nat.le_refl _) _⟩
  · go_enter Tryz.func120, Tryz.ntmps120
    go_wp2_with (first | (go_at_call 149; refine (IsNaN_any _ _).mono ?_; rintro e w' ⟨rfl, rfl⟩))
    go_wp2_with fail
    refine (ofBits_any _ _).mono ?_
    rintro e w1 ⟨rfl, hb⟩
    obtain ⟨hc, hf⟩ := bcell hb
    have hz : w.heap.size < w1.heap.size := by have := hb.size; simp at this; omega
    go_wp2
    exact bodyPost_ret (v := AV 3 (wrap64 9221120237041090561)) (by simp [results, Tryz.results120, go_sem, hc]) rfl ⟨by simp [flt, h, wrap64], ((((Below.refl _ _).alloc (Nat.le_refl _) _).trans (hb.mono (by simp))).setCell (Nat.le_refl _) _).setCell (Nat.le_refl _) _⟩
theorem wrapnan {n : Int} (h1 : -9223372036854775808 ≤ n) (h2 : n ≤ 9223372036854775807) : (IntKind.u64.wrap n == 9221120237041090561) = (n == 9221120237041090561) := by
  rw [IntKind.wrap_u64, Bool.eq_iff_iff]; simp only [beq_iff_eq]; omega
set_option maxHeartbeats 400000 in
theorem Is_any (t n : Int) (w : World) (h1 : -9223372036854775808 ≤ n) (h2 : n ≤ 9223372036854775807) :
    Calls Tryz.prog 116 #[AV t n] w fun e w' => e = .returned (.bool (isNum t n)) ∧ Below w.heap.size w w' := by
  by_cases ht : t = 2
  · subst ht
    go_enter Tryz.func116, Tryz.ntmps116
    go_wp2
    go_ret
    exact ⟨by simp [isNum], (Below.refl _ _).alloc (Nat.le_refl _) _⟩
  · have ht2 : (t == 2) = false := by simp [ht]
    by_cases ht' : t = 3
    · subst ht'
      have hn := wrapnan h1 h2
      clear h1 h2 ht
      cases hb : (n == 9221120237041090561)
      · rw [hb] at hn
        go_enter Tryz.func116, Tryz.ntmps116
        go_wp2_with fail
        refine (pointed_any _ _ _).mono ?_
        rintro e w1 ⟨rfl, hb1⟩
        go_wp2_with (first | (go_at_call 149; refine (IsNaN_any _ _).mono ?_; rintro e w' ⟨rfl, rfl⟩))
        go_ret
        exact ⟨by simp [isNum, hb], ((Below.refl _ _).alloc (Nat.le_refl _) _).trans (hb1.mono (by simp))⟩
      · rw [hb] at hn
        go_enter Tryz.func116, Tryz.ntmps116
        go_wp2
        go_ret
        exact ⟨by simp [isNum, hb], (Below.refl _ _).alloc (Nat.le_refl _) _⟩
    · have ht3 : (t == 3) = false := by simp [ht']
      go_enter Tryz.func116, Tryz.ntmps116
      go_wp2
      go_ret
      exact ⟨by simp [isNum, ht2, ht3], (Below.refl _ _).alloc (Nat.le_refl _) _⟩
theorem num_cases {t n : Int} (h : isNum t n = true) (ht : ¬ t = 2) : t = 3 := by
  unfold isNum at h; simp [ht] at h; exact h.1
/-- The ends of a walk with one box and one callee. -/
theorem end1 {w w1 : World} {o : Obj} (hb : Below (w.alloc o).heap.size (w.alloc o) w1) : Below w.heap.size w w1 :=
  ((Below.refl _ _).alloc (Nat.le_refl _) _).trans (hb.mono (by simp))
theorem size1 {w w1 : World} {o : Obj} (hb : Below (w.alloc o).heap.size (w.alloc o) w1) : w.heap.size < w1.heap.size := by
  have := hb.size; simp at this; omega
/-- The negative's N, and the error. -/
def ngN (t n : Int) : Int := if isNum t n then (if t = 2 then wrap64 (-n) else flt (Fm.neg (B n))) else 0
def ngT (t n : Int) : Int := if isNum t n then t else 0
def ngE (t n : Int) : Int := if isNum t n then 0 else 10
theorem end2 {w w1 : World} {o p : Obj} (hb : Below ((w.alloc o).alloc p).heap.size ((w.alloc o).alloc p) w1) : Below w.heap.size w w1 :=
  (((Below.refl _ _).alloc (Nat.le_refl _) _).alloc (by simp) _).trans (hb.mono (by simp; omega))
theorem size2 {w w1 : World} {o p : Obj} (hb : Below ((w.alloc o).alloc p).heap.size ((w.alloc o).alloc p) w1) : w.heap.size + 1 < w1.heap.size := by
  have := hb.size; simp at this; omega
set_option maxHeartbeats 1000000 in
theorem Neg_any (t n : Int) (w : World) (h1 : -9223372036854775808 ≤ n) (h2 : n ≤ 9223372036854775807) :
    Calls Tryz.prog 76 #[AV t n] w fun e w' => e = .returned (.tuple #[AV (ngT t n) (ngN t n), .int .i64 (ngE t n)]) ∧ Below w.heap.size w w' := by
  cases hi : isNum t n
  · have HN : Hid (ngT t n = 0 ∧ ngN t n = 0 ∧ ngE t n = 10) := ⟨by simp [ngT, hi], by simp [ngN, hi], by simp [ngE, hi]⟩
    go_enter Tryz.func76, Tryz.ntmps76
    go_wp2_with fail
    refine (Is_any _ _ _ h1 h2).mono ?_
    rintro e w1 ⟨rfl, hb⟩
    obtain ⟨hc, hf⟩ := bcell hb
    have hz := size2 hb
    go_wp2
    refine bodyPost_ret (v := .tuple #[AV 0 0, .int .i64 10]) (by simp [results, Tryz.results76, go_sem, hc]) rfl ⟨by rw [HN.out.1, HN.out.2.1, HN.out.2.2], ?_⟩
    exact ((end2 hb).setCell (by simp) _).setCell (by simp) _
  · by_cases ht : t = 2
    · subst ht
      have HN : Hid (ngT 2 n = 2 ∧ ngN 2 n = wrap64 (-n) ∧ ngE 2 n = 0) := ⟨by simp [ngT, hi], by simp [ngN, hi], by simp [ngE, hi]⟩
      go_enter Tryz.func76, Tryz.ntmps76
      go_wp2_with fail
      refine (Is_any _ _ _ h1 h2).mono ?_
      rintro e w1 ⟨rfl, hb⟩
      obtain ⟨hc, hf⟩ := bcell hb
      have hz := size2 hb
      go_wp2_with fail
      refine (Int_any _ _).mono ?_
      rintro e w2 ⟨rfl, hb2⟩
      obtain ⟨hc2, hf2⟩ := bcell hb2
      have hz2 := hb2.size
      go_wp2
      refine bodyPost_ret (v := .tuple #[AV 2 (wrap64 (-n)), .int .i64 0]) (by simp [results, Tryz.results76, go_sem, hc, hc2, hz]) rfl ⟨by rw [HN.out.1, HN.out.2.1, HN.out.2.2], ?_⟩
      exact (((end2 hb).trans (hb2.mono (by omega))).setCell (by simp) _).setCell (by simp) _
    · obtain rfl := num_cases hi ht
      clear ht
      have hneg : ∀ w, (Op.unary .neg (.float .f64 (B n))).run Tryz.prog w = .ok (.float .f64 (Fm.neg (B n))) w := fun _ => rfl
      have HN : Hid (ngT 3 n = 3 ∧ ngN 3 n = flt (Fm.neg (B n)) ∧ ngE 3 n = 0) := ⟨by simp [ngT, hi], by simp [ngN, hi], by simp [ngE, hi]⟩
      go_enter Tryz.func76, Tryz.ntmps76
      go_wp2_with fail
      refine (Is_any _ _ _ h1 h2).mono ?_
      rintro e w1 ⟨rfl, hb⟩
      obtain ⟨hc, hf⟩ := bcell hb
      have hz := size2 hb
      go_wp2_with fail
      refine (pointed_any _ _ _).mono ?_
      rintro e w2 ⟨rfl, hb2⟩
      obtain ⟨hc2, hf2⟩ := bcell hb2
      have hz2 := hb2.size
      have hz' : w.heap.size + 1 < w2.heap.size := by omega
      go_wp2_with fail
      refine (Float_any (Fm.neg (B n)) _).mono ?_
      rintro e w3 ⟨rfl, hb3⟩
      obtain ⟨hc3, hf3⟩ := bcell hb3
      have hz3 := hb3.size
      go_wp2
      refine bodyPost_ret (v := .tuple #[AV 3 (flt (Fm.neg (B n))), .int .i64 0]) (by simp [results, Tryz.results76, go_sem, hc, hc2, hc3, hz, hz']) rfl ⟨by rw [HN.out.1, HN.out.2.1, HN.out.2.2], ?_⟩
      exact ((((end2 hb).trans (hb2.mono (by omega))).trans (hb3.mono (by omega))).setCell (by simp) _).setCell (by simp) _
/-- The N of Float of what an operation gives; where it gives no number it is the one NaN. -/
def fltO : Option Nat → Int
  | none => 9221120237041090561
  | some r => flt r
theorem nan_drawn (x y t : Nat) : Fm.nanB ((Question.nanBits .f64 x y).cut t) = true := by
  have e : (Question.nanBits .f64 x y).cut t = (t % 2) * 9223372036854775808 + 9218868437227405312 + 1 + (t / 2) % 4503599627370495 := rfl
  rw [e]
  have h1 : t % 2 < 2 := Nat.mod_lt _ (by decide)
  have h2 : (t / 2) % 4503599627370495 < 4503599627370495 := Nat.mod_lt _ (by decide)
  generalize t % 2 = a at *
  generalize (t / 2) % 4503599627370495 = b at *
  unfold Fm.nanB
  exact decide_eq_true (by omega)
theorem run_float_any (op : BinOp) (h4 : op = .add ∨ op = .sub ∨ op = .mul ∨ op = .quo) (x y : Nat) (w : World) :
    ∃ r w1, (binOp op 164 (.float .f64 x) (.float .f64 y)).run Tryz.prog w = .ok (.float .f64 r) w1 ∧ flt r = fltO (floatBits op .f64 x y) ∧ Below w.heap.size w w1 := by
  cases h : floatBits op .f64 x y with
  | some r => exact ⟨r, w, run_float_arith w op 164 .f64 x y r h, rfl, Below.refl _ _⟩
  | none =>
    refine ⟨(Question.nanBits .f64 x y).cut (w.tape w.drawn (.nanBits .f64 x y)), w.drew, ?_, ?_, (Below.refl _ _).drew⟩
    · rcases h4 with rfl | rfl | rfl | rfl <;> simp only [floatBits] at h <;> simp [binOp, Op.floatArith, h, Question.forced]
    · unfold flt; rw [nan_drawn]; rfl
theorem chainB {w a b : World} (h : Hid (Below w.heap.size w a)) (k : Below a.heap.size a b) : Hid (Below w.heap.size w b) := h.out.trans (k.mono h.out.size)
theorem al {w : World} {b o' : Nat} {v : Value} {o : Obj} (h : w.cell? ⟨b, o', none⟩ = some v) (hb : b < w.heap.size) : (w.alloc o).cell? ⟨b, o', none⟩ = some v := by
  rw [((Below.refl w.heap.size w).alloc (Nat.le_refl _) o).cell (p := ⟨b, o', none⟩) hb]; exact h
theorem fro_later {a w : World} {b o' : Nat} {v : Bool} (k : Below a.heap.size a w) (h : a.frozen? ⟨b, o', none⟩ = v) (hb : b < a.heap.size) : w.frozen? ⟨b, o', none⟩ = v := by
  rw [k.frozen (p := ⟨b, o', none⟩) hb]; exact h
/-- Are all bytes among d, and one at least? -/
def inB (d : ByteArray) (c : UInt8) : Bool := !decide (Lib.indexByte d.data.toList c < 0)
def allB (s d : ByteArray) : Bool := s.data.toList.all (inB d) && !s.data.toList.isEmpty
theorem take_snoc (s : ByteArray) (k : Nat) (h : k < s.size) : s.data.toList.take (k + 1) = s.data.toList.take k ++ [s[k]] := by
  rw [List.take_succ_eq_append_getElem (by simpa using h)]; rfl
theorem all_not {s d : ByteArray} {k : Nat} (h : k < s.size) (hn : inB d s[k] = false) : allB s d = false := by
  unfold allB
  have : s.data.toList.all (inB d) = false := by
    rw [List.all_eq_false]
    exact ⟨s[k], List.getElem_mem (l := s.data.toList) (n := k) (by simpa using h), by rw [hn]; decide⟩
  rw [this]; rfl
theorem empty_eq (s : ByteArray) : s.toList.isEmpty = s.data.toList.isEmpty := by
  have h := decide_eq_emptyBytes s
  rw [← h, Bool.eq_iff_iff, decide_eq_true_eq, List.isEmpty_iff]
  constructor
  · intro e; rw [e]; rfl
  · intro e; exact Go.WideShapes.bytes_inj (by rw [e]; rfl)
theorem indexByte_b (d : ByteArray) (c : UInt8) (w : World) :
    Calls Tryz.prog 49 #[.string d, .int .u8 c.toNat] w fun e w' => e = .returned (.int .i64 (Lib.indexByte d.data.toList c)) ∧ w' = w := by
  have h := Tryz.strings_IndexByte d c.toNat w
  have e : ((c.toNat : Int).toNat).toUInt8 = c := by rw [Int.toNat_natCast]; exact UInt8.ofNat_toNat
  rw [e] at h
  exact h
set_option maxHeartbeats 1000000 in
theorem allOf_any (s d : ByteArray) (w : World) (hs : s.size ≤ maxLen) :
    Calls Tryz.prog 73 #[.string s, .string d] w fun e w' => e = .returned (.bool (allB s d)) ∧ w' = w := by
  unfold maxLen at hs
  go_enter Tryz.func73, Tryz.ntmps73
  go_wp2_with fail
  go_loop [8] (fun i => ∃ k : Nat, k ≤ s.size ∧ i = .int .i64 k ∧ Hid ((s.data.toList.take k).all (inB d) = true)) (fun i => s.size - (intOf i).toNat)
  case atStart => exact ⟨0, Nat.zero_le _, rfl, rfl⟩
  case round =>
    obtain ⟨k, hk, rfl, ha⟩ := hrel
    by_cases hlt : k < s.size
    · have HT : Hid (s.data.toList.take (k + 1) = s.data.toList.take k ++ [s[k]]) := take_snoc s k hlt
      by_cases hn : Lib.indexByte d.data.toList s[k] < 0
      · have HA : Hid (allB s d = false) := all_not hlt (by unfold inB; rw [decide_eq_true hn]; rfl)
        go_wp2_with (first | (go_at_call 49; refine (indexByte_b _ _ _).mono ?_; rintro e w' ⟨rfl, rfl⟩))
        go_ret
        exact ⟨by rw [HA.out]; rfl, rfl⟩
      · have HN : Hid (inB d s[k] = true) := by show inB d s[k] = true; unfold inB; rw [decide_eq_false hn]; rfl
        go_wp2_with (first | (go_at_call 49; refine (indexByte_b _ _ _).mono ?_; rintro e w' ⟨rfl, rfl⟩))
        go_round
        case rel => exact ⟨k + 1, by omega, by go_num, by show List.all _ _ = true; rw [HT.out, List.all_append, ha.out]; simp [HN.out]⟩
        case measure => simp [intOf]; omega
    · have he : k = s.size := by omega
      subst he
      have hA : (s.data.toList.take s.size).all (inB d) = true := ha.out
      rw [List.take_of_length_le (by simp)] at hA
      have HA : Hid (allB s d = !s.data.toList.isEmpty) := by show allB s d = _; unfold allB; rw [hA]; rfl
      clear ha hA
      go_wp2
      go_ret
      exact ⟨by rw [HA.out, ← empty_eq s]; rfl, rfl⟩
/-- A text cut at the first byte c. -/
def cutA (s : ByteArray) (c : UInt8) : ByteArray := if Lib.indexByte s.data.toList c < 0 then s else s.extract 0 (Lib.indexByte s.data.toList c).toNat
def cutZ (s : ByteArray) (c : UInt8) : ByteArray := if Lib.indexByte s.data.toList c < 0 then ⟨#[]⟩ else s.extract ((Lib.indexByte s.data.toList c).toNat + 1) s.size
def cutB (s : ByteArray) (c : UInt8) : Bool := !decide (Lib.indexByte s.data.toList c < 0)
theorem indexByte_lt (l : List UInt8) (c : UInt8) : Lib.indexByte l c < l.length ∨ l = [] := by
  induction l with
  | nil => exact Or.inr rfl
  | cons b l ih =>
    left
    unfold Lib.indexByte
    split
    · simp
    · split
      · simp; omega
      · rcases ih with ih | ih
        · simp; omega
        · subst ih; simp [Lib.indexByte] at *
set_option maxHeartbeats 1000000 in
theorem cutS_any (s : ByteArray) (c : UInt8) (w : World) (hs : s.size ≤ maxLen) :
    Calls Tryz.prog 117 #[.string s, .string ⟨#[c]⟩] w fun e w' => e = .returned (.tuple #[.string (cutA s c), .string (cutZ s c), .bool (cutB s c)]) ∧ Below w.heap.size w w' := by
  unfold maxLen at hs
  by_cases hi : Lib.indexByte s.data.toList c < 0
  · have HV : Hid (cutA s c = s ∧ cutZ s c = ⟨#[]⟩ ∧ cutB s c = false) := ⟨by simp [cutA, hi], by simp [cutZ, hi], by simp [cutB, hi]⟩
    go_enter Tryz.func117, Tryz.ntmps117
    go_wp2_with (first | (go_at_call 150; refine (Tryz.stringslite_Index_one _ _ _).mono ?_; rintro e w' ⟨rfl, rfl⟩))
    go_ret3
    exact ⟨by rw [HV.out.1, HV.out.2.1, HV.out.2.2]; rfl, Below.refl _ _⟩
  · obtain ⟨i, hk⟩ := Int.eq_ofNat_of_zero_le (show 0 ≤ Lib.indexByte s.data.toList c by omega)
    have hlt : i < s.size := by
      rcases indexByte_lt s.data.toList c with h | h
      · rw [hk] at h; rw [Lib.size_eq]; omega
      · rw [h] at hk; simp [Lib.indexByte] at hk
    have HV : Hid (cutA s c = s.extract 0 i ∧ cutZ s c = s.extract (i + 1) s.size ∧ cutB s c = true) := by
      refine ⟨?_, ?_, ?_⟩
      · unfold cutA; rw [if_neg hi, hk]; simp
      · unfold cutZ; rw [if_neg hi, hk]; simp
      · unfold cutB; rw [decide_eq_false hi]; rfl
    have HK : Hid (Lib.indexByte s.data.toList c = (i : Int)) := hk
    clear hi hk
    go_enter Tryz.func117, Tryz.ntmps117
    go_wp2_with fail
    refine (Tryz.stringslite_Index_one _ _ _).mono ?_
    rintro e w' ⟨rfl, rfl⟩
    rw [HK.out]
    go_wp2
    go_quiet (fail)
    go_wp2
    go_ret3
    exact ⟨by rw [HV.out.1, HV.out.2.1, HV.out.2.2]; rfl, below_drewN (Below.refl _ _) _⟩
set_option maxHeartbeats 1000000 in
theorem Cut_any (s : ByteArray) (c : UInt8) (w : World) (hs : s.size ≤ maxLen) :
    Calls Tryz.prog 72 #[.string s, .string ⟨#[c]⟩] w fun e w' => e = .returned (.tuple #[.string (cutA s c), .string (cutZ s c), .bool (cutB s c)]) ∧ Below w.heap.size w w' := by
  go_enter Tryz.func72, Tryz.ntmps72
  go_wp2_with fail
  refine (cutS_any _ _ _ hs).mono ?_
  rintro e w1 ⟨rfl, hb⟩
  go_wp2
  go_ret3
  exact ⟨rfl, hb⟩
/-- The words of the powers of ten. -/
def pw (k : Nat) : Nat := Fm.ofInt ((10 ^ k : Nat) : Int)
theorem pw_step : ∀ k : Nat, k < 15 → Ieee.double.mul (pw k) 4621819117588971520 = some (pw (k + 1)) := by decide +kernel
theorem pw_zero : pw 0 = 4607182418800017408 := by decide +kernel
set_option maxHeartbeats 1000000 in
theorem readPointed_range (a b : ByteArray) (w : World) (ha : a.size ≤ 140737488351232) (hb : b.size ≤ 140737488351232) (hl : 15 < a.size + b.size) :
    Calls Tryz.prog 75 #[.string a, .string b] w fun e w' => e = .returned (.tuple #[AV 0 0, .int .i64 7]) ∧ Below w.heap.size w w' := by
  have hl' : (15 : Int) < (a.size : Int) + (b.size : Int) := by omega
  go_enter Tryz.func75, Tryz.ntmps75
  go_wp2
  refine bodyPost_ret (v := .tuple #[AV 0 0, .int .i64 7]) (by simp [results, Tryz.results75, go_sem]) rfl ⟨rfl, ?_⟩
  exact (Below.refl _ _).alloc (Nat.le_refl _) _
theorem ParseInt_ok (s : ByteArray) (v : Int) (w : World) (hs : s.size ≤ 140737488355328) (hp : Lib.parseIntB 64 s.data.toList = .ok v) :
    Calls Tryz.prog 118 #[.string s, .int .i64 10, .int .i64 64] w fun e w' => e = .returned (.tuple #[.int .i64 v, .nilIface]) ∧ Below w.heap.size w w' := by
  refine (Tryz.strconv_ParseInt_10_at64_ok s (by omega) v hp w).mono ?_
  rintro e w' ⟨rfl, h | ⟨t, h⟩⟩
  · exact ⟨rfl, by rw [h]; exact Below.refl _ _⟩
  · exact ⟨rfl, by rw [h]; exact Lib.bytesWorld_below _ _ _⟩
set_option maxHeartbeats 1000000 in
theorem readPointed_ok (a b : ByteArray) (v : Int) (w : World) (hl : a.size + b.size ≤ 15) (hp : Lib.parseIntB 64 (a ++ b).data.toList = .ok v) :
    Calls Tryz.prog 75 #[.string a, .string b] w fun e w' => e = .returned (.tuple #[AV 3 (fltO (floatBits .quo .f64 (Fm.ofInt v) (pw b.size))), .int .i64 0]) ∧ Below w.heap.size w w' := by
  have hl' : ¬ (15 : Int) < (a.size : Int) + (b.size : Int) := by omega
  have hz : (a ++ b).size ≤ 140737488355328 := by rw [ByteArray.size_append]; omega
  have HP : Hid (Lib.parseIntB 64 (a ++ b).data.toList = .ok v) := hp
  clear hp
  go_enter Tryz.func75, Tryz.ntmps75
  go_wp2_with fail
  refine (ParseInt_ok _ v _ hz HP.out).mono ?_
  rintro e w1 ⟨rfl, hb1⟩
  have k5 := cell_later hb1 (show (w.alloc (.cells #[.int .i64 0, .int .i64 0] 32)).cell? ⟨w.heap.size, 0, none⟩ = some (.int .i64 0) by simp [go_sem])
  have k6 := cell_later hb1 (show (w.alloc (.cells #[.int .i64 0, .int .i64 0] 32)).cell? ⟨w.heap.size, 1, none⟩ = some (.int .i64 0) by simp [go_sem])
  have z1 : w.heap.size < w1.heap.size := size1 hb1
  have l5 := fro_later hb1 (show (w.alloc (.cells #[.int .i64 0, .int .i64 0] 32)).frozen? ⟨w.heap.size, 0, none⟩ = false by simp [go_sem]) (by simp)
  have l6 := fro_later hb1 (show (w.alloc (.cells #[.int .i64 0, .int .i64 0] 32)).frozen? ⟨w.heap.size, 1, none⟩ = false by simp [go_sem]) (by simp)
  have HB : Hid (Below w.heap.size w w1) := end1 hb1
  clear hb1
  go_wp2_with fail
  go_loop [8, 25] (fun p i => ∃ k : Nat, k ≤ b.size ∧ i = .int .i64 k ∧ p = .float .f64 (pw k)) (fun _ i => b.size - (intOf i).toNat)
  case atStart => exact ⟨0, Nat.zero_le _, rfl, by rw [pw_zero]⟩
  case round =>
    obtain ⟨k, hk, rfl, rfl⟩ := hrel
    by_cases hlt : k < b.size
    · have hm : ∀ w, (binOp .mul 164 (.float .f64 (pw k)) (.float .f64 4621819117588971520)).run Tryz.prog w = .ok (.float .f64 (pw (k + 1))) w := fun w => run_float_arith w .mul 164 .f64 _ _ _ (pw_step k (by omega))
      go_wp2
      go_round
      case rel => exact ⟨k + 1, by omega, by go_num, rfl⟩
      case measure => simp [intOf]; omega
    · have he : k = b.size := by omega
      subst he
      clear hk hlt
      obtain ⟨r, w2, hr, hv, hb2⟩ := run_float_any .quo (by simp) (Fm.ofInt v) (pw b.size) w1
      have hr' : (binOp .quo 164 (.float .f64 (floatOfInt .f64 v)) (.float .f64 (pw b.size))).run Tryz.prog w1 = .ok (.float .f64 r) w2 := hr
      have HV : Hid (flt r = fltO (floatBits .quo .f64 (Fm.ofInt v) (pw b.size))) := hv
      have HB := chainB HB hb2
      have k5 := cell_later hb2 k5
      have k6 := cell_later hb2 k6
      have l5 := fro_later hb2 l5 z1
      have l6 := fro_later hb2 l6 z1
      have z2 : w.heap.size < w2.heap.size := by have := hb2.size; omega
      clear hv hr hb2
      go_wp2_with fail
      refine (Float_any _ _).mono ?_
      rintro e w3 ⟨rfl, hb3⟩
      have HB := chainB HB hb3
      have k5 := cell_later hb3 k5
      have k6 := cell_later hb3 k6
      have l5 := fro_later hb3 l5 z2
      have l6 := fro_later hb3 l6 z2
      clear hb3
      go_wp2
      refine bodyPost_ret (v := .tuple #[AV 3 (flt r), .int .i64 0]) (by simp [results, Tryz.results75, go_sem, k5, k6]) rfl ⟨by rw [HV.out], ?_⟩
      exact (HB.out.setCell (by simp) _).setCell (by simp) _
set_option maxHeartbeats 1000000 in
theorem readInt_ok (s : ByteArray) (v : Int) (w : World) (hs : s.size ≤ 140737488355328) (hp : Lib.parseIntB 64 s.data.toList = .ok v) :
    Calls Tryz.prog 74 #[.string s] w fun e w' => e = .returned (.tuple #[AV 2 v, .int .i64 0]) ∧ Below w.heap.size w w' := by
  have HP : Hid (Lib.parseIntB 64 s.data.toList = .ok v) := hp
  clear hp
  go_enter Tryz.func74, Tryz.ntmps74
  go_wp2_with fail
  refine (ParseInt_ok _ v _ hs HP.out).mono ?_
  rintro e w1 ⟨rfl, hb1⟩
  have k5 := cell_later hb1 (show (w.alloc (.cells #[.int .i64 0, .int .i64 0] 32)).cell? ⟨w.heap.size, 0, none⟩ = some (.int .i64 0) by simp [go_sem])
  have k6 := cell_later hb1 (show (w.alloc (.cells #[.int .i64 0, .int .i64 0] 32)).cell? ⟨w.heap.size, 1, none⟩ = some (.int .i64 0) by simp [go_sem])
  have z1 : w.heap.size < w1.heap.size := size1 hb1
  have l5 := fro_later hb1 (show (w.alloc (.cells #[.int .i64 0, .int .i64 0] 32)).frozen? ⟨w.heap.size, 0, none⟩ = false by simp [go_sem]) (by simp)
  have l6 := fro_later hb1 (show (w.alloc (.cells #[.int .i64 0, .int .i64 0] 32)).frozen? ⟨w.heap.size, 1, none⟩ = false by simp [go_sem]) (by simp)
  have HB : Hid (Below w.heap.size w w1) := end1 hb1
  clear hb1
  go_wp2_with fail
  refine (Int_any _ _).mono ?_
  rintro e w3 ⟨rfl, hb3⟩
  have HB := chainB HB hb3
  have k5 := cell_later hb3 k5
  have k6 := cell_later hb3 k6
  have l5 := fro_later hb3 l5 z1
  have l6 := fro_later hb3 l6 z1
  clear hb3
  go_wp2
  refine bodyPost_ret (v := .tuple #[AV 2 v, .int .i64 0]) (by simp [results, Tryz.results74, go_sem, k5, k6]) rfl ⟨rfl, ?_⟩
  exact (HB.out.setCell (by simp) _).setCell (by simp) _
end Go.Proofs.YtgkgpjbbmnfnmaaGreatDoor

/- Read: what is no number; texts with a point. Out of the numbers' own texts, renumbered. -/
namespace Go.Proofs.YtgkgpjbbmnfnmaaGreatDoor
open Go.RowKit
set_option linter.unusedSimpArgs false
set_option linter.unusedVariables false

def zf : ByteArray := ⟨#[48, 102]⟩
def dash : ByteArray := ⟨#[45]⟩
def dec : ByteArray := ⟨#[48, 49, 50, 51, 52, 53, 54, 55, 56, 57]⟩
/-- The text without its sign, and what stands ahead of the point and behind it. -/
def unsg (s : ByteArray) : ByteArray := ⟨(Lib.trimPrefix s.data.toList dash.data.toList).toArray⟩
def ahd (s : ByteArray) : ByteArray := cutA (unsg s) 46
def bhd (s : ByteArray) : ByteArray := cutZ (unsg s) 46
def pnt (s : ByteArray) : Bool := cutB (unsg s) 46
/-- Has the text no form of digits? -/
def bad (s : ByteArray) : Bool := !allB (ahd s) dec || (pnt s && !allB (bhd s) dec)
theorem unsg_size (s : ByteArray) : (unsg s).size ≤ s.size := by
  rw [Lib.size_eq, Lib.size_eq s]
  unfold unsg Lib.trimPrefix
  split <;> simp
theorem cutA_size (s : ByteArray) (c : UInt8) : (cutA s c).size ≤ s.size := by
  unfold cutA; split
  · exact Nat.le_refl _
  · rw [ByteArray.size_extract]; omega
theorem cutZ_size (s : ByteArray) (c : UInt8) : (cutZ s c).size ≤ s.size := by
  unfold cutZ; split
  · exact Nat.zero_le _
  · rw [ByteArray.size_extract]; omega
/-- The box of a result behind a callee. -/
theorem rbox {w w1 : World} (hb1 : Below (w.alloc (.cells #[.int .i64 0, .int .i64 0] 32)).heap.size (w.alloc (.cells #[.int .i64 0, .int .i64 0] 32)) w1) :
    w1.cell? ⟨w.heap.size, 0, none⟩ = some (.int .i64 0) ∧ w1.cell? ⟨w.heap.size, 1, none⟩ = some (.int .i64 0) ∧ w1.frozen? ⟨w.heap.size, 0, none⟩ = false ∧ w1.frozen? ⟨w.heap.size, 1, none⟩ = false ∧ w.heap.size < w1.heap.size ∧ Hid (Below w.heap.size w w1) := by
  refine ⟨cell_later hb1 ?_, cell_later hb1 ?_, fro_later hb1 ?_ (by simp), fro_later hb1 ?_ (by simp), size1 hb1, end1 hb1⟩ <;> simp [go_sem]
set_option maxHeartbeats 1000000 in
theorem Read_bad (s : ByteArray) (w : World) (hs : s.size ≤ maxLen) (h0 : Lib.hasPrefix s.data.toList zf.data.toList = false) (hb : bad s = true) :
    Calls Tryz.prog 48 #[.string s] w fun e w' => e = .returned (.tuple #[AV 0 0, .int .i64 6]) ∧ Below w.heap.size w w' := by
  have b1 : (unsg s).size ≤ maxLen := Nat.le_trans (unsg_size s) hs
  have b2 : (ahd s).size ≤ maxLen := Nat.le_trans (cutA_size _ _) b1
  have b3 : (bhd s).size ≤ maxLen := Nat.le_trans (cutZ_size _ _) b1
  have H0 : Hid (Lib.hasPrefix s.data.toList zf.data.toList = false) := h0
  clear h0
  cases a1 : allB (ahd s) dec
  · clear hb
    go_enter Tryz.func48, Tryz.ntmps48
    go_wp2_with fail
    refine (Tryz.strings_CutPrefix s zf _).mono ?_
    rintro e w' ⟨rfl, rfl⟩
    rw [H0.out]
    go_wp2_with fail
    refine (Tryz.strings_CutPrefix s dash _).mono ?_
    rintro e w' ⟨rfl, rfl⟩
    go_wp2_with fail
    refine (Cut_any (unsg s) 46 _ b1).mono ?_
    rintro e w1 ⟨rfl, hb1⟩
    obtain ⟨k5, k6, l5, l6, z1, HB⟩ := rbox hb1
    clear hb1
    go_wp2_with fail
    refine (allOf_any (ahd s) dec _ b2).mono ?_
    rintro e w' ⟨rfl, rfl⟩
    go_wp2
    refine bodyPost_ret (v := .tuple #[AV 0 0, .int .i64 6]) (by simp [results, Tryz.results48, go_sem, k5, k6]) rfl ⟨rfl, ?_⟩
    exact (HB.out.setCell (by simp) _).setCell (by simp) _
  · have hp : pnt s = true := by unfold bad at hb; rw [a1] at hb; simp at hb; exact hb.1
    have a2 : allB (bhd s) dec = false := by unfold bad at hb; rw [a1] at hb; simp at hb; exact hb.2
    have hp' : cutB (unsg s) 46 = true := hp
    clear hb hp
    go_enter Tryz.func48, Tryz.ntmps48
    go_wp2_with fail
    refine (Tryz.strings_CutPrefix s zf _).mono ?_
    rintro e w' ⟨rfl, rfl⟩
    rw [H0.out]
    go_wp2_with fail
    refine (Tryz.strings_CutPrefix s dash _).mono ?_
    rintro e w' ⟨rfl, rfl⟩
    go_wp2_with fail
    refine (Cut_any (unsg s) 46 _ b1).mono ?_
    rintro e w1 ⟨rfl, hb1⟩
    obtain ⟨k5, k6, l5, l6, z1, HB⟩ := rbox hb1
    clear hb1
    go_wp2_with fail
    refine (allOf_any (ahd s) dec _ b2).mono ?_
    rintro e w' ⟨rfl, rfl⟩
    go_wp2_with fail
    refine (allOf_any (bhd s) dec _ b3).mono ?_
    rintro e w' ⟨rfl, rfl⟩
    go_wp2
    refine bodyPost_ret (v := .tuple #[AV 0 0, .int .i64 6]) (by simp [results, Tryz.results48, go_sem, k5, k6]) rfl ⟨rfl, ?_⟩
    exact (HB.out.setCell (by simp) _).setCell (by simp) _
set_option maxHeartbeats 1000000 in
theorem Read_pt (s : ByteArray) (v : Int) (w : World) (hs : s.size ≤ maxLen) (h0 : Lib.hasPrefix s.data.toList zf.data.toList = false) (hb : bad s = false) (hp : pnt s = true)
    (hl : (ahd s).size + (bhd s).size ≤ 15) (hv : Lib.parseIntB 64 (ahd s ++ bhd s).data.toList = .ok v) (hn : Lib.hasPrefix s.data.toList dash.data.toList = false) :
    Calls Tryz.prog 48 #[.string s] w fun e w' => e = .returned (.tuple #[AV 3 (fltO (floatBits .quo .f64 (Fm.ofInt v) (pw (bhd s).size))), .int .i64 0]) ∧ Below w.heap.size w w' := by
  have b1 : (unsg s).size ≤ maxLen := Nat.le_trans (unsg_size s) hs
  have b2 : (ahd s).size ≤ maxLen := Nat.le_trans (cutA_size _ _) b1
  have b3 : (bhd s).size ≤ maxLen := Nat.le_trans (cutZ_size _ _) b1
  have H0 : Hid (Lib.hasPrefix s.data.toList zf.data.toList = false) := h0
  have HN : Hid (Lib.hasPrefix s.data.toList dash.data.toList = false) := hn
  have HP : Hid (Lib.parseIntB 64 (ahd s ++ bhd s).data.toList = .ok v) := hv
  have a1 : allB (ahd s) dec = true := by unfold bad at hb; simp at hb; exact hb.1
  have a2 : allB (bhd s) dec = true := by unfold bad at hb; simp [hp] at hb; exact hb.2
  have hp' : cutB (unsg s) 46 = true := hp
  clear h0 hn hv hb hp
  · skip
    go_enter Tryz.func48, Tryz.ntmps48
    go_wp2_with fail
    refine (Tryz.strings_CutPrefix s zf _).mono ?_
    rintro e w' ⟨rfl, rfl⟩
    rw [H0.out]
    go_wp2_with fail
    refine (Tryz.strings_CutPrefix s dash _).mono ?_
    rintro e w' ⟨rfl, rfl⟩
    rw [HN.out]
    go_wp2_with fail
    refine (Cut_any (unsg s) 46 _ b1).mono ?_
    rintro e w1 ⟨rfl, hb1⟩
    obtain ⟨k5, k6, l5, l6, z1, HB⟩ := rbox hb1
    clear hb1
    go_wp2_with fail
    refine (allOf_any (ahd s) dec _ b2).mono ?_
    rintro e w' ⟨rfl, rfl⟩
    go_wp2_with fail
    refine (allOf_any (bhd s) dec _ b3).mono ?_
    rintro e w' ⟨rfl, rfl⟩
    go_wp2_with fail
    refine (readPointed_ok (ahd s) (bhd s) v _ hl HP.out).mono ?_
    rintro e w2 ⟨rfl, hb2⟩
    have k5 := cell_later hb2 k5
    have k6 := cell_later hb2 k6
    have l5 := fro_later hb2 l5 z1
    have l6 := fro_later hb2 l6 z1
    have HB := chainB HB hb2
    have z2 : w.heap.size < w2.heap.size := by have := hb2.size; omega
    clear hb2
    generalize hN : fltO (floatBits .quo .f64 (Fm.ofInt v) (pw (bhd s).size)) = N
    have HV : Hid (fltO (floatBits .quo .f64 (Fm.ofInt v) (pw (bhd s).size)) = N) := hN
    clear hN
    go_wp2
    refine bodyPost_ret (v := .tuple #[AV 3 N, .int .i64 0]) (by simp [results, Tryz.results48, go_sem, k5, k6, z2]) rfl ⟨by rw [HV.out], ?_⟩
    exact ((HB.out.setCell (by simp) _).setCell (by simp) _).alloc (by simp; omega) _
end Go.Proofs.YtgkgpjbbmnfnmaaGreatDoor

/- Read: bits and ints. Out of the numbers' own texts, renumbered. -/
namespace Go.Proofs.YtgkgpjbbmnfnmaaGreatDoor
open Go.RowKit
set_option linter.unusedSimpArgs false
set_option linter.unusedVariables false

/-- What a hexadecimal digit is worth. -/
def hx (c : Nat) : Nat := if c ≤ 57 then c - 48 else c - 87
/-- The number of hexadecimal digits. -/
def hexV (l : List UInt8) : Nat := l.foldl (fun n c => n * 16 + hx c.toNat) 0
/-- Is it a digit? -/
def isHex (c : UInt8) : Bool := decide (48 ≤ c.toNat ∧ c.toNat ≤ 57) || decide (97 ≤ c.toNat ∧ c.toNat ≤ 102)
theorem isHex_cases {c : UInt8} (h : isHex c = true) : (48 ≤ c.toNat ∧ c.toNat ≤ 57 ∧ hx c.toNat = c.toNat - 48) ∨ (97 ≤ c.toNat ∧ c.toNat ≤ 102 ∧ hx c.toNat = c.toNat - 87) := by
  unfold isHex at h
  simp only [Bool.or_eq_true, decide_eq_true_eq] at h
  rcases h with h | h
  · exact Or.inl ⟨h.1, h.2, by unfold hx; rw [if_pos h.2]⟩
  · exact Or.inr ⟨h.1, h.2, by unfold hx; rw [if_neg (by omega)]⟩
theorem hx_lt {c : UInt8} (h : isHex c = true) : hx c.toNat < 16 := by rcases isHex_cases h with h | h <;> omega
theorem hexV_snoc (l : List UInt8) (c : UInt8) : hexV (l ++ [c]) = hexV l * 16 + hx c.toNat := by simp [hexV]
theorem hexF_lt : ∀ (l : List UInt8) (n : Nat), (∀ c ∈ l, isHex c = true) → l.foldl (fun n c => n * 16 + hx c.toNat) n < (n + 1) * 16 ^ l.length
  | [], n, _ => by simp
  | c :: l, n, h => by
    have h1 := hexF_lt l (n * 16 + hx c.toNat) (fun x hx => h x (by simp [hx]))
    have h2 := hx_lt (h c (by simp))
    rw [List.foldl_cons, List.length_cons, Nat.pow_succ]
    refine Nat.lt_of_lt_of_le h1 ?_
    rw [Nat.mul_comm (16 ^ l.length) 16, ← Nat.mul_assoc]
    exact Nat.mul_le_mul_right _ (by omega)
theorem hexV_lt (l : List UInt8) (h : ∀ c ∈ l, isHex c = true) : hexV l < 16 ^ l.length := by
  have := hexF_lt l 0 h; simpa [hexV] using this
theorem low_or : ∀ n : Nat, 97 ≤ n → n ≤ 102 → bits .or .u8 (n : Int) 32 = (n : Int) := by
  intro n h1 h2
  have h : n = 97 ∨ n = 98 ∨ n = 99 ∨ n = 100 ∨ n = 101 ∨ n = 102 := by omega
  rcases h with rfl | rfl | rfl | rfl | rfl | rfl <;> decide +kernel
set_option maxHeartbeats 16000000 in
set_option maxRecDepth 100000 in
theorem ParseUint16 (t : ByteArray) (h16 : t.size = 16) (hd : ∀ c ∈ t.data.toList, isHex c = true) (w : World) :
    Calls Tryz.prog 147 #[.string t, .int .i64 16, .int .i64 64] w fun e w' => e = .returned (.tuple #[.int .u64 (hexV t.data.toList), .nilIface]) ∧ w' = Lib.bytesWorld w 5 t := by
  have hemp : t.toList.isEmpty = false := by
    rw [← decide_eq_emptyBytes]
    exact decide_eq_false (fun h => by rw [h] at h16; exact absurd h16 (by decide))
  have hcv := Lib.run_convert_string_bytes (P := Tryz.prog) w 9 106 5 t (u := .string) Tryz.underlying9 Tryz.underlying106 Tryz.underlying5
  have hB : ∀ j, j < t.size → (Lib.bytesWorld w 5 t).cell? ⟨w.heap.size, j, none⟩ = some (.int .u8 (t.data.toList.getD j 0).toNat) := fun j hj => Lib.bytesWorld_cell w 5 t j hj
  obtain ⟨W1, hW1⟩ : ∃ W1, W1 = Lib.bytesWorld w 5 t := ⟨_, rfl⟩
  rw [← hW1] at hcv hB ⊢
  clear hW1
  obtain ⟨bs, hL⟩ : ∃ bs, bs = t.data.toList := ⟨_, rfl⟩
  have hLn : bs.length = 16 := by rw [hL, ← Lib.size_eq, h16]
  rw [← hL] at hB hd ⊢
  clear hL
  rw [h16] at hB
  have HB : Hid (∀ j, j < 16 → W1.cell? ⟨w.heap.size, j, none⟩ = some (.int .u8 (bs.getD j 0).toNat)) := hB
  have HD : Hid (bs.length = 16 ∧ ∀ c ∈ bs, isHex c = true) := ⟨hLn, hd⟩
  clear hB hLn hd
  have hmv : IntKind.u64.wrap (IntKind.u64.wrap 18446744073709551616 - 1) = 18446744073709551615 := by
    rw [IntKind.wrap_u64, IntKind.wrap_u64]
    decide
  go_enter Tryz.func147, Tryz.ntmps147
  go_wp2
  go_loop [12, 13, 101] (fun vu vn vi => ∃ (k acc : Nat) (a : Int), vu = .bool false ∧ vn = .int .u64 a ∧ vi = .int .i64 k ∧ k ≤ 16 ∧ Hid (a = (acc : Int) ∧ acc = hexV (bs.take k)))
    (fun _ _ vi => 16 - (intOf vi).toNat)
  case atStart => exact ⟨0, 0, 0, rfl, rfl, rfl, by omega, rfl, rfl⟩
  case round =>
    obtain ⟨k, acc, a, rfl, rfl, rfl, hk, hh⟩ := hrel
    by_cases hkn : k < 16
    · have hkl : k < bs.length := by rw [HD.out.1]; exact hkn
      have hc := HB.out k hkn
      have hget : bs.getD k 0 = bs[k] := by simp [List.getD, List.getElem?_eq_getElem hkl]
      rw [hget] at hc
      have HS : Hid (hexV (bs.take (k + 1)) = acc * 16 + hx (bs[k]).toNat) := by
        show _ = _
        rw [List.take_succ_eq_append_getElem hkl, hexV_snoc, hh.out.2]
      have hhx := HD.out.2 bs[k] (List.getElem_mem hkl)
      generalize bs[k] = c at hc HS hhx
      have ha2 : acc < 1152921504606846976 := by
        rw [hh.out.2]
        have h1 := hexV_lt (bs.take k) (fun c hc => HD.out.2 c (List.mem_of_mem_take hc))
        have h2 : (16 : Nat) ^ (bs.take k).length ≤ 16 ^ 15 := Nat.pow_le_pow_right (by decide) (by rw [List.length_take]; omega)
        have h3 : (16 : Nat) ^ 15 = 1152921504606846976 := by decide
        omega
      have a0 : 0 ≤ a := by have := hh.out.1; omega
      have a1 : a < 1152921504606846976 := by have := hh.out.1; omega
      have HA : Hid (a = (acc : Int)) := hh.out.1
      clear hh hget ha2
      rcases isHex_cases hhx with ⟨d0, d1, d2⟩ | ⟨d0, d1, d2⟩
      · have HN : Hid (a * 16 + ((c.toNat : Int) - 48) = ((acc * 16 + (c.toNat - 48) : Nat) : Int) ∧ acc * 16 + (c.toNat - 48) = hexV (bs.take (k + 1))) := ⟨by have := HA.out; omega, by rw [HS.out, d2]⟩
        clear HS HA d2 hhx
        have i0 : (48 : Int) ≤ (c.toNat : Int) := by omega
        have i1 : (c.toNat : Int) ≤ 57 := by omega
        clear d0 d1
        go_wp2
        refine ⟨⟨k + 1, acc * 16 + (c.toNat - 48), a * 16 + ((c.toNat : Int) - 48), rfl, (by first | rfl | (congr 1; omega)), (by first | rfl | (congr 1; omega)), by omega, HN.out⟩, by simp [intOf]; omega⟩
      · have HN : Hid (a * 16 + ((c.toNat : Int) - 87) = ((acc * 16 + (c.toNat - 87) : Nat) : Int) ∧ acc * 16 + (c.toNat - 87) = hexV (bs.take (k + 1))) := ⟨by have := HA.out; omega, by rw [HS.out, d2]⟩
        have i0 : (97 : Int) ≤ (c.toNat : Int) := by omega
        have i1 : (c.toNat : Int) ≤ 102 := by omega
        have hor : bits .or .u8 (c.toNat : Int) 32 = (c.toNat : Int) := low_or c.toNat d0 d1
        clear HS HA d2 hhx d0 d1
        go_wp2_with (go_at_call 172; refine (Tryz.internal_strconv_lower _ _).mono ?_; rintro e w' ⟨rfl, rfl⟩)
        refine ⟨⟨k + 1, acc * 16 + (c.toNat - 87), a * 16 + ((c.toNat : Int) - 87), rfl, (by first | rfl | (congr 1; omega)), (by first | rfl | (congr 1; omega)), by omega, HN.out⟩, by simp [intOf]; omega⟩
    · have hkk : k = 16 := by omega
      subst hkk
      have HE : Hid (a = ((hexV bs : Nat) : Int)) := by
        show _ = _
        rw [hh.out.1, hh.out.2, List.take_of_length_le (by rw [HD.out.1]; exact Nat.le_refl _)]
      clear hh
      go_wp2
      go_ret2
      exact ⟨by rw [← HE.out]; rfl, rfl⟩
theorem bytesWorld_below (w : World) (t : ByteArray) : Below w.heap.size w (Lib.bytesWorld w 5 t) := Lib.bytesWorld_below _ _ _
set_option maxHeartbeats 1000000 in
theorem ParseUint16P (t : ByteArray) (h16 : t.size = 16) (hd : ∀ c ∈ t.data.toList, isHex c = true) (w : World) :
    Calls Tryz.prog 114 #[.string t, .int .i64 16, .int .i64 64] w fun e w' => e = .returned (.tuple #[.int .u64 (hexV t.data.toList), .nilIface]) ∧ Below w.heap.size w w' := by
  go_enter Tryz.func114, Tryz.ntmps114
  go_wp2_with fail
  refine (ParseUint16 t h16 hd _).mono ?_
  rintro e w1 ⟨rfl, hw⟩
  have hb : Below w.heap.size w w1 := by rw [hw]; exact bytesWorld_below w t
  clear hw
  go_wp2
  go_ret2
  exact ⟨rfl, hb⟩
def hexd : ByteArray := ⟨#[48, 49, 50, 51, 52, 53, 54, 55, 56, 57, 97, 98, 99, 100, 101, 102]⟩
theorem inB_nat : ∀ n, n < 256 → inB hexd (UInt8.ofNat n) = isHex (UInt8.ofNat n) := by decide +kernel
theorem inB_hex (c : UInt8) : inB hexd c = isHex c := by
  have h := inB_nat c.toNat (UInt8.toNat_lt c)
  have e : UInt8.ofNat c.toNat = c := UInt8.ofNat_toNat
  rwa [e] at h
theorem allB_hex (s : ByteArray) (h : allB s hexd = true) : ∀ c ∈ s.data.toList, isHex c = true := by
  intro c hc
  unfold allB at h
  rw [Bool.and_eq_true, List.all_eq_true] at h
  rw [← inB_hex]; exact h.1 c hc
/-- What readBits gives. -/
def bitsT (s : ByteArray) : Value :=
  if s.size = 16 ∧ allB s hexd = true ∧ isNum 3 (wrap64 (hexV s.data.toList)) = true then .tuple #[AV 3 (wrap64 (hexV s.data.toList)), .int .i64 0] else .tuple #[AV 0 0, .int .i64 6]
set_option maxHeartbeats 2000000 in
theorem readBits_any (s : ByteArray) (w : World) (hs : s.size ≤ maxLen) :
    Calls Tryz.prog 71 #[.string s] w fun e w' => e = .returned (bitsT s) ∧ Below w.heap.size w w' := by
  by_cases h16 : s.size = 16
  · have h16' : (s.size : Int) = 16 := by omega
    cases ha : allB s hexd
    · have HT : Hid (bitsT s = .tuple #[AV 0 0, .int .i64 6]) := by show _ = _; unfold bitsT; rw [if_neg]; rintro ⟨_, h, _⟩; rw [ha] at h; cases h
      go_enter Tryz.func71, Tryz.ntmps71
      go_wp2_with (first | (go_at_call 73; refine (allOf_any s hexd _ hs).mono ?_; rintro e w' ⟨rfl, rfl⟩))
      refine bodyPost_ret (v := .tuple #[AV 0 0, .int .i64 6]) (by simp [results, Tryz.results71, go_sem]) rfl ⟨by rw [HT.out], ?_⟩
      exact (Below.refl _ _).alloc (Nat.le_refl _) _
    · have HH := allB_hex s ha
      have P1 : Hid (∀ w, Calls Tryz.prog 114 #[.string s, .int .i64 16, .int .i64 64] w fun e w' => e = .returned (.tuple #[.int .u64 (hexV s.data.toList), .nilIface]) ∧ Below w.heap.size w w') := fun w => ParseUint16P s h16 HH w
      obtain ⟨V, hV⟩ : ∃ V : Nat, V = hexV s.data.toList := ⟨_, rfl⟩
      obtain ⟨M, hM⟩ : ∃ M : Int, M = wrap64 (V : Int) := ⟨_, rfl⟩
      have m1 : -9223372036854775808 ≤ M ∧ M ≤ 9223372036854775807 := by rw [hM]; unfold wrap64; omega
      rw [← hV] at P1
      cases hi : isNum 3 M
      · have HT : Hid (bitsT s = .tuple #[AV 0 0, .int .i64 6]) := by
          show _ = _; unfold bitsT; rw [if_neg]; rintro ⟨_, _, h⟩; rw [← hV, ← hM, hi] at h; cases h
        have IS : Hid (∀ w, Calls Tryz.prog 116 #[AV 3 M] w fun e w' => e = .returned (.bool false) ∧ Below w.heap.size w w') := fun w => by
          have h := Is_any 3 M w m1.1 m1.2; rw [hi] at h; exact h
        have OB : Hid (∀ w, Calls Tryz.prog 115 #[.int .u64 (V : Int)] w fun e w' => e = .returned (AV 3 M) ∧ Below w.heap.size w w') := fun w => by
          rw [hM]; exact ofBits_any _ w
        clear hM hV HH hi m1
        go_enter Tryz.func71, Tryz.ntmps71
        go_wp2_with (first | (go_at_call 73; refine (allOf_any s hexd _ hs).mono ?_; rintro e w' ⟨rfl, rfl⟩))
        refine (P1.out _).mono ?_
        rintro e w1 ⟨rfl, hb1⟩
        obtain ⟨k5, k6, l5, l6, z1, HB⟩ := rbox hb1
        clear hb1
        go_wp2_with fail
        refine (OB.out _).mono ?_
        rintro e w2 ⟨rfl, hb2⟩
        have k5 := cell_later hb2 k5
        have k6 := cell_later hb2 k6
        have l5 := fro_later hb2 l5 z1
        have l6 := fro_later hb2 l6 z1
        have HB := chainB HB hb2
        have z2 : w.heap.size < w2.heap.size := by have := hb2.size; omega
        clear hb2
        go_wp2_with fail
        refine (IS.out _).mono ?_
        rintro e w3 ⟨rfl, hb3⟩
        have a5 := cell_later hb3 (show (w2.alloc (.cells #[.int .i64 3, .int .i64 M] 32)).cell? ⟨w2.heap.size, 0, none⟩ = some (.int .i64 3) by simp [go_sem])
        have a6 := cell_later hb3 (show (w2.alloc (.cells #[.int .i64 3, .int .i64 M] 32)).cell? ⟨w2.heap.size, 1, none⟩ = some (.int .i64 M) by simp [go_sem])
        have k5 := cell_later hb3 (al k5 z2)
        have k6 := cell_later hb3 (al k6 z2)
        have hA : Below w2.heap.size w2 (w2.alloc (.cells #[.int .i64 3, .int .i64 M] 32)) := (Below.refl _ _).alloc (Nat.le_refl _) _
        have z3 : w.heap.size < (w2.alloc (.cells #[.int .i64 3, .int .i64 M] 32)).heap.size := Nat.lt_of_lt_of_le z2 hA.size
        have l5 := fro_later hb3 (fro_later hA l5 z2) z3
        have l6 := fro_later hb3 (fro_later hA l6 z2) z3
        have HB := chainB (chainB HB hA) hb3
        clear hA hb3 z3
        go_wp2
        refine bodyPost_ret (v := .tuple #[AV 0 0, .int .i64 6]) (by simp [results, Tryz.results71, go_sem, k5, k6]) rfl ⟨by rw [HT.out], ?_⟩
        exact (HB.out.setCell (by simp) _).setCell (by simp) _
      · have HT : Hid (bitsT s = .tuple #[AV 3 M, .int .i64 0]) := by
          show _ = _; unfold bitsT; rw [if_pos ⟨h16, ha, by rw [← hV, ← hM]; exact hi⟩, ← hV, ← hM]
        have IS : Hid (∀ w, Calls Tryz.prog 116 #[AV 3 M] w fun e w' => e = .returned (.bool true) ∧ Below w.heap.size w w') := fun w => by
          have h := Is_any 3 M w m1.1 m1.2; rw [hi] at h; exact h
        have OB : Hid (∀ w, Calls Tryz.prog 115 #[.int .u64 (V : Int)] w fun e w' => e = .returned (AV 3 M) ∧ Below w.heap.size w w') := fun w => by
          rw [hM]; exact ofBits_any _ w
        clear hM hV HH hi m1
        go_enter Tryz.func71, Tryz.ntmps71
        go_wp2_with (first | (go_at_call 73; refine (allOf_any s hexd _ hs).mono ?_; rintro e w' ⟨rfl, rfl⟩))
        refine (P1.out _).mono ?_
        rintro e w1 ⟨rfl, hb1⟩
        obtain ⟨k5, k6, l5, l6, z1, HB⟩ := rbox hb1
        clear hb1
        go_wp2_with fail
        refine (OB.out _).mono ?_
        rintro e w2 ⟨rfl, hb2⟩
        have k5 := cell_later hb2 k5
        have k6 := cell_later hb2 k6
        have l5 := fro_later hb2 l5 z1
        have l6 := fro_later hb2 l6 z1
        have HB := chainB HB hb2
        have z2 : w.heap.size < w2.heap.size := by have := hb2.size; omega
        clear hb2
        go_wp2_with fail
        refine (IS.out _).mono ?_
        rintro e w3 ⟨rfl, hb3⟩
        have a5 := cell_later hb3 (show (w2.alloc (.cells #[.int .i64 3, .int .i64 M] 32)).cell? ⟨w2.heap.size, 0, none⟩ = some (.int .i64 3) by simp [go_sem])
        have a6 := cell_later hb3 (show (w2.alloc (.cells #[.int .i64 3, .int .i64 M] 32)).cell? ⟨w2.heap.size, 1, none⟩ = some (.int .i64 M) by simp [go_sem])
        have k5 := cell_later hb3 (al k5 z2)
        have k6 := cell_later hb3 (al k6 z2)
        have hA : Below w2.heap.size w2 (w2.alloc (.cells #[.int .i64 3, .int .i64 M] 32)) := (Below.refl _ _).alloc (Nat.le_refl _) _
        have z3 : w.heap.size < (w2.alloc (.cells #[.int .i64 3, .int .i64 M] 32)).heap.size := Nat.lt_of_lt_of_le z2 hA.size
        have l5 := fro_later hb3 (fro_later hA l5 z2) z3
        have l6 := fro_later hb3 (fro_later hA l6 z2) z3
        have HB := chainB (chainB HB hA) hb3
        clear hA hb3 z3
        go_wp2
        refine bodyPost_ret (v := .tuple #[AV 3 M, .int .i64 0]) (by simp [results, Tryz.results71, go_sem, k5, k6]) rfl ⟨by rw [HT.out], ?_⟩
        exact (HB.out.setCell (by simp) _).setCell (by simp) _
  · have HT : Hid (bitsT s = .tuple #[AV 0 0, .int .i64 6]) := by show _ = _; unfold bitsT; rw [if_neg]; rintro ⟨h, _⟩; exact h16 h
    have hne : ((s.size : Int) != 16) = true := by simp; omega
    go_enter Tryz.func71, Tryz.ntmps71
    go_wp2
    refine bodyPost_ret (v := .tuple #[AV 0 0, .int .i64 6]) (by simp [results, Tryz.results71, go_sem]) rfl ⟨by rw [HT.out], ?_⟩
    exact (Below.refl _ _).alloc (Nat.le_refl _) _
/-- What stands behind the mark. -/
def offm (s : ByteArray) : ByteArray := ⟨(Lib.trimPrefix s.data.toList zf.data.toList).toArray⟩
theorem offm_size (s : ByteArray) : (offm s).size ≤ s.size := by
  rw [Lib.size_eq, Lib.size_eq s]
  unfold offm Lib.trimPrefix
  split <;> simp
set_option maxHeartbeats 1000000 in
theorem Read_bits (s : ByteArray) (t m x : Int) (w : World) (hs : s.size ≤ maxLen) (h0 : Lib.hasPrefix s.data.toList zf.data.toList = true) (hr : bitsT (offm s) = .tuple #[AV t m, .int .i64 x]) :
    Calls Tryz.prog 48 #[.string s] w fun e w' => e = .returned (.tuple #[AV t m, .int .i64 x]) ∧ Below w.heap.size w w' := by
  have b1 : (offm s).size ≤ maxLen := Nat.le_trans (offm_size s) hs
  have H0 : Hid (Lib.hasPrefix s.data.toList zf.data.toList = true) := h0
  have RB : Hid (∀ w, Calls Tryz.prog 71 #[.string (offm s)] w fun e w' => e = .returned (.tuple #[AV t m, .int .i64 x]) ∧ Below w.heap.size w w') := fun w => by
    rw [← hr]; exact readBits_any (offm s) w b1
  clear h0 hr
  go_enter Tryz.func48, Tryz.ntmps48
  go_wp2_with fail
  refine (Tryz.strings_CutPrefix s zf _).mono ?_
  rintro e w' ⟨rfl, rfl⟩
  rw [H0.out]
  go_wp2_with fail
  refine (RB.out _).mono ?_
  rintro e w1 ⟨rfl, hb1⟩
  obtain ⟨k5, k6, l5, l6, z1, HB⟩ := rbox hb1
  clear hb1
  go_wp2
  refine bodyPost_ret (v := .tuple #[AV t m, .int .i64 x]) (by simp [results, Tryz.results48, go_sem, k5, k6]) rfl ⟨rfl, ?_⟩
  exact (HB.out.setCell (by simp) _).setCell (by simp) _
set_option maxHeartbeats 1000000 in
theorem Read_int (s : ByteArray) (v : Int) (w : World) (hs : s.size ≤ maxLen) (hz : s.size ≤ 140737488355328) (h0 : Lib.hasPrefix s.data.toList zf.data.toList = false) (hb : bad s = false) (hp : pnt s = false)
    (hv : Lib.parseIntB 64 s.data.toList = .ok v) :
    Calls Tryz.prog 48 #[.string s] w fun e w' => e = .returned (.tuple #[AV 2 v, .int .i64 0]) ∧ Below w.heap.size w w' := by
  have b1 : (unsg s).size ≤ maxLen := Nat.le_trans (unsg_size s) hs
  have b2 : (ahd s).size ≤ maxLen := Nat.le_trans (cutA_size _ _) b1
  have H0 : Hid (Lib.hasPrefix s.data.toList zf.data.toList = false) := h0
  have RI : Hid (∀ w, Calls Tryz.prog 74 #[.string s] w fun e w' => e = .returned (.tuple #[AV 2 v, .int .i64 0]) ∧ Below w.heap.size w w') := fun w => readInt_ok s v w hz hv
  have a1 : allB (ahd s) dec = true := by unfold bad at hb; simp at hb; exact hb.1
  have hp' : cutB (unsg s) 46 = false := hp
  clear h0 hv hb hp
  go_enter Tryz.func48, Tryz.ntmps48
  go_wp2_with fail
  refine (Tryz.strings_CutPrefix s zf _).mono ?_
  rintro e w' ⟨rfl, rfl⟩
  rw [H0.out]
  go_wp2_with fail
  refine (Tryz.strings_CutPrefix s dash _).mono ?_
  rintro e w' ⟨rfl, rfl⟩
  go_wp2_with fail
  refine (Cut_any (unsg s) 46 _ b1).mono ?_
  rintro e w1 ⟨rfl, hb1⟩
  obtain ⟨k5, k6, l5, l6, z1, HB⟩ := rbox hb1
  clear hb1
  go_wp2_with fail
  refine (allOf_any (ahd s) dec _ b2).mono ?_
  rintro e w' ⟨rfl, rfl⟩
  go_wp2_with fail
  refine (RI.out _).mono ?_
  rintro e w2 ⟨rfl, hb2⟩
  have k5 := cell_later hb2 k5
  have k6 := cell_later hb2 k6
  have l5 := fro_later hb2 l5 z1
  have l6 := fro_later hb2 l6 z1
  have HB := chainB HB hb2
  clear hb2
  go_wp2
  refine bodyPost_ret (v := .tuple #[AV 2 v, .int .i64 0]) (by simp [results, Tryz.results48, go_sem, k5, k6]) rfl ⟨rfl, ?_⟩
  exact (HB.out.setCell (by simp) _).setCell (by simp) _
end Go.Proofs.YtgkgpjbbmnfnmaaGreatDoor

/- Read: the rest. Out of the numbers' own texts, renumbered. -/
namespace Go.Proofs.YtgkgpjbbmnfnmaaGreatDoor
open Go.RowKit
set_option linter.unusedSimpArgs false
set_option linter.unusedVariables false

/-- The range error. -/
def ErrIs (W : World) : Prop := ∃ a : Addr, W.cell? ⟨5, 0, none⟩ = some (.iface 226 (.pointer (some a)))
theorem ixB_none : ∀ (l : List UInt8) (c : UInt8), (∀ x ∈ l, x ≠ c) → Lib.indexByte l c = -1
  | [], _, _ => rfl
  | b :: l, c, h => by
    unfold Lib.indexByte
    rw [if_neg (by simpa using h b (List.mem_cons_self ..)), ixB_none l c (fun x hx => h x (List.mem_cons_of_mem _ hx))]
    rfl
theorem inD_nat : ∀ n, n < 256 → inB dec (UInt8.ofNat n) = (decide (48 ≤ n) && decide (n ≤ 57)) := by decide +kernel
theorem inD (c : UInt8) : inB dec c = (decide (48 ≤ c.toNat) && decide (c.toNat ≤ 57)) := by
  have h := inD_nat c.toNat (UInt8.toNat_lt c)
  have e : UInt8.ofNat c.toNat = c := UInt8.ofNat_toNat
  rwa [e] at h
/-- What digits say. -/
def decF (n : Nat) (l : List UInt8) : Nat := l.foldl (fun n c => n * 10 + (c.toNat - 48)) n
def decV (l : List UInt8) : Nat := decF 0 l
theorem decF_ge : ∀ (l : List UInt8) (n : Nat), n ≤ decF n l
  | [], _ => Nat.le_refl _
  | c :: l, n => by
    have := decF_ge l (n * 10 + (c.toNat - 48))
    show n ≤ decF (n * 10 + (c.toNat - 48)) l
    omega
theorem decF_lt : ∀ (l : List UInt8) (n : Nat), (∀ c ∈ l, c.toNat ≤ 57) → decF n l < (n + 1) * 10 ^ l.length
  | [], n, _ => by simp [decF]
  | c :: l, n, h => by
    have h1 := decF_lt l (n * 10 + (c.toNat - 48)) (fun x hx => h x (by simp [hx]))
    have h2 := h c (by simp)
    show decF (n * 10 + (c.toNat - 48)) l < _
    rw [List.length_cons, Nat.pow_succ]
    refine Nat.lt_of_lt_of_le h1 ?_
    rw [Nat.mul_comm (10 ^ l.length) 10, ← Nat.mul_assoc]
    exact Nat.mul_le_mul_right _ (by omega)
theorem decV_lt (l : List UInt8) (h : ∀ c ∈ l, c.toNat ≤ 57) (k : Nat) (hk : l.length ≤ k) : decV l < 10 ^ k := by
  have h1 := decF_lt l 0 h
  have h2 : 10 ^ l.length ≤ 10 ^ k := Nat.pow_le_pow_right (by decide) hk
  unfold decV; omega
/-- The digits about the point. -/
def ptL (T : ByteArray) (i : Nat) : List UInt8 := T.data.toList.take i ++ T.data.toList.drop (i + 1)
theorem ptL_len (T : ByteArray) (i : Nat) (h : i < T.size) : (ptL T i).length + 1 = T.size := by
  unfold ptL; rw [List.length_append, List.length_take, List.length_drop, ← Lib.size_eq]; omega
theorem allB_mem {A : ByteArray} (h : allB A dec = true) : ∀ c ∈ A.data.toList, 48 ≤ c.toNat ∧ c.toNat ≤ 57 := fun c hc => by
  unfold allB at h
  rw [Bool.and_eq_true, List.all_eq_true] at h
  have := h.1 c hc
  rwa [inD, Bool.and_eq_true, decide_eq_true_eq, decide_eq_true_eq] at this
theorem ex_lo (T : ByteArray) (i : Nat) : (T.extract 0 i).data.toList = T.data.toList.take i := by
  rw [ByteArray.data_extract]; simp
theorem ex_hi (T : ByteArray) (i : Nat) : (T.extract i T.size).data.toList = T.data.toList.drop i := Lib.extract_to_end T i
theorem quo_any (x y : Nat) (w : World) :
    ∃ r w1, (binOp .quo 164 (.float .f64 x) (.float .f64 y)).run Tryz.prog w = .ok (.float .f64 r) w1 ∧ flt r = fltO (floatBits .quo .f64 x y) ∧ r < 18446744073709551616 ∧ Below w.heap.size w w1 := by
  cases h : floatBits .quo .f64 x y with
  | some r => exact ⟨r, w, run_float_arith w .quo 164 .f64 x y r h, rfl, by simp only [floatBits] at h; exact Ieee.Format.div_lt _ h, Below.refl _ _⟩
  | none =>
    refine ⟨(Question.nanBits .f64 x y).cut (w.tape w.drawn (.nanBits .f64 x y)), w.drew, ?_, ?_, ?_, (Below.refl _ _).drew⟩
    · simp only [floatBits] at h; simp [binOp, Op.floatArith, h, Question.forced]
    · unfold flt; rw [nan_drawn]; rfl
    · generalize w.tape w.drawn (.nanBits .f64 x y) = t
      have e : (Question.nanBits .f64 x y).cut t = (t % 2) * 9223372036854775808 + 9218868437227405312 + 1 + (t / 2) % 4503599627370495 := rfl
      rw [e]
      have h1 : t % 2 < 2 := Nat.mod_lt _ (by decide)
      have h2 : (t / 2) % 4503599627370495 < 4503599627370495 := Nat.mod_lt _ (by decide)
      omega
theorem isNum_flt (r : Nat) (h : r < 18446744073709551616) : isNum 3 (flt r) = true := by
  unfold isNum flt
  cases hn : Fm.nanB r
  · rw [if_neg (by simp), B_bi h, hn]; rfl
  · rw [if_pos rfl]; simp
/-- The number of a text with a point. -/
def ptN (v : Int) (k : Nat) : Int := fltO (floatBits .quo .f64 (Fm.ofInt v) (pw k))
def ptM (M : Bool) (v : Int) (k : Nat) : Int := if M then ngN 3 (ptN v k) else ptN v k
theorem err_later {w w' : World} (h : ErrIs w) (hb : Below w.heap.size w w') : ErrIs w' := by
  obtain ⟨a, h⟩ := h
  exact ⟨a, cell_later hb h⟩
theorem ParseInt_range (s : ByteArray) (w : World) (hs : s.size ≤ 140737488355328) (hp : Lib.parseIntB 64 s.data.toList = .range) (he : ErrIs w) :
    Calls Tryz.prog 118 #[.string s, .int .i64 10, .int .i64 64] w fun e w' => ∃ N v, e = .returned (.tuple #[.int .i64 v, .iface 210 (.pointer (some ⟨N, 0, none⟩))]) ∧ Below w.heap.size w w' := by
  obtain ⟨a, he⟩ := he
  refine (Tryz.strconv_ParseInt_10_at64_range s (by omega) hp _ w he (Or.inr ⟨_, _, rfl⟩)).mono ?_
  rintro e w' ⟨N, rfl, _, _, hb⟩
  exact ⟨N, _, rfl, hb⟩
set_option maxHeartbeats 1000000 in
theorem readInt_range (s : ByteArray) (w : World) (hs : s.size ≤ 140737488355328) (hp : Lib.parseIntB 64 s.data.toList = .range) (he : ErrIs w) :
    Calls Tryz.prog 74 #[.string s] w fun e w' => e = .returned (.tuple #[AV 0 0, .int .i64 7]) ∧ Below w.heap.size w w' := by
  have PI : Hid (∀ w, ErrIs w → Calls Tryz.prog 118 #[.string s, .int .i64 10, .int .i64 64] w fun e w' => ∃ N v, e = .returned (.tuple #[.int .i64 v, .iface 210 (.pointer (some ⟨N, 0, none⟩))]) ∧ Below w.heap.size w w') := fun w h => ParseInt_range s w hs hp h
  have HE : Hid (ErrIs w) := he
  clear hp he
  go_enter Tryz.func74, Tryz.ntmps74
  go_wp2_with fail
  refine (PI.out _ (err_later HE.out ((Below.refl _ _).alloc (Nat.le_refl _) _))).mono ?_
  rintro e w1 ⟨N, v, rfl, hb1⟩
  obtain ⟨k5, k6, l5, l6, z1, HB⟩ := rbox hb1
  clear hb1
  go_wp2
  refine bodyPost_ret (v := .tuple #[AV 0 0, .int .i64 7]) (by simp [results, Tryz.results74, go_sem, k5, k6]) rfl ⟨rfl, ?_⟩
  exact (HB.out.setCell (by simp) _).setCell (by simp) _
set_option maxHeartbeats 1000000 in
theorem Read_intR (s : ByteArray) (w : World) (hs : s.size ≤ maxLen) (hz : s.size ≤ 140737488355328) (h0 : Lib.hasPrefix s.data.toList zf.data.toList = false) (hb : bad s = false) (hp : pnt s = false)
    (hv : Lib.parseIntB 64 s.data.toList = .range) (he : ErrIs w) :
    Calls Tryz.prog 48 #[.string s] w fun e w' => e = .returned (.tuple #[AV 0 0, .int .i64 7]) ∧ Below w.heap.size w w' := by
  have b1 : (unsg s).size ≤ maxLen := Nat.le_trans (unsg_size s) hs
  have b2 : (ahd s).size ≤ maxLen := Nat.le_trans (cutA_size _ _) b1
  have H0 : Hid (Lib.hasPrefix s.data.toList zf.data.toList = false) := h0
  have RI : Hid (∀ w, ErrIs w → Calls Tryz.prog 74 #[.string s] w fun e w' => e = .returned (.tuple #[AV 0 0, .int .i64 7]) ∧ Below w.heap.size w w') := fun w h => readInt_range s w hz hv h
  have HE : Hid (ErrIs w) := he
  have a1 : allB (ahd s) dec = true := by unfold bad at hb; simp at hb; exact hb.1
  have hp' : cutB (unsg s) 46 = false := hp
  clear h0 hv hb hp he
  go_enter Tryz.func48, Tryz.ntmps48
  go_wp2_with fail
  refine (Tryz.strings_CutPrefix s zf _).mono ?_
  rintro e w' ⟨rfl, rfl⟩
  rw [H0.out]
  go_wp2_with fail
  refine (Tryz.strings_CutPrefix s dash _).mono ?_
  rintro e w' ⟨rfl, rfl⟩
  go_wp2_with fail
  refine (Cut_any (unsg s) 46 _ b1).mono ?_
  rintro e w1 ⟨rfl, hb1⟩
  obtain ⟨k5, k6, l5, l6, z1, HB⟩ := rbox hb1
  clear hb1
  go_wp2_with fail
  refine (allOf_any (ahd s) dec _ b2).mono ?_
  rintro e w' ⟨rfl, rfl⟩
  go_wp2_with fail
  refine (RI.out _ (err_later HE.out HB.out)).mono ?_
  rintro e w2 ⟨rfl, hb2⟩
  have k5 := cell_later hb2 k5
  have k6 := cell_later hb2 k6
  have l5 := fro_later hb2 l5 z1
  have l6 := fro_later hb2 l6 z1
  have HB := chainB HB hb2
  clear hb2
  go_wp2
  refine bodyPost_ret (v := .tuple #[AV 0 0, .int .i64 7]) (by simp [results, Tryz.results48, go_sem, k5, k6]) rfl ⟨rfl, ?_⟩
  exact (HB.out.setCell (by simp) _).setCell (by simp) _
set_option maxHeartbeats 1000000 in
theorem Read_ptR (s : ByteArray) (w : World) (hs : s.size ≤ maxLen) (hz : s.size ≤ 140737488351232) (h0 : Lib.hasPrefix s.data.toList zf.data.toList = false) (hb : bad s = false) (hp : pnt s = true)
    (hl : 15 < (ahd s).size + (bhd s).size) :
    Calls Tryz.prog 48 #[.string s] w fun e w' => e = .returned (.tuple #[AV 0 0, .int .i64 7]) ∧ Below w.heap.size w w' := by
  have b1 : (unsg s).size ≤ maxLen := Nat.le_trans (unsg_size s) hs
  have b2 : (ahd s).size ≤ maxLen := Nat.le_trans (cutA_size _ _) b1
  have b3 : (bhd s).size ≤ maxLen := Nat.le_trans (cutZ_size _ _) b1
  have c1 : (ahd s).size ≤ 140737488351232 := Nat.le_trans (cutA_size _ _) (Nat.le_trans (unsg_size s) hz)
  have c2 : (bhd s).size ≤ 140737488351232 := Nat.le_trans (cutZ_size _ _) (Nat.le_trans (unsg_size s) hz)
  have H0 : Hid (Lib.hasPrefix s.data.toList zf.data.toList = false) := h0
  have RP : Hid (∀ w, Calls Tryz.prog 75 #[.string (ahd s), .string (bhd s)] w fun e w' => e = .returned (.tuple #[AV 0 0, .int .i64 7]) ∧ Below w.heap.size w w') := fun w => readPointed_range _ _ w c1 c2 hl
  have a1 : allB (ahd s) dec = true := by unfold bad at hb; simp at hb; exact hb.1
  have a2 : allB (bhd s) dec = true := by unfold bad at hb; simp [hp] at hb; exact hb.2
  have hp' : cutB (unsg s) 46 = true := hp
  clear h0 hb hp hl c1 c2
  go_enter Tryz.func48, Tryz.ntmps48
  go_wp2_with fail
  refine (Tryz.strings_CutPrefix s zf _).mono ?_
  rintro e w' ⟨rfl, rfl⟩
  rw [H0.out]
  go_wp2_with fail
  refine (Tryz.strings_CutPrefix s dash _).mono ?_
  rintro e w' ⟨rfl, rfl⟩
  go_wp2_with fail
  refine (Cut_any (unsg s) 46 _ b1).mono ?_
  rintro e w1 ⟨rfl, hb1⟩
  obtain ⟨k5, k6, l5, l6, z1, HB⟩ := rbox hb1
  clear hb1
  go_wp2_with fail
  refine (allOf_any (ahd s) dec _ b2).mono ?_
  rintro e w' ⟨rfl, rfl⟩
  go_wp2_with fail
  refine (allOf_any (bhd s) dec _ b3).mono ?_
  rintro e w' ⟨rfl, rfl⟩
  go_wp2_with fail
  refine (RP.out _).mono ?_
  rintro e w2 ⟨rfl, hb2⟩
  have k5 := cell_later hb2 k5
  have k6 := cell_later hb2 k6
  have l5 := fro_later hb2 l5 z1
  have l6 := fro_later hb2 l6 z1
  have HB := chainB HB hb2
  have z2 : w.heap.size < w2.heap.size := by have := hb2.size; omega
  clear hb2
  go_wp2
  refine bodyPost_ret (v := .tuple #[AV 0 0, .int .i64 7]) (by simp [results, Tryz.results48, go_sem, k5, k6, z2]) rfl ⟨rfl, ?_⟩
  exact ((HB.out.setCell (by simp) _).setCell (by simp) _).alloc (by simp; omega) _
set_option maxHeartbeats 1000000 in
theorem Read_ptM (s : ByteArray) (v : Int) (w : World) (hs : s.size ≤ maxLen) (h0 : Lib.hasPrefix s.data.toList zf.data.toList = false) (hb : bad s = false) (hp : pnt s = true)
    (hl : (ahd s).size + (bhd s).size ≤ 15) (hv : Lib.parseIntB 64 (ahd s ++ bhd s).data.toList = .ok v) (hn : Lib.hasPrefix s.data.toList dash.data.toList = true) :
    Calls Tryz.prog 48 #[.string s] w fun e w' => e = .returned (.tuple #[AV 3 (ptM true v (bhd s).size), .int .i64 0]) ∧ Below w.heap.size w w' := by
  have b1 : (unsg s).size ≤ maxLen := Nat.le_trans (unsg_size s) hs
  have b2 : (ahd s).size ≤ maxLen := Nat.le_trans (cutA_size _ _) b1
  have b3 : (bhd s).size ≤ maxLen := Nat.le_trans (cutZ_size _ _) b1
  have H0 : Hid (Lib.hasPrefix s.data.toList zf.data.toList = false) := h0
  have HN : Hid (Lib.hasPrefix s.data.toList dash.data.toList = true) := hn
  have RP : Hid (∀ w, Calls Tryz.prog 75 #[.string (ahd s), .string (bhd s)] w fun e w' => e = .returned (.tuple #[AV 3 (ptN v (bhd s).size), .int .i64 0]) ∧ Below w.heap.size w w') := fun w => readPointed_ok _ _ v w hl hv
  have a1 : allB (ahd s) dec = true := by unfold bad at hb; simp at hb; exact hb.1
  have a2 : allB (bhd s) dec = true := by unfold bad at hb; simp [hp] at hb; exact hb.2
  have hp' : cutB (unsg s) 46 = true := hp
  obtain ⟨r, w0, _, hr, hrl, _⟩ := quo_any (Fm.ofInt v) (pw (bhd s).size) w
  have hN : isNum 3 (ptN v (bhd s).size) = true := by unfold ptN; rw [← hr]; exact isNum_flt r hrl
  have hB : -9223372036854775808 ≤ ptN v (bhd s).size ∧ ptN v (bhd s).size ≤ 9223372036854775807 := by unfold ptN; rw [← hr]; exact flt_bounds r
  have NG : Hid (∀ w, Calls Tryz.prog 76 #[AV 3 (ptN v (bhd s).size)] w fun e w' => e = .returned (.tuple #[AV 3 (ptM true v (bhd s).size), .int .i64 0]) ∧ Below w.heap.size w w') := fun w => by
    have h := Neg_any 3 (ptN v (bhd s).size) w hB.1 hB.2
    have e1 : ngT 3 (ptN v (bhd s).size) = 3 := by unfold ngT; rw [hN]; rfl
    have e2 : ngE 3 (ptN v (bhd s).size) = 0 := by unfold ngE; rw [hN]; rfl
    rw [e1, e2] at h
    exact h
  clear h0 hn hv hb hp hl hr hrl hN hB
  generalize ptM true v (bhd s).size = Z at *
  generalize ptN v (bhd s).size = N at *
  go_enter Tryz.func48, Tryz.ntmps48
  go_wp2_with fail
  refine (Tryz.strings_CutPrefix s zf _).mono ?_
  rintro e w' ⟨rfl, rfl⟩
  rw [H0.out]
  go_wp2_with fail
  refine (Tryz.strings_CutPrefix s dash _).mono ?_
  rintro e w' ⟨rfl, rfl⟩
  rw [HN.out]
  go_wp2_with fail
  refine (Cut_any (unsg s) 46 _ b1).mono ?_
  rintro e w1 ⟨rfl, hb1⟩
  obtain ⟨k5, k6, l5, l6, z1, HB⟩ := rbox hb1
  clear hb1
  go_wp2_with fail
  refine (allOf_any (ahd s) dec _ b2).mono ?_
  rintro e w' ⟨rfl, rfl⟩
  go_wp2_with fail
  refine (allOf_any (bhd s) dec _ b3).mono ?_
  rintro e w' ⟨rfl, rfl⟩
  go_wp2_with fail
  refine (RP.out _).mono ?_
  rintro e w2 ⟨rfl, hb2⟩
  have k5 := cell_later hb2 k5
  have k6 := cell_later hb2 k6
  have l5 := fro_later hb2 l5 z1
  have l6 := fro_later hb2 l6 z1
  have HB := chainB HB hb2
  have z2 : w.heap.size < w2.heap.size := by have := hb2.size; omega
  clear hb2
  go_wp2_with fail
  refine (NG.out _).mono ?_
  rintro e w3 ⟨rfl, hb3⟩
  have hA : Below w2.heap.size w2 (w2.alloc (.cells #[.int .i64 3, .int .i64 N] 32)) := (Below.refl _ _).alloc (Nat.le_refl _) _
  have z3 : w.heap.size < (w2.alloc (.cells #[.int .i64 3, .int .i64 N] 32)).heap.size := Nat.lt_of_lt_of_le z2 hA.size
  have k5 := cell_later hb3 (cell_later hA k5)
  have k6 := cell_later hb3 (cell_later hA k6)
  have l5 := fro_later hb3 (fro_later hA l5 z2) z3
  have l6 := fro_later hb3 (fro_later hA l6 z2) z3
  have HB := chainB (chainB HB hA) hb3
  clear hA hb3 z3
  go_wp2
  refine bodyPost_ret (v := .tuple #[AV 3 Z, .int .i64 0]) (by simp [results, Tryz.results48, go_sem, k5, k6]) rfl ⟨rfl, ?_⟩
  exact (HB.out.setCell (by simp) _).setCell (by simp) _
theorem pU_all : ∀ (l : List UInt8) (acc : Nat), (∀ c ∈ l, 48 ≤ c.toNat ∧ c.toNat ≤ 57) → acc ≤ 18446744073709551615 →
    Lib.parseUintM 18446744073709551615 acc l = if decF acc l ≤ 18446744073709551615 then .ok (decF acc l) else .range
  | [], acc, _, h => by
    have : decF acc [] = acc := rfl
    rw [this, if_pos h]; rfl
  | c :: l, acc, hl, h => by
    have hc := hl c (List.mem_cons_self ..)
    have hr := fun x hx => hl x (List.mem_cons_of_mem c hx)
    have hg := decF_ge l (acc * 10 + (c.toNat - 48))
    have e : decF acc (c :: l) = decF (acc * 10 + (c.toNat - 48)) l := rfl
    rw [e]
    unfold Lib.parseUintM
    rw [if_pos hc]
    by_cases h1 : 1844674407370955162 ≤ acc
    · rw [if_pos h1, if_neg (by omega)]
    · rw [if_neg h1]
      by_cases h2 : 18446744073709551615 < acc * 10 + (c.toNat - 48)
      · rw [if_pos h2, if_neg (by omega)]
      · rw [if_neg h2]
        exact pU_all l _ hr (by omega)
theorem pUB_all (l : List UInt8) (h : ∀ c ∈ l, 48 ≤ c.toNat ∧ c.toNat ≤ 57) (hne : l ≠ []) : Lib.parseUintB 64 l = if decV l ≤ 18446744073709551615 then .ok (decV l) else .range := by
  unfold Lib.parseUintB
  rw [if_neg hne]
  exact pU_all l 0 h (by omega)
theorem pI_pos (l : List UInt8) (h : ∀ c ∈ l, 48 ≤ c.toNat ∧ c.toNat ≤ 57) (hne : l ≠ []) : Lib.parseIntB 64 l = if decV l < 9223372036854775808 then .ok (decV l : Int) else .range := by
  have hu := pUB_all l h hne
  cases l with
  | nil => exact absurd rfl hne
  | cons c r =>
    have hc := h c (List.mem_cons_self ..)
    have c1 : ¬ c.toNat = 43 := by omega
    have c2 : ¬ c.toNat = 45 := by omega
    generalize decV (c :: r) = V at *
    unfold Lib.parseIntB
    simp only [c1, c2, or_self, if_false, hu]
    by_cases h1 : V ≤ 18446744073709551615
    · rw [if_pos h1]
      simp only [not_false_eq_true, true_and, false_and, if_false]
      by_cases h2 : V < 9223372036854775808
      · rw [if_neg (by omega), if_pos h2]
      · rw [if_pos (by omega), if_neg h2]
    · rw [if_neg h1, if_neg (by omega)]
theorem pI_neg (l : List UInt8) (h : ∀ c ∈ l, 48 ≤ c.toNat ∧ c.toNat ≤ 57) (hne : l ≠ []) : Lib.parseIntB 64 (45 :: l) = if decV l ≤ 9223372036854775808 then .ok (-(decV l : Int)) else .range := by
  have hu := pUB_all l h hne
  generalize decV l = V at *
  have e45 : (45 : UInt8).toNat = 45 := rfl
  unfold Lib.parseIntB
  simp only [e45, or_true, if_true, hu]
  by_cases h1 : V ≤ 18446744073709551615
  · rw [if_pos h1]
    simp only [not_true, false_and, if_false, true_and]
    by_cases h2 : V ≤ 9223372036854775808
    · rw [if_neg (by omega), if_pos h2]
    · rw [if_pos (by omega), if_neg h2]
  · rw [if_neg h1, if_neg (by omega)]
theorem allB_ne {A : ByteArray} (h : allB A dec = true) : A.data.toList ≠ [] := by
  intro e; unfold allB at h; rw [e] at h; simp at h
/-- The sign and the rest. -/
theorem dash_cases (s : ByteArray) : (Lib.hasPrefix s.data.toList dash.data.toList = true ∧ s.data.toList = 45 :: (unsg s).data.toList ∧ unsg s = s.extract 1 s.size) ∨ (Lib.hasPrefix s.data.toList dash.data.toList = false ∧ unsg s = s) := by
  have hd : dash.data.toList = [45] := rfl
  cases h : Lib.hasPrefix s.data.toList dash.data.toList
  · right
    refine ⟨rfl, ?_⟩
    unfold unsg Lib.trimPrefix
    rw [h, if_neg (by simp)]
  · left
    have hu : (unsg s).data.toList = s.data.toList.drop 1 := by
      unfold unsg Lib.trimPrefix
      rw [h, if_pos rfl, hd]
      simp
    refine ⟨rfl, ?_, Go.WideShapes.bytes_inj (by rw [hu, ex_hi])⟩
    rw [hu]
    unfold Lib.hasPrefix at h
    rw [hd] at h
    cases hl : s.data.toList with
    | nil => rw [hl] at h; cases h
    | cons c r =>
      rw [hl] at h
      simp at h
      rw [← h]; rfl
/-- Where the point stands. -/
theorem pt_cases (T : ByteArray) : (Lib.indexByte T.data.toList 46 = -1 ∧ cutB T 46 = false ∧ cutA T 46 = T) ∨
    ∃ i : Nat, Lib.indexByte T.data.toList 46 = i ∧ i < T.size ∧ cutB T 46 = true ∧ cutA T 46 = T.extract 0 i ∧ cutZ T 46 = T.extract (i + 1) T.size ∧ allB T dec = false := by
  by_cases h : Lib.indexByte T.data.toList 46 < 0
  · left
    refine ⟨?_, by simp [cutB, h], by simp [cutA, h]⟩
    have : ∀ l : List UInt8, -1 ≤ Lib.indexByte l 46 := by
      intro l
      induction l with
      | nil => decide
      | cons b l ih => unfold Lib.indexByte; split; · omega
                       · split <;> omega
    have := this T.data.toList; omega
  · right
    obtain ⟨i, hk⟩ := Int.eq_ofNat_of_zero_le (show 0 ≤ Lib.indexByte T.data.toList 46 by omega)
    have hlt : i < T.size := by
      rcases indexByte_lt T.data.toList 46 with h | h
      · rw [hk] at h; rw [Lib.size_eq]; omega
      · rw [h] at hk; simp [Lib.indexByte] at hk
    refine ⟨i, hk, hlt, by simp [cutB, h], by unfold cutA; rw [if_neg h, hk]; simp, by unfold cutZ; rw [if_neg h, hk]; simp, ?_⟩
    cases ha : allB T dec
    · rfl
    · exfalso
      have hm := allB_mem ha
      have := ixB_none T.data.toList 46 (fun x hx he => by have := hm x hx; rw [he] at this; exact absurd this.1 (by decide))
      omega
end Go.Proofs.YtgkgpjbbmnfnmaaGreatDoor

/- Read: at every text one answer. -/
namespace Go.Proofs.YtgkgpjbbmnfnmaaGreatDoor
open Go.RowKit
set_option linter.unusedSimpArgs false
set_option linter.unusedVariables false

/-- Read gives t, m and the error x. -/
def ReadIs (s : ByteArray) (t m x : Int) : Prop := ∀ w, ErrIs w → Calls Tryz.prog 48 #[.string s] w fun e w' => e = .returned (.tuple #[AV t m, .int .i64 x]) ∧ Below w.heap.size w w'
theorem bitsT_form (X : ByteArray) : ∃ t m x : Int, bitsT X = .tuple #[AV t m, .int .i64 x] := by
  unfold bitsT; split
  · exact ⟨_, _, _, rfl⟩
  · exact ⟨_, _, _, rfl⟩
theorem read_bits (s : ByteArray) (hz : s.size ≤ 140737488351232) (h : Lib.hasPrefix s.data.toList zf.data.toList = true) : ∃ t m x, ReadIs s t m x := by
  have hs : s.size ≤ maxLen := Nat.le_trans hz (by decide)
  obtain ⟨t, m, x, hb⟩ := bitsT_form (offm s)
  exact ⟨t, m, x, fun w _ => Read_bits s t m x w hs h hb⟩
theorem read_rest (s : ByteArray) (hz : s.size ≤ 140737488351232) (h : Lib.hasPrefix s.data.toList zf.data.toList = false) : ∃ t m x, ReadIs s t m x := by
  have hs : s.size ≤ maxLen := Nat.le_trans hz (by decide)
  cases hb : bad s
  · rcases pt_cases (unsg s) with ⟨hp, q1, q2⟩ | ⟨i, hp, hi, q1, q2, q3, q4⟩
    · have ha : allB (unsg s) dec = true := by
        unfold bad ahd pnt at hb
        rw [q1, q2] at hb
        simpa using hb
      have hm := allB_mem ha
      have hne := allB_ne ha
      have P : (∃ v, Lib.parseIntB 64 s.data.toList = .ok v) ∨ Lib.parseIntB 64 s.data.toList = .range := by
        rcases dash_cases s with ⟨d1, d2, _⟩ | ⟨d1, d2⟩
        · rw [d2, pI_neg _ hm hne]
          split
          · exact .inl ⟨_, rfl⟩
          · exact .inr rfl
        · rw [d2] at hm hne
          rw [pI_pos _ hm hne]
          split
          · exact .inl ⟨_, rfl⟩
          · exact .inr rfl
      rcases P with ⟨v, p1⟩ | p1
      · exact ⟨_, _, _, fun w _ => Read_int s v w hs (by omega) h hb q1 p1⟩
      · exact ⟨_, _, _, fun w he => Read_intR s w hs (by omega) h hb q1 p1 he⟩
    · have a1 : allB ((unsg s).extract 0 i) dec = true := by
        unfold bad ahd at hb; rw [q2] at hb; simp at hb; exact hb.1
      have a2 : allB ((unsg s).extract (i + 1) (unsg s).size) dec = true := by
        unfold bad ahd bhd pnt at hb; rw [q1, q2, q3] at hb; simp at hb; exact hb.2
      have z1 : (ahd s).size = i := by unfold ahd; rw [q2, ByteArray.size_extract]; omega
      have z2 : (bhd s).size = (unsg s).size - (i + 1) := by unfold bhd; rw [q3, ByteArray.size_extract]; omega
      by_cases hl : 15 < (ahd s).size + (bhd s).size
      · exact ⟨_, _, _, fun w _ => Read_ptR s w hs hz h hb q1 hl⟩
      · have hd : (ahd s ++ bhd s).data.toList = ptL (unsg s) i := by
          rw [ByteArray.data_append, Array.toList_append]
          unfold ahd bhd
          rw [q2, q3, ex_lo, ex_hi]; rfl
        have hv : Lib.parseIntB 64 (ahd s ++ bhd s).data.toList = .ok (decV (ptL (unsg s) i) : Int) := by
          rw [hd]
          have hm : ∀ c ∈ ptL (unsg s) i, 48 ≤ c.toNat ∧ c.toNat ≤ 57 := fun c hc => by
            unfold ptL at hc
            rw [List.mem_append, ← ex_lo, ← ex_hi] at hc
            rcases hc with hc | hc
            · exact allB_mem a1 c hc
            · exact allB_mem a2 c hc
          have hn : ptL (unsg s) i ≠ [] := by
            unfold ptL
            have := allB_ne a1
            rw [ex_lo] at this
            simp [this]
          have hlt := decV_lt (ptL (unsg s) i) (fun c hc => (hm c hc).2) 15 (by have := ptL_len (unsg s) i hi; omega)
          rw [pI_pos _ hm hn, if_pos (by have : 10 ^ 15 = 1000000000000000 := by decide
                                         omega)]
        cases hd' : Lib.hasPrefix s.data.toList dash.data.toList
        · exact ⟨_, _, _, fun w _ => Read_pt s _ w hs h hb q1 (by omega) hv hd'⟩
        · exact ⟨_, _, _, fun w _ => Read_ptM s _ w hs h hb q1 (by omega) hv hd'⟩
  · exact ⟨_, _, _, fun w _ => Read_bad s w hs h hb⟩
theorem read_all (s : ByteArray) (hz : s.size ≤ 140737488351232) : ∃ t m x, ReadIs s t m x := by
  cases h : Lib.hasPrefix s.data.toList zf.data.toList
  · exact read_rest s hz h
  · exact read_bits s hz h
end Go.Proofs.YtgkgpjbbmnfnmaaGreatDoor
