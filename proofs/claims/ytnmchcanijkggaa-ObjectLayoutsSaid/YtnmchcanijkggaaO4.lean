/- Heads: sizes, the two cells of a head, in the program and in the document's answer. -/
import Derived.Test.YtnmchcanijkggaaO3
import Derived.Test.YtnmchcanijkggaaQ0
import Derived.Deep.RegionHeld3
namespace Go.Proofs.Ytnmchcanijkggaa
open Go.RowKit

theorem below_drewN {B : Nat} {a w : World} (h : Below B a w) (n : Nat) : Below B a (w.drewN n) := ⟨h.os, h.tape, h.output, h.size, h.block⟩

/-- The two cells of a head. -/
def c1 (h : Hd) : Int := h.k + 16 * h.c + 64 * h.a + 512 * h.w + 2048 * h.s
def c2 (h : Hd) : Int := h.x + 8192 * h.l + 67108864 * h.f

theorem up_bd {n m : Int} (h : up n m = true) : 0 ≤ n ∧ n ≤ m := by simpa [up] using h

structure Bds (h : Hd) : Prop where
  k : 4 ≤ h.k ∧ h.k ≤ 9
  c : 0 ≤ h.c ∧ h.c ≤ 3
  a : 0 ≤ h.a ∧ h.a ≤ 6
  w : 0 ≤ h.w ∧ h.w ≤ 3
  s : 0 ≤ h.s ∧ h.s ≤ 2147483647
  f : 0 ≤ h.f ∧ h.f ≤ 2147483647
  x : 0 ≤ h.x ∧ h.x ≤ 4096
  l : 0 ≤ h.l ∧ h.l ≤ 4096

theorem right_zero {h : Hd} : rightE h = 0 ↔ (isObj h.k = true ∧ fineB h = true) := by
  unfold rightE; cases isObj h.k <;> cases fineB h <;> simp

theorem right_bds {h : Hd} (hr : rightE h = 0) : Bds h := by
  obtain ⟨h1, h2⟩ := right_zero.1 hr
  simp only [fineB, Bool.and_eq_true] at h2
  obtain ⟨⟨⟨⟨⟨⟨⟨e1, e2⟩, e3⟩, e4⟩, e5⟩, _⟩, e6⟩, e7⟩ := h2
  exact ⟨by simpa [isObj] using h1, up_bd e1, up_bd e2, up_bd e3, up_bd e4, up_bd e5, up_bd e6, up_bd e7⟩

theorem right_cases (h : Hd) : rightE h = 0 ∨ rightE h = 1 ∨ rightE h = 10 := by
  unfold rightE; cases isObj h.k <;> cases fineB h <;> simp

/-- The size of an object. -/
def sizeN (h : Hd) : Int := if rightE h = 0 then 2 + h.x + 2 * h.l else 0

set_option maxHeartbeats 1000000 in
theorem Size_any (h : Hd) (w : World) :
    Calls Try.prog 16 #[AH h] w fun e w' => e = .returned (.int .i64 (sizeN h)) ∧ Below w.heap.size w w' := by
  by_cases hr : rightE h = 0
  · have hb := right_bds hr
    have hx := hb.x
    have hl := hb.l
    rw [show sizeN h = 2 + h.x + 2 * h.l by simp [sizeN, hr]]
    clear hb
    go_enter Try.func16, Try.ntmps16
    go_wp2_with fail
    refine (Right_any _ _).mono ?_
    rintro e w1 ⟨rfl, hb1⟩
    rw [hr]
    obtain ⟨hc, hf⟩ := bcell' hb1
    go_wp2
    go_ret
    exact ⟨rfl, ((Below.refl _ _).alloc (Nat.le_refl _) _).trans (hb1.mono (by simp))⟩
  · have hr' : (rightE h != 0) = true := by simp [hr]
    rw [show sizeN h = 0 by simp [sizeN, hr]]
    clear hr
    go_enter Try.func16, Try.ntmps16
    go_wp2_with fail
    refine (Right_any _ _).mono ?_
    rintro e w1 ⟨rfl, hb1⟩
    go_wp2
    go_ret
    exact ⟨rfl, ((Below.refl _ _).alloc (Nat.le_refl _) _).trans (hb1.mono (by simp))⟩

set_option maxHeartbeats 1000000 in
theorem RSize_any (h : Hd) (w : World) :
    Calls Try.prog 17 #[AH h] w fun e w' => e = .returned (.int .i64 (sizeN h)) ∧ Below w.heap.size w w' := by
  by_cases hr : rightE h = 0
  · have hb := right_bds hr
    have hx := hb.x
    have hl := hb.l
    rw [show sizeN h = 2 + h.x + 2 * h.l by simp [sizeN, hr]]
    clear hb
    go_enter Try.func17, Try.ntmps17
    go_wp2_with fail
    refine (RRight_any _ _).mono ?_
    rintro e w1 ⟨rfl, hb1⟩
    rw [hr]
    obtain ⟨hc, hf⟩ := bcell' hb1
    go_wp2
    go_ret
    exact ⟨rfl, ((Below.refl _ _).alloc (Nat.le_refl _) _).trans (hb1.mono (by simp))⟩
  · have hr' : (rightE h != 0) = true := by simp [hr]
    rw [show sizeN h = 0 by simp [sizeN, hr]]
    clear hr
    go_enter Try.func17, Try.ntmps17
    go_wp2_with fail
    refine (RRight_any _ _).mono ?_
    rintro e w1 ⟨rfl, hb1⟩
    go_wp2
    go_ret
    exact ⟨rfl, ((Below.refl _ _).alloc (Nat.le_refl _) _).trans (hb1.mono (by simp))⟩

theorem or_join (i : Nat) (p : Int) (hp : p = ((2 ^ i : Nat) : Int)) (x y : Int) (h0 : 0 ≤ x) (h1 : x < p) (h2 : 0 ≤ y) (h3 : x + y * p < 9223372036854775808) : bits .or .i64 x (wrap64 (y * p)) = x + y * p := by
  obtain ⟨X, rfl⟩ := Int.eq_ofNat_of_zero_le h0
  obtain ⟨Y, rfl⟩ := Int.eq_ofNat_of_zero_le h2
  obtain ⟨q, hq⟩ : ∃ q, q = 2 ^ i := ⟨_, rfl⟩
  rw [← hq] at hp
  subst hp
  have e : ((Y : Int) * (q : Int)) = ((Y * q : Nat) : Int) := by rw [Int.natCast_mul]
  rw [e] at h3 ⊢
  have hx : X < q := by omega
  have e2 : wrap64 ((Y * q : Nat) : Int) = ((Y * q : Nat) : Int) := by unfold wrap64; omega
  rw [e2]
  have hs : X + Y * q < 9223372036854775808 := by omega
  have hj : X ||| (Y * q) = X + Y * q := by
    rw [Nat.or_comm, nat_join i (Y * q) X (by rw [hq]; exact Nat.mul_mod_left _ _) (by rw [← hq]; exact hx), Nat.add_comm]
  show IntKind.i64.wrap ((BitVec.ofInt 64 (X : Int) ||| BitVec.ofInt 64 ((Y * q : Nat) : Int)).toNat : Int) = _
  rw [BitVec.toNat_or, ofInt_u64 X (by omega), ofInt_u64 (Y * q) (by omega), hj, IntKind.wrap_i64]
  omega

theorem c1_or {h : Hd} (hb : Bds h) : bits .or .i64 (bits .or .i64 (bits .or .i64 (bits .or .i64 h.k (wrap64 (h.c * 16))) (wrap64 (h.a * 64))) (wrap64 (h.w * 512))) (wrap64 (h.s * 2048)) = c1 h := by
  obtain ⟨⟨k1, k2⟩, ⟨e1, e2⟩, ⟨a1, a2⟩, ⟨w1, w2⟩, ⟨s1, s2⟩, _, _, _⟩ := hb
  rw [or_join 4 16 (by decide) h.k h.c (by omega) (by omega) (by omega) (by omega), or_join 6 64 (by decide) _ h.a (by omega) (by omega) (by omega) (by omega),
    or_join 9 512 (by decide) _ h.w (by omega) (by omega) (by omega) (by omega), or_join 11 2048 (by decide) _ h.s (by omega) (by omega) (by omega) (by omega)]
  unfold c1; omega
theorem c2_or {h : Hd} (hb : Bds h) : bits .or .i64 (bits .or .i64 h.x (wrap64 (h.l * 8192))) (wrap64 (h.f * 67108864)) = c2 h := by
  obtain ⟨_, _, _, _, _, ⟨f1, f2⟩, ⟨x1, x2⟩, ⟨l1, l2⟩⟩ := hb
  rw [or_join 13 8192 (by decide) h.x h.l (by omega) (by omega) (by omega) (by omega), or_join 26 67108864 (by decide) _ h.f (by omega) (by omega) (by omega) (by omega)]
  unfold c2; omega

theorem and_mask (n : Int) (d : Nat) (hd : d ≤ 62) : bits .and .i64 n (wrap64 (wrap64 (2 ^ d) - 1)) = n % 2 ^ d := by
  obtain ⟨q, hq⟩ : ∃ q : Nat, q = 2 ^ d := ⟨_, rfl⟩
  have hq1 : 1 ≤ q := by rw [hq]; exact Nat.one_le_two_pow
  have hq2 : q ≤ 2 ^ 62 := by rw [hq]; exact Nat.pow_le_pow_right (by decide) hd
  have hq3 : q ∣ 2 ^ 64 := by rw [hq]; exact Nat.pow_dvd_pow 2 (by omega)
  have e : (2 : Int) ^ d = ((q : Nat) : Int) := by rw [hq, Int.natCast_pow]; rfl
  have hq4 : (2 : Nat) ^ 62 = 4611686018427387904 := by decide
  have e1 : wrap64 (wrap64 (2 ^ d) - 1) = ((q - 1 : Nat) : Int) := by rw [e]; unfold wrap64; omega
  have h127 : (BitVec.ofInt 64 ((q - 1 : Nat) : Int)).toNat = 2 ^ d - 1 := by rw [ofInt_u64 _ (by omega), hq]
  have key : (BitVec.ofInt 64 n &&& BitVec.ofInt 64 ((q - 1 : Nat) : Int)).toNat = (n % ((2 ^ 64 : Nat) : Int)).toNat % q := by
    rw [BitVec.toNat_and, BitVec.toNat_ofInt, h127, Nat.and_two_pow_sub_one_eq_mod, hq]
  rw [e1]
  show IntKind.i64.wrap ((BitVec.ofInt 64 n &&& BitVec.ofInt 64 ((q - 1 : Nat) : Int)).toNat : Nat) = n % 2 ^ d
  rw [key, IntKind.wrap_i64, e]
  have hz : ((2 ^ 64 : Nat) : Int) = 18446744073709551616 := by decide
  have hm : 0 ≤ n % ((2 ^ 64 : Nat) : Int) := by rw [hz]; omega
  have h5 : (((n % ((2 ^ 64 : Nat) : Int)).toNat % q : Nat) : Int) = n % (q : Int) := by
    rw [Int.natCast_emod, Int.toNat_of_nonneg hm, Int.emod_emod_of_dvd n (Int.natCast_dvd_natCast.2 hq3)]
  rw [h5]
  have h6 : 0 ≤ n % (q : Int) := Int.emod_nonneg _ (by omega)
  have h7 : n % (q : Int) < q := Int.emod_lt_of_pos _ (by omega)
  omega

set_option maxHeartbeats 1000000 in
theorem First_any (h : Hd) (w : World) (hr : rightE h = 0) :
    Calls Try.prog 18 #[AH h] w fun e w' => e = .returned (.int .i64 (c1 h)) ∧ Below w.heap.size w w' := by
  have hb := right_bds hr
  have b1 := hb.k
  have b2 := hb.c
  have b3 := hb.a
  have b4 := hb.w
  have b5 := hb.s
  clear hb hr
  unfold c1
  go_enter Try.func18, Try.ntmps18
  go_wp2
  go_ret
  exact ⟨rfl, (Below.refl _ _).alloc (Nat.le_refl _) _⟩

set_option maxHeartbeats 1000000 in
theorem Second_any (h : Hd) (w : World) (hr : rightE h = 0) :
    Calls Try.prog 19 #[AH h] w fun e w' => e = .returned (.int .i64 (c2 h)) ∧ Below w.heap.size w w' := by
  have hb := right_bds hr
  have b1 := hb.x
  have b2 := hb.l
  have b3 := hb.f
  clear hb hr
  unfold c2
  go_enter Try.func19, Try.ntmps19
  go_wp2
  go_ret
  exact ⟨rfl, (Below.refl _ _).alloc (Nat.le_refl _) _⟩

/-- The two cells, as the program holds them. -/
abbrev AC (a b : Int) : Value := .agg #[.int .i64 a, .int .i64 b]

set_option maxHeartbeats 1000000 in
theorem joined_any (h : Hd) (w : World) (hr : rightE h = 0) :
    Calls Try.prog 37 #[AH h] w fun e w' => e = .returned (AC (c1 h) (c2 h)) ∧ Below w.heap.size w w' := by
  have hb := right_bds hr
  rw [← c1_or hb, ← c2_or hb]
  clear hr hb
  go_enter Try.func37, Try.ntmps37
  go_wp2
  exact bodyPost_ret (by simp [results, Try.results37, go_sem]) rfl ⟨rfl, ((Below.refl _ _).alloc (Nat.le_refl _) _).alloc (by simp) _⟩

set_option maxHeartbeats 1000000 in
theorem field_any (n : Int) (a b : Nat) (w : World) (h1 : a < b) (h2 : b < 64) (h3 : b - a ≤ 62) :
    Calls Try.prog 52 #[.int .i64 n, .int .i64 a, .int .i64 b] w fun e w' => e = .returned (.int .i64 (n / 2 ^ a % 2 ^ (b - a))) ∧ ∃ m, w' = w.drewN m := by
  rw [← and_mask _ _ h3]
  clear h3
  go_enter Try.func52, Try.ntmps52
  go_wp2
  go_quiet (fail)
  go_wp2
  go_ret
  exact ⟨rfl, _, rfl⟩

/-- The head of two cells. -/
def hdOf (a b : Int) : Hd := ⟨a % 16, a / 16 % 4, a / 64 % 8, a / 512 % 4, a / 2048 % 2147483648, b / 67108864 % 2147483648, b % 8192, b / 8192 % 8192⟩

theorem field_at (n a b r : Int) (A B : Nat) (w : World) (ha : a = (A : Int)) (hb : b = (B : Int)) (h1 : A < B) (h2 : B < 64) (h3 : B - A ≤ 62) (hr : n / 2 ^ A % 2 ^ (B - A) = r) :
    Calls Try.prog 52 #[.int .i64 n, .int .i64 a, .int .i64 b] w fun e w' => e = .returned (.int .i64 r) ∧ ∃ m, w' = w.drewN m := by
  subst ha hb hr; exact field_any n A B w h1 h2 h3
theorem fld0_4 (n : Int) (w : World) : Calls Try.prog 52 #[.int .i64 n, .int .i64 0, .int .i64 4] w fun e w' => e = .returned (.int .i64 (n % 16)) ∧ ∃ m, w' = w.drewN m :=
  field_at n 0 4 _ 0 4 w rfl rfl (by decide) (by decide) (by decide) (by simp)
theorem fld4_6 (n : Int) (w : World) : Calls Try.prog 52 #[.int .i64 n, .int .i64 4, .int .i64 6] w fun e w' => e = .returned (.int .i64 (n / 16 % 4)) ∧ ∃ m, w' = w.drewN m :=
  field_at n 4 6 _ 4 6 w rfl rfl (by decide) (by decide) (by decide) (by simp)
theorem fld6_9 (n : Int) (w : World) : Calls Try.prog 52 #[.int .i64 n, .int .i64 6, .int .i64 9] w fun e w' => e = .returned (.int .i64 (n / 64 % 8)) ∧ ∃ m, w' = w.drewN m :=
  field_at n 6 9 _ 6 9 w rfl rfl (by decide) (by decide) (by decide) (by simp)
theorem fld9_11 (n : Int) (w : World) : Calls Try.prog 52 #[.int .i64 n, .int .i64 9, .int .i64 11] w fun e w' => e = .returned (.int .i64 (n / 512 % 4)) ∧ ∃ m, w' = w.drewN m :=
  field_at n 9 11 _ 9 11 w rfl rfl (by decide) (by decide) (by decide) (by simp)
theorem fld11_42 (n : Int) (w : World) : Calls Try.prog 52 #[.int .i64 n, .int .i64 11, .int .i64 42] w fun e w' => e = .returned (.int .i64 (n / 2048 % 2147483648)) ∧ ∃ m, w' = w.drewN m :=
  field_at n 11 42 _ 11 42 w rfl rfl (by decide) (by decide) (by decide) (by simp)
theorem fld0_13 (n : Int) (w : World) : Calls Try.prog 52 #[.int .i64 n, .int .i64 0, .int .i64 13] w fun e w' => e = .returned (.int .i64 (n % 8192)) ∧ ∃ m, w' = w.drewN m :=
  field_at n 0 13 _ 0 13 w rfl rfl (by decide) (by decide) (by decide) (by simp)
theorem fld13_26 (n : Int) (w : World) : Calls Try.prog 52 #[.int .i64 n, .int .i64 13, .int .i64 26] w fun e w' => e = .returned (.int .i64 (n / 8192 % 8192)) ∧ ∃ m, w' = w.drewN m :=
  field_at n 13 26 _ 13 26 w rfl rfl (by decide) (by decide) (by decide) (by simp)
theorem fld26_57 (n : Int) (w : World) : Calls Try.prog 52 #[.int .i64 n, .int .i64 26, .int .i64 57] w fun e w' => e = .returned (.int .i64 (n / 67108864 % 2147483648)) ∧ ∃ m, w' = w.drewN m :=
  field_at n 26 57 _ 26 57 w rfl rfl (by decide) (by decide) (by decide) (by simp)


set_option maxHeartbeats 4000000 in
theorem split_any (a b : Int) (w : World) :
    Calls Try.prog 41 #[AC a b] w fun e w' => e = .returned (AH (hdOf a b)) ∧ Below w.heap.size w w' := by
  go_enter Try.func41, Try.ntmps41
  go_wp2
  refine region_quiet_tail 25 (by kernel_rfl) (by kernel_rfl) ?_
  simp only [List.take_succ_cons, List.take_zero, List.drop_succ_cons, List.drop_zero]
  go_big_quiet_step (fail)
  go_big_quiet_step (fail)
  go_big_quiet_step (exact Calls.quiet_of (fld0_4 _ _))
  go_big_quiet_step (fail)
  go_big_quiet_step (fail)
  go_big_quiet_step (exact Calls.quiet_of (fld4_6 _ _))
  go_big_quiet_step (fail)
  go_big_quiet_step (fail)
  go_big_quiet_step (exact Calls.quiet_of (fld6_9 _ _))
  go_big_quiet_step (fail)
  go_big_quiet_step (fail)
  go_big_quiet_step (exact Calls.quiet_of (fld9_11 _ _))
  go_big_quiet_step (fail)
  go_big_quiet_step (fail)
  go_big_quiet_step (exact Calls.quiet_of (fld11_42 _ _))
  go_big_quiet_step (fail)
  go_big_quiet_step (fail)
  go_big_quiet_step (exact Calls.quiet_of (fld0_13 _ _))
  go_big_quiet_step (fail)
  go_big_quiet_step (fail)
  go_big_quiet_step (exact Calls.quiet_of (fld13_26 _ _))
  go_big_quiet_step (fail)
  go_big_quiet_step (fail)
  go_big_quiet_step (exact Calls.quiet_of (fld26_57 _ _))
  go_big_quiet_step (fail)
  refine wpQuiet_nil ?_
  rintro _ ⟨nq, rfl⟩
  go_wp2
  refine bodyPost_ret (v := AH (hdOf a b)) (by simp [results, Try.results41, go_sem, hdOf]) rfl ⟨rfl, ?_⟩
  refine Below.setCell ?_ (by simp) _
  refine Below.setCell ?_ (by simp) _
  refine Below.setCell ?_ (by simp) _
  refine Below.setCell ?_ (by simp) _
  refine Below.setCell ?_ (by simp) _
  refine Below.setCell ?_ (by simp) _
  refine Below.setCell ?_ (by simp) _
  refine Below.setCell ?_ (by simp) _
  exact below_drewN (((Below.refl _ _).alloc (Nat.le_refl _) _).alloc (by simp) _) nq

/-- Are two cells a right head's? -/
def unB (a b : Int) : Bool := decide (rightE (hdOf a b) = 0) && (decide (c1 (hdOf a b) = a) && decide (c2 (hdOf a b) = b))
/-- The head without anything. -/
def h0 : Hd := ⟨0, 0, 0, 0, 0, 0, 0, 0⟩
/-- Unpack's answer. -/
def unH (a b : Int) : Hd := if unB a b then hdOf a b else h0
def unE (a b : Int) : Int := if unB a b then 0 else 6

theorem right_field {h : Hd} (h1 : rightE h = 0) : 0 ≤ h.s ∧ h.s ≤ 2147483647 ∧ 0 ≤ h.f ∧ h.f ≤ 2147483647 := ⟨(right_bds h1).s.1, (right_bds h1).s.2, (right_bds h1).f.1, (right_bds h1).f.2⟩

/-- The head of two cells, as the document reckons it. -/
def hdR (a b : Int) : Hd := ⟨a % 16, a / 16 % 4, a / 64 % 8, a / 512 % 4, a / 2048, b / 67108864, b % 8192, b / 8192 % 8192⟩

theorem un_ref (a b : Int) : unB a b = (decide (0 ≤ a) && decide (0 ≤ b) && decide (rightE (hdR a b) = 0)) := by
  rw [Bool.eq_iff_iff]
  simp only [unB, Bool.and_eq_true, decide_eq_true_eq]
  constructor
  · rintro ⟨h1, h2, h3⟩
    have hb := right_bds h1
    obtain ⟨b1, b2, b3, b4, b5, b6, b7, b8⟩ := hb
    simp only [hdOf, c1, c2] at h2 h3 b1 b2 b3 b4 b5 b6 b7 b8
    have e : hdR a b = hdOf a b := by
      simp only [hdR, hdOf, Hd.mk.injEq, true_and, and_true]; omega
    rw [e]
    exact ⟨⟨by omega, by omega⟩, h1⟩
  · rintro ⟨⟨h1, h2⟩, h3⟩
    have hf := right_field h3
    simp only [hdR] at hf
    have e : hdR a b = hdOf a b := by
      simp only [hdR, hdOf, Hd.mk.injEq, true_and, and_true]; omega
    rw [e] at h3
    refine ⟨h3, ?_, ?_⟩
    · simp only [hdOf, c1]; omega
    · simp only [hdOf, c2]; omega
theorem un_eq {a b : Int} (h : unB a b = true) : hdR a b = hdOf a b := by
  rw [un_ref] at h
  simp only [Bool.and_eq_true, decide_eq_true_eq] at h
  have hf := right_field h.2
  simp only [hdR] at hf
  simp only [hdR, hdOf, Hd.mk.injEq, true_and, and_true]; omega
end Go.Proofs.Ytnmchcanijkggaa
