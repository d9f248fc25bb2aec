/- What the operations do with two ints and with two floats. -/
import Derived.Test.YtdpdpgnpkmfooaaGreatDoorW5
namespace Go.Proofs.YtdpdpgnpkmfooaaGreatDoor
open Go.RowKit

set_option maxHeartbeats 400000 in
theorem addI_any (a b : Int) (w : World) : Calls Tryz.prog 69 #[.int .i64 a, .int .i64 b] w fun e w' => e = .returned (.int .i64 (wrap64 (a + b))) ∧ w' = w := by
  go_enter Tryz.func69, Tryz.ntmps69
  go_wp2
  go_ret
  exact ⟨rfl, rfl⟩
set_option maxHeartbeats 400000 in
theorem subI_any (a b : Int) (w : World) : Calls Tryz.prog 71 #[.int .i64 a, .int .i64 b] w fun e w' => e = .returned (.int .i64 (wrap64 (a - b))) ∧ w' = w := by
  go_enter Tryz.func71, Tryz.ntmps71
  go_wp2
  go_ret
  exact ⟨rfl, rfl⟩
set_option maxHeartbeats 400000 in
theorem mulI_any (a b : Int) (w : World) : Calls Tryz.prog 73 #[.int .i64 a, .int .i64 b] w fun e w' => e = .returned (.int .i64 (wrap64 (a * b))) ∧ w' = w := by
  go_enter Tryz.func73, Tryz.ntmps73
  go_wp2
  go_ret
  exact ⟨rfl, rfl⟩

/-- The N of Float of what an operation gives; where it gives no number it is the one NaN. -/
def fltO : Option Nat → Int
  | none => 9221120237041090561
  | some r => flt r

theorem nan_drawn (x y t : Nat) : Fm.nanB ((Question.nanBits .f64 x y).cut t) = true := by
  have e : (Question.nanBits .f64 x y).cut t = (t % 2) * 9223372036854775808 + 9218868437227405312 + 1 + (t / 2) % 4503599627370495 := rfl
  rw [e]
  have h1 : t % 2 < 2 := Nat.mod_lt _ (by decide)
  have h2 : (t / 2) % 4503599627370495 < 4503599627370495 := Nat.mod_lt _ (by decide)
  generalize t % 2 = a at *
  generalize (t / 2) % 4503599627370495 = b at *
  unfold Fm.nanB
  exact decide_eq_true (by omega)

theorem run_float_any (op : BinOp) (h4 : op = .add ∨ op = .sub ∨ op = .mul ∨ op = .quo) (x y : Nat) (w : World) :
    ∃ r w1, (binOp op 24 (.float .f64 x) (.float .f64 y)).run Tryz.prog w = .ok (.float .f64 r) w1 ∧ flt r = fltO (floatBits op .f64 x y) ∧ Below w.heap.size w w1 := by
  cases h : floatBits op .f64 x y with
  | some r => exact ⟨r, w, run_float_arith w op 24 .f64 x y r h, rfl, Below.refl _ _⟩
  | none =>
    refine ⟨(Question.nanBits .f64 x y).cut (w.tape w.drawn (.nanBits .f64 x y)), w.drew, ?_, ?_, (Below.refl _ _).drew⟩
    · rcases h4 with rfl | rfl | rfl | rfl <;> simp only [floatBits] at h <;> simp [binOp, Op.floatArith, h, Question.forced]
    · unfold flt; rw [nan_drawn]; rfl

set_option maxHeartbeats 400000 in
theorem addF_any (x y : Nat) (w : World) : Calls Tryz.prog 70 #[.float .f64 x, .float .f64 y] w fun e w' => ∃ r, e = .returned (.float .f64 r) ∧ flt r = fltO (floatBits .add .f64 x y) ∧ Below w.heap.size w w' := by
  obtain ⟨r, w1, hr, hv, hb⟩ := run_float_any .add (by simp) x y w
  have HV : Hid (flt r = fltO (floatBits .add .f64 x y)) := hv
  clear hv
  go_enter Tryz.func70, Tryz.ntmps70
  go_wp2
  go_ret
  exact ⟨r, rfl, HV.out, hb⟩
set_option maxHeartbeats 400000 in
theorem subF_any (x y : Nat) (w : World) : Calls Tryz.prog 72 #[.float .f64 x, .float .f64 y] w fun e w' => ∃ r, e = .returned (.float .f64 r) ∧ flt r = fltO (floatBits .sub .f64 x y) ∧ Below w.heap.size w w' := by
  obtain ⟨r, w1, hr, hv, hb⟩ := run_float_any .sub (by simp) x y w
  have HV : Hid (flt r = fltO (floatBits .sub .f64 x y)) := hv
  clear hv
  go_enter Tryz.func72, Tryz.ntmps72
  go_wp2
  go_ret
  exact ⟨r, rfl, HV.out, hb⟩
set_option maxHeartbeats 400000 in
theorem mulF_any (x y : Nat) (w : World) : Calls Tryz.prog 74 #[.float .f64 x, .float .f64 y] w fun e w' => ∃ r, e = .returned (.float .f64 r) ∧ flt r = fltO (floatBits .mul .f64 x y) ∧ Below w.heap.size w w' := by
  obtain ⟨r, w1, hr, hv, hb⟩ := run_float_any .mul (by simp) x y w
  have HV : Hid (flt r = fltO (floatBits .mul .f64 x y)) := hv
  clear hv
  go_enter Tryz.func74, Tryz.ntmps74
  go_wp2
  go_ret
  exact ⟨r, rfl, HV.out, hb⟩
set_option maxHeartbeats 400000 in
theorem quoF_any (x y : Nat) (w : World) : Calls Tryz.prog 75 #[.float .f64 x, .float .f64 y] w fun e w' => ∃ r, e = .returned (.float .f64 r) ∧ flt r = fltO (floatBits .quo .f64 x y) ∧ Below w.heap.size w w' := by
  obtain ⟨r, w1, hr, hv, hb⟩ := run_float_any .quo (by simp) x y w
  have HV : Hid (flt r = fltO (floatBits .quo .f64 x y)) := hv
  clear hv
  go_enter Tryz.func75, Tryz.ntmps75
  go_wp2
  go_ret
  exact ⟨r, rfl, HV.out, hb⟩

/-- Is the true quotient below nought and not whole? -/
def btw (a b : Int) : Bool := (a.tmod b != 0) && (decide (a < 0) != decide (b < 0))
/-- The quotient rounded down, and what is left. -/
def qd (a b : Int) : Int := if btw a b then wrap64 (wrap64 (a.tdiv b) - 1) else wrap64 (a.tdiv b)
def rd (a b : Int) : Int := if btw a b then wrap64 (a.tmod b + b) else a.tmod b

set_option maxHeartbeats 400000 in
theorem between_any (a b : Int) (w : World) (hb : ¬ b = 0) : Calls Tryz.prog 96 #[.int .i64 a, .int .i64 b] w fun e w' => e = .returned (.bool (btw a b)) ∧ w' = w := by
  cases h : (a.tmod b != 0)
  · have HV : Hid (btw a b = false) := by show btw a b = false; unfold btw; rw [h]; rfl
    go_enter Tryz.func96, Tryz.ntmps96
    go_wp2
    go_ret
    exact ⟨by rw [HV.out]; rfl, rfl⟩
  · have HV : Hid (btw a b = (decide (a < 0) != decide (b < 0))) := by show btw a b = _; unfold btw; rw [h]; rfl
    go_enter Tryz.func96, Tryz.ntmps96
    go_wp2
    go_ret
    exact ⟨by rw [HV.out]; rfl, rfl⟩

set_option maxHeartbeats 400000 in
theorem quot_any (a b : Int) (w : World) (hb : ¬ b = 0) : Calls Tryz.prog 76 #[.int .i64 a, .int .i64 b] w fun e w' => e = .returned (.int .i64 (qd a b)) ∧ w' = w := by
  cases h : btw a b
  · have HV : Hid (qd a b = wrap64 (a.tdiv b)) := by show qd a b = _; unfold qd; rw [h]; rfl
    go_enter Tryz.func76, Tryz.ntmps76
    go_wp2_with (first | (go_at_call 96; refine (between_any _ _ _ hb).mono ?_; rintro e w' ⟨rfl, rfl⟩))
    go_ret
    exact ⟨by rw [HV.out]; rfl, rfl⟩
  · have HV : Hid (qd a b = wrap64 (wrap64 (a.tdiv b) - 1)) := by show qd a b = _; unfold qd; rw [h]; rfl
    go_enter Tryz.func76, Tryz.ntmps76
    go_wp2_with (first | (go_at_call 96; refine (between_any _ _ _ hb).mono ?_; rintro e w' ⟨rfl, rfl⟩))
    go_ret
    exact ⟨by rw [HV.out]; rfl, rfl⟩

set_option maxHeartbeats 400000 in
theorem rest_any (a b : Int) (w : World) (hb : ¬ b = 0) : Calls Tryz.prog 77 #[.int .i64 a, .int .i64 b] w fun e w' => e = .returned (.int .i64 (rd a b)) ∧ w' = w := by
  cases h : btw a b
  · have HV : Hid (rd a b = a.tmod b) := by show rd a b = _; unfold rd; rw [h]; rfl
    go_enter Tryz.func77, Tryz.ntmps77
    go_wp2_with (first | (go_at_call 96; refine (between_any _ _ _ hb).mono ?_; rintro e w' ⟨rfl, rfl⟩))
    go_ret
    exact ⟨by rw [HV.out]; rfl, rfl⟩
  · have HV : Hid (rd a b = wrap64 (a.tmod b + b)) := by show rd a b = _; unfold rd; rw [h]; rfl
    go_enter Tryz.func77, Tryz.ntmps77
    go_wp2_with (first | (go_at_call 96; refine (between_any _ _ _ hb).mono ?_; rintro e w' ⟨rfl, rfl⟩))
    go_ret
    exact ⟨by rw [HV.out]; rfl, rfl⟩

/-- What operationOf gives: two functions. -/
abbrev fnV (k : Nat) : Value := .func (.func k) #[] #[]

set_option maxHeartbeats 1000000 in
theorem opOf_1 (w : World) : Calls Tryz.prog 45 #[.int .i64 1] w fun e w' => e = .returned (.agg #[fnV 69, fnV 70]) ∧ Below w.heap.size w w' := by
  go_enter Tryz.func45, Tryz.ntmps45
  go_wp2
  refine bodyPost_ret (v := .agg #[fnV 69, fnV 70]) (by simp [results, Tryz.results45, go_sem]) rfl ⟨rfl, ?_⟩
  exact ((Below.refl _ _).alloc (Nat.le_refl _) _).alloc (by simp) _

set_option maxHeartbeats 1000000 in
theorem opOf_2 (w : World) : Calls Tryz.prog 45 #[.int .i64 2] w fun e w' => e = .returned (.agg #[fnV 71, fnV 72]) ∧ Below w.heap.size w w' := by
  go_enter Tryz.func45, Tryz.ntmps45
  go_wp2
  refine bodyPost_ret (v := .agg #[fnV 71, fnV 72]) (by simp [results, Tryz.results45, go_sem]) rfl ⟨rfl, ?_⟩
  exact ((Below.refl _ _).alloc (Nat.le_refl _) _).alloc (by simp) _

set_option maxHeartbeats 1000000 in
theorem opOf_3 (w : World) : Calls Tryz.prog 45 #[.int .i64 3] w fun e w' => e = .returned (.agg #[fnV 73, fnV 74]) ∧ Below w.heap.size w w' := by
  go_enter Tryz.func45, Tryz.ntmps45
  go_wp2
  refine bodyPost_ret (v := .agg #[fnV 73, fnV 74]) (by simp [results, Tryz.results45, go_sem]) rfl ⟨rfl, ?_⟩
  exact ((Below.refl _ _).alloc (Nat.le_refl _) _).alloc (by simp) _

set_option maxHeartbeats 1000000 in
theorem opOf_4 (w : World) : Calls Tryz.prog 45 #[.int .i64 4] w fun e w' => e = .returned (.agg #[.nilFunc, fnV 75]) ∧ Below w.heap.size w w' := by
  go_enter Tryz.func45, Tryz.ntmps45
  go_wp2
  refine bodyPost_ret (v := .agg #[.nilFunc, fnV 75]) (by simp [results, Tryz.results45, go_sem]) rfl ⟨rfl, ?_⟩
  exact ((Below.refl _ _).alloc (Nat.le_refl _) _).alloc (by simp) _

set_option maxHeartbeats 1000000 in
theorem opOf_5 (w : World) : Calls Tryz.prog 45 #[.int .i64 5] w fun e w' => e = .returned (.agg #[fnV 76, .nilFunc]) ∧ Below w.heap.size w w' := by
  go_enter Tryz.func45, Tryz.ntmps45
  go_wp2
  refine bodyPost_ret (v := .agg #[fnV 76, .nilFunc]) (by simp [results, Tryz.results45, go_sem]) rfl ⟨rfl, ?_⟩
  exact ((Below.refl _ _).alloc (Nat.le_refl _) _).alloc (by simp) _

set_option maxHeartbeats 1000000 in
theorem opOf_6 (w : World) : Calls Tryz.prog 45 #[.int .i64 6] w fun e w' => e = .returned (.agg #[fnV 77, .nilFunc]) ∧ Below w.heap.size w w' := by
  go_enter Tryz.func45, Tryz.ntmps45
  go_wp2
  refine bodyPost_ret (v := .agg #[fnV 77, .nilFunc]) (by simp [results, Tryz.results45, go_sem]) rfl ⟨rfl, ?_⟩
  exact ((Below.refl _ _).alloc (Nat.le_refl _) _).alloc (by simp) _
end Go.Proofs.YtdpdpgnpkmfooaaGreatDoor
