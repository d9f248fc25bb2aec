/- What is whole: rounding down, and numbers as ints, in the program and in the document's answer. -/
import Derived.Test.YthefmfjlinpepaaW1
namespace Go.Proofs.Ythefmfjlinpepaa
open Go.RowKit

/-- 'f >= -2^63 && f < 2^63'. -/
def withinB (x : Nat) : Bool := (FloatKind.f64.format.order x 14114281232179134464 == some .gt || FloatKind.f64.format.order x 14114281232179134464 == some .eq) && FloatKind.f64.format.order x 4890909195324358656 == some .lt
theorem withinB_iff (x : Nat) : withinB x = true ↔ Fm.within x := Fm.within_test x
/-- The int that is nearest towards nought. -/
def tr (x : Nat) : Int := (Fm.trunc x).getD 0
/-- Is the float whole? -/
def whB (x : Nat) : Bool := withinB x && decide (Fm.val x = Fm.ival (tr x))
/-- A value as an int, and the error's number. -/
def whN (t n : Int) : Int := if isNum t n then (if t = 2 then n else if whB (B n) then tr (B n) else 0) else 0
def whE (t n : Int) : Int := if isNum t n then (if t = 2 then 0 else if whB (B n) then 0 else 12) else 10

theorem within_facts {x : Nat} (h : withinB x = true) : Fm.trunc x = some (tr x) ∧ -9223372036854775808 ≤ tr x ∧ tr x ≤ 9223372036854775807 ∧
    (FloatKind.f64.format.order x (Fm.floorW x) != some .eq) = !decide (Fm.val x = Fm.ival (tr x)) ∧ (FloatKind.f64.format.order (Fm.ofInt (tr x)) x == some .eq) = decide (Fm.val x = Fm.ival (tr x)) := by
  have hw := (withinB_iff x).1 h
  obtain ⟨t, d, h1, h2, h3, h4, h5, h6, h7, h8, h9, h10, h11, h12, h13, h14, h15, h16, _⟩ := Fm.within_parts hw
  have ht : tr x = t := by unfold tr; rw [h1]; rfl
  rw [ht]
  refine ⟨h1, h2, h3, ?_, ?_⟩
  · show (Ieee.double.order x (Fm.floorW x) != some .eq) = _
    rw [bne, Fm.eq_iff hw.1 h9, h8]
    congr 1
    exact decide_eq_decide.2 h16
  · show (Ieee.double.order (Fm.ofInt t) x == some .eq) = _
    rw [Fm.eq_iff h7 hw.1, h6]
    exact decide_eq_decide.2 ⟨fun h => h.symm, fun h => h.symm⟩

theorem within_not_nan {x : Nat} (h : withinB x = true) : Fm.nanB x = false := ((withinB_iff x).1 h).1

theorem toIntegral_run {x : Nat} (h : Fm.nanB x = false) (w : World) : (Extern.MathFloor.toIntegral "math.archFloor" .down #[.float .f64 x]).run Try.prog w = .ok (.float .f64 (Fm.floorW x)) w := by
  change Sem.run Try.prog (match FloatKind.f64.decode x with
    | .nan _ _ => (_ : Sem Value)
    | d => (pure (Value.float .f64 (FloatKind.f64.encode (d.integral .down))) : Sem Value)) w = _
  unfold Fm.floorW
  rcases Fm.read_not_nan h with ⟨s, m, i, e, _⟩ | ⟨s, e⟩
  · have e' : FloatKind.f64.decode x = .number s m i := e
    rw [e', e]; rfl
  · have e' : FloatKind.f64.decode x = .infinity s := e
    rw [e', e]; rfl

theorem find_floor : Extern.find Try.f77 = some (Extern.MathFloor.toIntegral "math.archFloor" .down) := by kernel_rfl
theorem findNext_floor : Extern.findNext Try.f77 = none := by kernel_rfl
theorem call_floor {x : Nat} (h : Fm.nanB x = false) (w : World) : (callFunc 77 #[.float .f64 x]).run Try.prog w = .ok (.value (.float .f64 (Fm.floorW x))) w := by
  rw [run_callFunc_extern Try.func77 (by kernel_rfl) (by kernel_rfl) findNext_floor find_floor, toIntegral_run h]; rfl

theorem conv_i64 {x : Nat} (h : withinB x = true) (w : World) : (convert 55 2 (.float .f64 x)).run Try.prog w = .ok (.int .i64 (tr x)) w := by
  have f := within_facts h
  refine run_convert_float_int w 55 2 .f64 .i64 x (tr x) (by kernel_rfl) Try.underlying2 ?_
  unfold floatToIntVal
  have e : (FloatKind.f64.decode x).toInt .zero = some (tr x) := f.1
  rw [e]
  have hb : IntKind.i64.min ≤ tr x ∧ tr x ≤ IntKind.i64.max := ⟨f.2.1, f.2.2.1⟩
  simp only [hb, and_self, if_true]

set_option maxHeartbeats 400000 in
theorem within_any (x : Nat) (w : World) :
    Calls Try.prog 56 #[.float .f64 x] w fun e w' => e = .returned (.bool (withinB x)) ∧ w' = w := by
  cases h : (FloatKind.f64.format.order x 14114281232179134464 == some .gt || FloatKind.f64.format.order x 14114281232179134464 == some .eq)
  · have hv : withinB x = false := by unfold withinB; rw [h]; rfl
    have HV : Hid (withinB x = false) := hv
    clear hv
    go_enter Try.func56, Try.ntmps56
    go_wp2
    go_ret
    exact ⟨by rw [HV.out]; rfl, rfl⟩
  · have hv : withinB x = (FloatKind.f64.format.order x 4890909195324358656 == some .lt) := by unfold withinB; rw [h]; rfl
    have HV : Hid (withinB x = (FloatKind.f64.format.order x 4890909195324358656 == some .lt)) := hv
    clear hv
    go_enter Try.func56, Try.ntmps56
    go_wp2
    go_ret
    exact ⟨by rw [HV.out]; rfl, rfl⟩

set_option maxHeartbeats 400000 in
theorem Floor_any (x : Nat) (w : World) (h : Fm.nanB x = false) :
    Calls Try.prog 57 #[.float .f64 x] w fun e w' => e = .returned (.float .f64 (Fm.floorW x)) ∧ w' = w := by
  have hc := call_floor h
  clear h
  go_enter Try.func57, Try.ntmps57
  go_wp2
  go_ret
  exact ⟨rfl, rfl⟩
end Go.Proofs.Ythefmfjlinpepaa
