/- What a step leaves as it was; bytes of names, numbers and blanks. -/
import Derived.Test.YtidokamfppdnaaaGreatDoorRows
import Derived.WalkKit
import Derived.WalkSpells
import Derived.WalkLawsBesides
import Derived.Deep.QuietTactic
import Derived.BigQuiet
namespace Go.Proofs.YtidokamfppdnaaaGreatDoor
open Go.RowKit
set_option linter.unusedSimpArgs false
set_option linter.unusedVariables false

set_option maxHeartbeats 400000 in
theorem no_any (n : Int) (w : World) : Calls Tryz.prog 7 #[.int .i64 n] w fun e w' => e = .returned (.int .i64 n) ∧ w = w' := by
  go_enter Tryz.func7, Tryz.ntmps7
  go_wp2
  go_ret
  exact ⟨rfl, rfl⟩

/-- A blank. -/
def isBl (c : UInt8) : Bool := c.toNat == 9 || c.toNat == 10 || c.toNat == 13 || c.toNat == 32
/-- A digit. -/
def isDg (c : UInt8) : Bool := decide (48 ≤ c.toNat) && decide (c.toNat ≤ 57)
/-- A letter. -/
def isLt (c : UInt8) : Bool := decide (97 ≤ c.toNat) && decide (c.toNat ≤ 122) || decide (65 ≤ c.toNat) && decide (c.toNat ≤ 90) || c.toNat == 95
/-- A byte of a name. -/
def isNm (c : UInt8) : Bool := isLt c || isDg c

set_option maxHeartbeats 1000000 in
theorem isBlank_any (c : UInt8) (w : World) : Calls Tryz.prog 20 #[.int .u8 c.toNat] w fun e w' => e = .returned (.bool (isBl c)) ∧ w = w' := by
  unfold isBl
  generalize c.toNat = n
  by_cases h1 : n = 9
  · subst h1
    go_enter Tryz.func20, Tryz.ntmps20
    go_wp2
    go_ret
    exact ⟨rfl, rfl⟩
  · by_cases h2 : n = 10
    · subst h2
      go_enter Tryz.func20, Tryz.ntmps20
      go_wp2
      go_ret
      exact ⟨rfl, rfl⟩
    · by_cases h3 : n = 13
      · subst h3
        go_enter Tryz.func20, Tryz.ntmps20
        go_wp2
        go_ret
        exact ⟨rfl, rfl⟩
      · have e : (n == 9 || n == 10 || n == 13 || n == 32) = (n == 32) := by simp [h1, h2, h3]
        rw [e]
        have b1 : ((n : Int) == 9) = false := by rw [beq_eq_false_iff_ne]; omega
        have b2 : ((n : Int) == 10) = false := by rw [beq_eq_false_iff_ne]; omega
        have b3 : ((n : Int) == 13) = false := by rw [beq_eq_false_iff_ne]; omega
        have e4 : Hid (((n : Int) == 32) = (n == 32)) := by show _ = _; rw [Bool.eq_iff_iff, beq_iff_eq, beq_iff_eq]; omega
        go_enter Tryz.func20, Tryz.ntmps20
        go_wp2
        go_ret
        exact ⟨by rw [← e4.out]; rfl, rfl⟩

set_option maxHeartbeats 1000000 in
theorem isDigit_any (c : UInt8) (w : World) : Calls Tryz.prog 32 #[.int .u8 c.toNat] w fun e w' => e = .returned (.bool (isDg c)) ∧ w = w' := by
  unfold isDg
  generalize c.toNat = n
  by_cases h1 : 48 ≤ n
  · have d1 : decide ((48 : Int) ≤ n) = true := decide_eq_true (by omega)
    by_cases h2 : n ≤ 57
    · have d2 : decide ((n : Int) ≤ 57) = true := decide_eq_true (by omega)
      have e : (decide (48 ≤ n) && decide (n ≤ 57)) = true := by simp [h1, h2]
      rw [e]
      go_enter Tryz.func32, Tryz.ntmps32
      go_wp2
      go_ret
      exact ⟨rfl, rfl⟩
    · have d2 : decide ((n : Int) ≤ 57) = false := decide_eq_false (by omega)
      have e : (decide (48 ≤ n) && decide (n ≤ 57)) = false := by simp [h2]
      rw [e]
      go_enter Tryz.func32, Tryz.ntmps32
      go_wp2
      go_ret
      exact ⟨rfl, rfl⟩
  · have d1 : decide ((48 : Int) ≤ n) = false := decide_eq_false (by omega)
    have e : (decide (48 ≤ n) && decide (n ≤ 57)) = false := by simp [h1]
    rw [e]
    go_enter Tryz.func32, Tryz.ntmps32
    go_wp2
    go_ret
    exact ⟨rfl, rfl⟩

set_option maxHeartbeats 2000000 in
theorem isLetter_any (c : UInt8) (w : World) : Calls Tryz.prog 29 #[.int .u8 c.toNat] w fun e w' => e = .returned (.bool (isLt c)) ∧ w = w' := by
  unfold isLt
  generalize c.toNat = n
  obtain ⟨r, HR⟩ : ∃ r, Hid ((decide (97 ≤ n) && decide (n ≤ 122) || decide (65 ≤ n) && decide (n ≤ 90) || n == 95) = r) := ⟨_, show _ = _ from rfl⟩
  rw [HR.out]
  have hc : (97 ≤ n ∧ n ≤ 122) ∨ (122 < n) ∨ (65 ≤ n ∧ n ≤ 90) ∨ (n < 65) ∨ n = 95 ∨ (90 < n ∧ n < 97 ∧ n ≠ 95) := by omega
  rcases hc with h | h | h | h | h | h
  · have e : true = r := by rw [← HR.out]; simp; omega
    subst e
    have d1 : decide ((97 : Int) ≤ n) = true := decide_eq_true (by omega)
    have d2 : decide ((n : Int) ≤ 122) = true := decide_eq_true (by omega)
    go_enter Tryz.func29, Tryz.ntmps29
    go_wp2
    go_ret
    exact ⟨rfl, rfl⟩
  · have e : false = r := by rw [← HR.out]; simp; omega
    subst e
    have d1 : decide ((97 : Int) ≤ n) = true := decide_eq_true (by omega)
    have d2 : decide ((n : Int) ≤ 122) = false := decide_eq_false (by omega)
    have d3 : decide ((65 : Int) ≤ n) = true := decide_eq_true (by omega)
    have d4 : decide ((n : Int) ≤ 90) = false := decide_eq_false (by omega)
    have d5 : ((n : Int) == 95) = false := by rw [beq_eq_false_iff_ne]; omega
    go_enter Tryz.func29, Tryz.ntmps29
    go_wp2
    go_ret
    exact ⟨rfl, rfl⟩
  · have e : true = r := by rw [← HR.out]; simp; omega
    subst e
    have d1 : decide ((97 : Int) ≤ n) = false := decide_eq_false (by omega)
    have d3 : decide ((65 : Int) ≤ n) = true := decide_eq_true (by omega)
    have d4 : decide ((n : Int) ≤ 90) = true := decide_eq_true (by omega)
    go_enter Tryz.func29, Tryz.ntmps29
    go_wp2
    go_ret
    exact ⟨rfl, rfl⟩
  · have e : false = r := by rw [← HR.out]; simp; omega
    subst e
    have d1 : decide ((97 : Int) ≤ n) = false := decide_eq_false (by omega)
    have d3 : decide ((65 : Int) ≤ n) = false := decide_eq_false (by omega)
    have d5 : ((n : Int) == 95) = false := by rw [beq_eq_false_iff_ne]; omega
    go_enter Tryz.func29, Tryz.ntmps29
    go_wp2
    go_ret
    exact ⟨rfl, rfl⟩
  · have e : true = r := by rw [← HR.out]; simp; omega
    subst e
    subst h
    clear HR
    go_enter Tryz.func29, Tryz.ntmps29
    go_wp2
    go_ret
    exact ⟨rfl, rfl⟩
  · have e : false = r := by rw [← HR.out]; simp; omega
    subst e
    have d1 : decide ((97 : Int) ≤ n) = false := decide_eq_false (by omega)
    have d3 : decide ((65 : Int) ≤ n) = true := decide_eq_true (by omega)
    have d4 : decide ((n : Int) ≤ 90) = false := decide_eq_false (by omega)
    have d5 : ((n : Int) == 95) = false := by rw [beq_eq_false_iff_ne]; omega
    go_enter Tryz.func29, Tryz.ntmps29
    go_wp2
    go_ret
    exact ⟨rfl, rfl⟩

set_option maxHeartbeats 1000000 in
theorem isInName_any (c : UInt8) (w : World) : Calls Tryz.prog 30 #[.int .u8 c.toNat] w fun e w' => e = .returned (.bool (isNm c)) ∧ w = w' := by
  have HL : Hid _ := isLetter_any c w
  have HD : Hid _ := isDigit_any c w
  unfold isNm
  generalize c.toNat = n at HL HD ⊢
  generalize isLt c = b1 at HL ⊢
  generalize isDg c = b2 at HD ⊢
  cases b1 with
  | true =>
    go_enter Tryz.func30, Tryz.ntmps30
    go_wp2_with (first | (go_at_call 29; refine Calls.mono HL.out ?_; rintro e w' ⟨rfl, rfl⟩) | (go_at_call 32; refine Calls.mono HD.out ?_; rintro e w' ⟨rfl, rfl⟩))
    go_ret
    exact ⟨rfl, rfl⟩
  | false =>
    go_enter Tryz.func30, Tryz.ntmps30
    go_wp2_with (first | (go_at_call 29; refine Calls.mono HL.out ?_; rintro e w' ⟨rfl, rfl⟩) | (go_at_call 32; refine Calls.mono HD.out ?_; rintro e w' ⟨rfl, rfl⟩))
    go_ret
    exact ⟨rfl, rfl⟩
end Go.Proofs.YtidokamfppdnaaaGreatDoor
