/- The document's letters, digits, blanks. -/
import Derived.Test.YtidokamfppdnaaaGreatDoorC2
namespace Go.Proofs.YtidokamfppdnaaaGreatDoor
open Go.RowKit
set_option linter.unusedSimpArgs false
set_option linter.unusedVariables false

theorem isBl_iff (c : UInt8) : isBl c = true ↔ c.toNat = 9 ∨ c.toNat = 10 ∨ c.toNat = 13 ∨ c.toNat = 32 := by
  unfold isBl; simp [or_assoc]
theorem eqI (n m : Nat) (h : n = m) : ((n : Int) == (m : Int)) = true := by rw [h]; simp
theorem neI (n m : Nat) (h : ¬ n = m) : ((n : Int) == (m : Int)) = false := by rw [beq_eq_false_iff_ne]; omega

set_option maxHeartbeats 1000000 in
theorem RDigit_any (c : UInt8) (w : World) : Calls Tryz.prog 24 #[.int .u8 c.toNat] w fun e w' => e = .returned (.bool (isDg c)) ∧ w = w' := by
  unfold isDg
  generalize c.toNat = n
  by_cases h1 : 48 ≤ n
  · have d1 : decide ((48 : Int) ≤ n) = true := decide_eq_true (by omega)
    by_cases h2 : n ≤ 57
    · have d2 : decide ((n : Int) ≤ 57) = true := decide_eq_true (by omega)
      have e : (decide (48 ≤ n) && decide (n ≤ 57)) = true := by simp [h1, h2]
      rw [e]
      go_enter Tryz.func24, Tryz.ntmps24
      go_wp2
      go_ret
      exact ⟨rfl, rfl⟩
    · have d2 : decide ((n : Int) ≤ 57) = false := decide_eq_false (by omega)
      have e : (decide (48 ≤ n) && decide (n ≤ 57)) = false := by simp [h2]
      rw [e]
      go_enter Tryz.func24, Tryz.ntmps24
      go_wp2
      go_ret
      exact ⟨rfl, rfl⟩
  · have d1 : decide ((48 : Int) ≤ n) = false := decide_eq_false (by omega)
    have e : (decide (48 ≤ n) && decide (n ≤ 57)) = false := by simp [h1]
    rw [e]
    go_enter Tryz.func24, Tryz.ntmps24
    go_wp2
    go_ret
    exact ⟨rfl, rfl⟩

theorem isLt_cases (n : Nat) : (n = 95 ∧ (decide (97 ≤ n) && decide (n ≤ 122) || decide (65 ≤ n) && decide (n ≤ 90) || n == 95) = true) ∨
    (¬ n = 95 ∧ 65 ≤ n ∧ n ≤ 90 ∧ (decide (97 ≤ n) && decide (n ≤ 122) || decide (65 ≤ n) && decide (n ≤ 90) || n == 95) = true) ∨
    (¬ n = 95 ∧ 65 ≤ n ∧ ¬ n ≤ 90 ∧ 97 ≤ n ∧ n ≤ 122 ∧ (decide (97 ≤ n) && decide (n ≤ 122) || decide (65 ≤ n) && decide (n ≤ 90) || n == 95) = true) ∨
    (¬ n = 95 ∧ 65 ≤ n ∧ ¬ n ≤ 90 ∧ 97 ≤ n ∧ ¬ n ≤ 122 ∧ (decide (97 ≤ n) && decide (n ≤ 122) || decide (65 ≤ n) && decide (n ≤ 90) || n == 95) = false) ∨
    (¬ n = 95 ∧ 65 ≤ n ∧ ¬ n ≤ 90 ∧ ¬ 97 ≤ n ∧ (decide (97 ≤ n) && decide (n ≤ 122) || decide (65 ≤ n) && decide (n ≤ 90) || n == 95) = false) ∨
    (¬ n = 95 ∧ ¬ 65 ≤ n ∧ ¬ 97 ≤ n ∧ (decide (97 ≤ n) && decide (n ≤ 122) || decide (65 ≤ n) && decide (n ≤ 90) || n == 95) = false) := by
  by_cases h1 : n = 95
  · left; subst h1; exact ⟨rfl, by decide⟩
  · right
    by_cases h2 : 65 ≤ n
    · by_cases h3 : n ≤ 90
      · left; exact ⟨h1, h2, h3, by simp [h2, h3]⟩
      · right
        by_cases h4 : 97 ≤ n
        · by_cases h5 : n ≤ 122
          · left; exact ⟨h1, h2, h3, h4, h5, by simp [h4, h5]⟩
          · right; left; exact ⟨h1, h2, h3, h4, h5, by simp [h1, h3, h5]⟩
        · right; right; left; exact ⟨h1, h2, h3, h4, by simp [h1, h3, h4]⟩
    · right; right; right; right; exact ⟨h1, h2, by omega, by simp [h1, h2]; omega⟩
set_option maxHeartbeats 1000000 in
theorem RLetter_any (c : UInt8) (w : World) : Calls Tryz.prog 23 #[.int .u8 c.toNat] w fun e w' => e = .returned (.bool (isLt c)) ∧ w = w' := by
  unfold isLt
  generalize c.toNat = n
  rcases isLt_cases n with ⟨rfl, e⟩ | ⟨h1, h2, h3, e⟩ | ⟨h1, h2, h3, h4, h5, e⟩ | ⟨h1, h2, h3, h4, h5, e⟩ | ⟨h1, h2, h3, h4, e⟩ | ⟨h1, h2, h4, e⟩
  · rw [e]
    go_enter Tryz.func23, Tryz.ntmps23
    go_wp2
    go_ret
    exact ⟨rfl, rfl⟩
  · rw [e]
    have d1 : ((n : Int) == 95) = false := neI n 95 h1
    have d2 : decide ((65 : Int) ≤ n) = true := decide_eq_true (by omega)
    have d3 : decide ((n : Int) ≤ 90) = true := decide_eq_true (by omega)
    go_enter Tryz.func23, Tryz.ntmps23
    go_wp2
    go_ret
    exact ⟨rfl, rfl⟩
  · rw [e]
    have d1 : ((n : Int) == 95) = false := neI n 95 h1
    have d2 : decide ((65 : Int) ≤ n) = true := decide_eq_true (by omega)
    have d3 : decide ((n : Int) ≤ 90) = false := decide_eq_false (by omega)
    have d4 : decide ((97 : Int) ≤ n) = true := decide_eq_true (by omega)
    have d5 : decide ((n : Int) ≤ 122) = true := decide_eq_true (by omega)
    go_enter Tryz.func23, Tryz.ntmps23
    go_wp2
    go_ret
    exact ⟨rfl, rfl⟩
  · rw [e]
    have d1 : ((n : Int) == 95) = false := neI n 95 h1
    have d2 : decide ((65 : Int) ≤ n) = true := decide_eq_true (by omega)
    have d3 : decide ((n : Int) ≤ 90) = false := decide_eq_false (by omega)
    have d4 : decide ((97 : Int) ≤ n) = true := decide_eq_true (by omega)
    have d5 : decide ((n : Int) ≤ 122) = false := decide_eq_false (by omega)
    go_enter Tryz.func23, Tryz.ntmps23
    go_wp2
    go_ret
    exact ⟨rfl, rfl⟩
  · rw [e]
    have d1 : ((n : Int) == 95) = false := neI n 95 h1
    have d2 : decide ((65 : Int) ≤ n) = true := decide_eq_true (by omega)
    have d3 : decide ((n : Int) ≤ 90) = false := decide_eq_false (by omega)
    have d4 : decide ((97 : Int) ≤ n) = false := decide_eq_false (by omega)
    go_enter Tryz.func23, Tryz.ntmps23
    go_wp2
    go_ret
    exact ⟨rfl, rfl⟩
  · rw [e]
    have d1 : ((n : Int) == 95) = false := neI n 95 h1
    have d2 : decide ((65 : Int) ≤ n) = false := decide_eq_false (by omega)
    have d4 : decide ((97 : Int) ≤ n) = false := decide_eq_false (by omega)
    go_enter Tryz.func23, Tryz.ntmps23
    go_wp2
    go_ret
    exact ⟨rfl, rfl⟩

set_option maxHeartbeats 4000000 in
theorem blanks_any (s : ByteArray) (k : Nat) (hk : k ≤ s.size) (hs : s.size ≤ 100000) (w : World) :
    Calls Tryz.prog 12 #[.string s, .int .i64 (k : Int)] w fun e w' => e = .returned (.int .i64 ((k + skipB false ((bl s).drop k) : Nat) : Int)) ∧ w = w' := by
  obtain ⟨R, HR⟩ : ∃ R, Hid (k + skipB false ((bl s).drop k) = R) := ⟨_, show _ = _ from rfl⟩
  rw [HR.out]
  go_enter Tryz.func12, Tryz.ntmps12
  go_wp2_with fail
  go_loop [1] (fun i => ∃ j : Nat, j ≤ s.size ∧ i = .int .i64 j ∧ Hid (j + skipB false ((bl s).drop j) = R)) (fun i => s.size - (intOf i).toNat)
  case atStart => exact ⟨k, hk, rfl, HR.out⟩
  case round =>
    clear HR
    obtain ⟨j, hj, rfl, HJ⟩ := hrel
    by_cases hlt : j < s.size
    · have dlt : decide ((j : Int) < (s.size : Int)) = true := decide_eq_true (by omega)
      have lt : (j : Int) < (s.size : Int) := by omega
      have hd := bl_drop s hlt
      have HE := HJ.out
      rw [hd] at HE
      cases hb : isBl s[j] with
      | true =>
        have HJ2 : Hid (j + 1 + skipB false ((bl s).drop (j + 1)) = R) := by
          show _ = _
          rw [← HE, skipB, if_pos hb]; omega
        have hb' := (isBl_iff _).1 hb
        clear HE hb hd HJ
        generalize hn : s[j].toNat = n at hb'
        rcases hb' with h | h | h | h
        all_goals (
          rw [h] at hn
          go_wp2_with fail
          go_round
          case rel => exact ⟨j + 1, by omega, by go_num, HJ2⟩
          case measure => simp [intOf] <;> omega)
      | false =>
        have hb' : ¬ s[j].toNat = 9 ∧ ¬ s[j].toNat = 10 ∧ ¬ s[j].toNat = 13 ∧ ¬ s[j].toNat = 32 := by
          refine ⟨?_, ?_, ?_, ?_⟩ <;> (intro h; rw [(isBl_iff _).2 (by omega)] at hb; cases hb)
        have f9 : ((s[j].toNat : Int) == 9) = false := neI _ 9 hb'.1
        have f10 : ((s[j].toNat : Int) == 10) = false := neI _ 10 hb'.2.1
        have f13 : ((s[j].toNat : Int) == 13) = false := neI _ 13 hb'.2.2.1
        have f32 : ((s[j].toNat : Int) == 32) = false := neI _ 32 hb'.2.2.2
        have h10 := hb'.2.1
        rw [skipB, if_neg (by rw [hb]; decide)] at HE
        clear hb' hb
        by_cases h45 : s[j].toNat = 45
        · have f45 : ((s[j].toNat : Int) == 45) = true := eqI _ 45 h45
          by_cases hj1 : j + 1 < s.size
          · have dj1 : decide ((j : Int) + 1 < (s.size : Int)) = true := decide_eq_true (by omega)
            have lj1 : (j : Int) + 1 < (s.size : Int) := by omega
            have hd1 := bl_drop s hj1
            have ej1 : ((j : Int) + 1).toNat = j + 1 := by omega
            by_cases h46 : s[j + 1].toNat = 45
            · have g45 : ((s[j + 1].toNat : Int) == 45) = true := eqI _ 45 h46
              have HJ2 : Hid (j + skipB true ((bl s).drop j) = R) := by
                show _ = _
                rw [← HE, if_pos ⟨h45, by rw [hd1]; simp [h46]⟩, hd, skipB, if_neg h10]
              clear HE hd hd1 HJ
              go_wp2_with fail
              go_loop [1] (fun i => ∃ m : Nat, j ≤ m ∧ m ≤ s.size ∧ i = .int .i64 m ∧ Hid (m + skipB true ((bl s).drop m) = R)) (fun i => s.size - (intOf i).toNat)
              case atStart => exact ⟨j, Nat.le_refl _, by omega, rfl, HJ2.out⟩
              case round =>
                clear HJ2
                obtain ⟨m, hm1, hm2, rfl, HM⟩ := hrel
                by_cases hml : m < s.size
                · have dm : decide ((m : Int) < (s.size : Int)) = true := decide_eq_true (by omega)
                  have lm : (m : Int) < (s.size : Int) := by omega
                  have hdm := bl_drop s hml
                  have HE := HM.out
                  rw [hdm] at HE
                  by_cases hm10 : s[m].toNat = 10
                  · have k10 : ((s[m].toNat : Int) == 10) = true := eqI _ 10 hm10
                    have hmj : j < m := by
                      rcases Nat.lt_or_ge j m with h | h
                      · exact h
                      · exfalso; apply h10; rw [← hm10]; congr 2; omega
                    have HJ3 : Hid (m + skipB false ((bl s).drop m) = R) := by
                      show _ = _
                      have e1 : skipB true (s[m] :: (bl s).drop (m + 1)) = 1 + skipB false ((bl s).drop (m + 1)) := by rw [skipB, if_pos hm10]
                      have e2 : skipB false (s[m] :: (bl s).drop (m + 1)) = 1 + skipB false ((bl s).drop (m + 1)) := by rw [skipB, if_pos ((isBl_iff _).2 (by omega))]
                      rw [← HE, hdm, e1, e2]
                    clear HE HM hdm
                    go_wp2_with fail
                    exact ⟨⟨m, by omega, rfl, HJ3⟩, by simp [intOf]; omega⟩
                  · have k10 : ((s[m].toNat : Int) == 10) = false := neI _ 10 hm10
                    have HM2 : Hid (m + 1 + skipB true ((bl s).drop (m + 1)) = R) := by
                      show _ = _
                      rw [← HE, skipB, if_neg hm10]; omega
                    clear HE HM hdm
                    go_wp2_with fail
                    exact ⟨⟨m + 1, by omega, by omega, by go_num, HM2⟩, by simp [intOf]; omega⟩
                · have dm : decide ((m : Int) < (s.size : Int)) = false := decide_eq_false (by omega)
                  have HJ3 : Hid (m + skipB false ((bl s).drop m) = R) := by
                    show _ = _
                    have := HM.out
                    rw [List.drop_eq_nil_of_le (by rw [bl_len]; omega), skipB] at this ⊢
                    exact this
                  clear HM
                  go_wp2_with fail
                  exact ⟨⟨m, by omega, rfl, HJ3⟩, by simp [intOf]; omega⟩
            · have g45 : ((s[j + 1].toNat : Int) == 45) = false := neI _ 45 h46
              rw [if_neg (fun h => h46 (by have := h.2; rw [hd1] at this; simpa using this))] at HE
              have hR : R = j := by omega
              clear HE hd hd1 HJ
              have HRj : Hid (R = j) := hR
              clear hR
              go_wp2_with fail
              exact bodyPost_ret (v := .int .i64 (j : Int)) (by simp [results, Tryz.results12, go_sem]) rfl ⟨by rw [HRj.out], rfl⟩
          · have dj1 : decide ((j : Int) + 1 < (s.size : Int)) = false := decide_eq_false (by omega)
            have hd1 : (bl s).drop (j + 1) = [] := List.drop_eq_nil_of_le (by rw [bl_len]; omega)
            rw [if_neg (fun h => by have := h.2; rw [hd1] at this; simp at this)] at HE
            have hR : R = j := by omega
            clear HE hd hd1 HJ
            go_wp2_with fail
            go_ret
            exact ⟨rfl, rfl⟩
        · have f45 : ((s[j].toNat : Int) == 45) = false := neI _ 45 h45
          rw [if_neg (fun h => h45 h.1)] at HE
          have hR : R = j := by omega
          clear HE hd HJ
          go_wp2_with fail
          go_ret
          exact ⟨rfl, rfl⟩
    · have dlt : decide ((j : Int) < (s.size : Int)) = false := decide_eq_false (by omega)
      have hR : R = j := by
        have := HJ.out
        rw [List.drop_eq_nil_of_le (by rw [bl_len]; omega), skipB] at this
        omega
      clear HJ
      go_wp2_with fail
      go_ret
      exact ⟨rfl, rfl⟩
end Go.Proofs.YtidokamfppdnaaaGreatDoor
