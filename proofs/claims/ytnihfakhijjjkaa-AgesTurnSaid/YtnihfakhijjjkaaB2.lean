/- AgesTurn, AgesPath. -/
import Derived.Test.YtnihfakhijjjkaaB1
namespace Go.Proofs.Ytnihfakhijjjkaa
open Go.RowKit
set_option linter.unusedSimpArgs false
set_option linter.unusedVariables false

set_option maxRecDepth 20000 in
set_option maxHeartbeats 1600000 in
theorem AgesTurn_any (a o : Int) (w : World) : Calls Try.prog 3 #[.int .i64 a, .int .i64 o] w fun e w' => e = .returned (.bool true) ∧ Kept No w w' := by
  have HA : Hid (Calls Try.prog 15 #[] w fun e w' => e = .returned (.bool true) ∧ Kept No w w') := alive_any w
  obtain ⟨n, hn⟩ : ∃ n, nxt a = n := ⟨_, rfl⟩
  obtain ⟨od, hod⟩ : ∃ od, oldB a = od := ⟨_, rfl⟩
  obtain ⟨bk, hbk⟩ : ∃ bk, bck a = bk := ⟨_, rfl⟩
  obtain ⟨fw, hfw⟩ : ∃ fw, fwd o a = fw := ⟨_, rfl⟩
  have H7 : Hid (Calls Try.prog 7 #[.int .i64 a] w fun e w' => e = .returned (.int .i64 n) ∧ w = w') := by rw [← hn]; exact Next_any a w
  have H8 : Hid (Calls Try.prog 8 #[.int .i64 a] w fun e w' => e = .returned (.int .i64 n) ∧ w = w') := by rw [← hn]; exact RNext_any a w
  have H9 : Hid (Calls Try.prog 9 #[.int .i64 a] w fun e w' => e = .returned (.bool od) ∧ w = w') := by rw [← hod]; exact Old_any a w
  have H10 : Hid (Calls Try.prog 10 #[.int .i64 a] w fun e w' => e = .returned (.bool od) ∧ w = w') := by rw [← hod]; exact ROld_any a w
  have H11 : Hid (Calls Try.prog 11 #[.int .i64 a] w fun e w' => e = .returned (.int .i64 bk) ∧ w = w') := by rw [← hbk]; exact Back_any a w
  have H12 : Hid (Calls Try.prog 12 #[.int .i64 a] w fun e w' => e = .returned (.int .i64 bk) ∧ w = w') := by rw [← hbk]; exact RBack_any a w
  have H13 : Hid (Calls Try.prog 13 #[.int .i64 o, .int .i64 a] w fun e w' => e = .returned (.int .i64 fw) ∧ w = w') := by rw [← hfw]; exact Forward_any o a w
  have H14 : Hid (Calls Try.prog 14 #[.int .i64 o, .int .i64 a] w fun e w' => e = .returned (.int .i64 fw) ∧ w = w') := by rw [← hfw]; exact RForward_any o a w
  clear hn hod hbk hfw
  go_enter Try.func3, Try.ntmps3
  go_wp2_with (first | (go_at_call 7; refine Calls.mono H7.out ?_; rintro e w' ⟨rfl, rfl⟩) | (go_at_call 8; refine Calls.mono H8.out ?_; rintro e w' ⟨rfl, rfl⟩) | (go_at_call 9; refine Calls.mono H9.out ?_; rintro e w' ⟨rfl, rfl⟩) | (go_at_call 10; refine Calls.mono H10.out ?_; rintro e w' ⟨rfl, rfl⟩) | (go_at_call 11; refine Calls.mono H11.out ?_; rintro e w' ⟨rfl, rfl⟩) | (go_at_call 12; refine Calls.mono H12.out ?_; rintro e w' ⟨rfl, rfl⟩) | (go_at_call 13; refine Calls.mono H13.out ?_; rintro e w' ⟨rfl, rfl⟩) | (go_at_call 14; refine Calls.mono H14.out ?_; rintro e w' ⟨rfl, rfl⟩))
  go_at_call 15
  refine Calls.mono HA.out ?_
  rintro e w2 ⟨rfl, hk2⟩
  have HK2 : Hid (Kept No w w2) := hk2
  clear hk2
  go_wp2
  go_ret
  exact ⟨rfl, HK2.out⟩

theorem age_in {a : Int} (h : 0 ≤ a ∧ a ≤ 6) : a = 0 ∨ a = 1 ∨ a = 2 ∨ a = 3 ∨ a = 4 ∨ a = 5 ∨ a = 6 := by omega

set_option maxRecDepth 20000 in
set_option maxHeartbeats 1600000 in
theorem AgesPath_any (a : Int) (w : World) : Calls Try.prog 4 #[.int .i64 a] w fun e w' => e = .returned (.bool true) ∧ Kept No w w' := by
  have HA : Hid (Calls Try.prog 15 #[] w fun e w' => e = .returned (.bool true) ∧ Kept No w w') := alive_any w
  have H7 : Hid (∀ x, Calls Try.prog 7 #[.int .i64 x] w fun e w' => e = .returned (.int .i64 (nxt x)) ∧ w = w') := fun x => Next_any x w
  have H9 : Hid (∀ x, Calls Try.prog 9 #[.int .i64 x] w fun e w' => e = .returned (.bool (oldB x)) ∧ w = w') := fun x => Old_any x w
  have H11 : Hid (∀ x, Calls Try.prog 11 #[.int .i64 x] w fun e w' => e = .returned (.int .i64 (bck x)) ∧ w = w') := fun x => Back_any x w
  by_cases hin : 0 ≤ a ∧ a ≤ 6
  · have e0 : nxt 0 = 1 := rfl
    have e1 : nxt 1 = 3 := rfl
    have e2 : nxt 2 = 3 := rfl
    have e3 : nxt 3 = 4 := rfl
    have e4 : nxt 4 = 4 := rfl
    have e5 : nxt 5 = 6 := rfl
    have e6 : nxt 6 = 4 := rfl
    have o0 : oldB 0 = false := rfl
    have o1 : oldB 1 = false := rfl
    have o2 : oldB 2 = true := rfl
    have o3 : oldB 3 = true := rfl
    have o4 : oldB 4 = true := rfl
    have o5 : oldB 5 = true := rfl
    have o6 : oldB 6 = true := rfl
    have b0 : bck 0 = 0 := rfl
    have b1 : bck 1 = 1 := rfl
    have b2 : bck 2 = 5 := rfl
    have b3 : bck 3 = 5 := rfl
    have b4 : bck 4 = 5 := rfl
    have b5 : bck 5 = 5 := rfl
    have b6 : bck 6 = 5 := rfl
    rcases age_in hin with rfl | rfl | rfl | rfl | rfl | rfl | rfl
    all_goals
      clear hin
      go_enter Try.func4, Try.ntmps4
      go_wp2_with (first | (go_at_call 7; refine Calls.mono (H7.out _) ?_; rintro e w' ⟨rfl, rfl⟩) | (go_at_call 9; refine Calls.mono (H9.out _) ?_; rintro e w' ⟨rfl, rfl⟩) | (go_at_call 11; refine Calls.mono (H11.out _) ?_; rintro e w' ⟨rfl, rfl⟩))
      go_at_call 15
      refine Calls.mono HA.out ?_
      rintro e w2 ⟨rfl, hk2⟩
      have HK2 : Hid (Kept No w w2) := hk2
      clear hk2
      go_wp2
      go_ret
      exact ⟨rfl, HK2.out⟩
  · have h7 : nxt a = a := by unfold nxt; split <;> first | omega | (split <;> first | omega | (split <;> first | omega | (split <;> first | omega | (split <;> first | omega | (split <;> first | omega | rfl)))))
    have h9 : oldB a = false := by unfold oldB; simp; omega
    have H7' : Hid (Calls Try.prog 7 #[.int .i64 a] w fun e w' => e = .returned (.int .i64 a) ∧ w = w') := by
      have := H7.out a
      rw [h7] at this
      exact this
    have H9' : Hid (Calls Try.prog 9 #[.int .i64 a] w fun e w' => e = .returned (.bool false) ∧ w = w') := by
      have := H9.out a
      rw [h9] at this
      exact this
    clear h7 h9 H7 H9 H11
    by_cases h0 : a < 0
    · clear hin
      go_enter Try.func4, Try.ntmps4
      go_wp2_with (first | (go_at_call 7; refine Calls.mono H7'.out ?_; rintro e w' ⟨rfl, rfl⟩) | (go_at_call 9; refine Calls.mono H9'.out ?_; rintro e w' ⟨rfl, rfl⟩))
      go_at_call 15
      refine Calls.mono HA.out ?_
      rintro e w2 ⟨rfl, hk2⟩
      have HK2 : Hid (Kept No w w2) := hk2
      clear hk2
      go_wp2
      go_ret
      exact ⟨rfl, HK2.out⟩
    · have h6 : 6 < a := by omega
      clear hin
      go_enter Try.func4, Try.ntmps4
      go_wp2_with (first | (go_at_call 7; refine Calls.mono H7'.out ?_; rintro e w' ⟨rfl, rfl⟩) | (go_at_call 9; refine Calls.mono H9'.out ?_; rintro e w' ⟨rfl, rfl⟩))
      go_at_call 15
      refine Calls.mono HA.out ?_
      rintro e w2 ⟨rfl, hk2⟩
      have HK2 : Hid (Kept No w w2) := hk2
      clear hk2
      go_wp2
      go_ret
      exact ⟨rfl, HK2.out⟩
end Go.Proofs.Ytnihfakhijjjkaa
