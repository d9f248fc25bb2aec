/- Ages as numbers; the small functions, of the program and of the document. -/
import Derived.Test.YtnihfakhijjjkaaA0
namespace Go.Proofs.Ytnihfakhijjjkaa
open Go.RowKit
set_option linter.unusedSimpArgs false
set_option linter.unusedVariables false

def nxt (a : Int) : Int := if a = 0 then 1 else if a = 1 then 3 else if a = 2 then 3 else if a = 3 then 4 else if a = 6 then 4 else if a = 5 then 6 else a
def oldB (a : Int) : Bool := decide (2 ≤ a) && decide (a ≤ 6)
def yngB (a : Int) : Bool := decide (a = 0) || decide (a = 1)
def bck (a : Int) : Int := if oldB a = true then 5 else a
def fwd (o a : Int) : Int := if (oldB o && yngB a) = true then 2 else a

theorem cases7 (a : Int) : a = 0 ∨ a = 1 ∨ a = 2 ∨ a = 3 ∨ a = 4 ∨ a = 5 ∨ a = 6 ∨ (a ≠ 0 ∧ a ≠ 1 ∧ a ≠ 2 ∧ a ≠ 3 ∧ a ≠ 4 ∧ a ≠ 5 ∧ a ≠ 6) := by omega

theorem Next_any (a : Int) (w : World) : Calls Try.prog 7 #[.int .i64 a] w fun e w' => e = .returned (.int .i64 (nxt a)) ∧ w = w' := by
  obtain ⟨r, HR⟩ : ∃ r, Hid (nxt a = r) := ⟨_, rfl⟩
  rw [HR.out]
  rcases cases7 a with rfl | rfl | rfl | rfl | rfl | rfl | rfl | ⟨h0, h1, h2, h3, h4, h5, h6⟩
  all_goals
    go_enter Try.func7, Try.ntmps7
    go_wp2
    go_ret
    exact ⟨by rw [← HR.out]; first | rfl | simp [nxt, *], rfl⟩
theorem RNext_any (a : Int) (w : World) : Calls Try.prog 8 #[.int .i64 a] w fun e w' => e = .returned (.int .i64 (nxt a)) ∧ w = w' := by
  obtain ⟨r, HR⟩ : ∃ r, Hid (nxt a = r) := ⟨_, rfl⟩
  rw [HR.out]
  rcases cases7 a with rfl | rfl | rfl | rfl | rfl | rfl | rfl | ⟨h0, h1, h2, h3, h4, h5, h6⟩
  all_goals
    go_enter Try.func8, Try.ntmps8
    go_wp2
    go_ret
    exact ⟨by rw [← HR.out]; first | rfl | simp [nxt, *], rfl⟩
theorem Old_any (t : Int) (w : World) : Calls Try.prog 9 #[.int .i64 t] w fun e w' => e = .returned (.bool (oldB t)) ∧ w = w' := by
  unfold oldB
  go_enter Try.func9, Try.ntmps9
  by_cases h1 : (2 : Int) ≤ t <;> by_cases h2 : t ≤ 6 <;> simp only [h1, h2, decide_true, decide_false, Bool.and_true, Bool.and_false, Bool.true_and, Bool.false_and] <;> (go_wp2; go_ret; exact ⟨rfl, rfl⟩)
theorem ROld_any (t : Int) (w : World) : Calls Try.prog 10 #[.int .i64 t] w fun e w' => e = .returned (.bool (oldB t)) ∧ w = w' := by
  unfold oldB
  go_enter Try.func10, Try.ntmps10
  by_cases h1 : (2 : Int) ≤ t <;> by_cases h2 : t ≤ 6 <;> simp only [h1, h2, decide_true, decide_false, Bool.and_true, Bool.and_false, Bool.true_and, Bool.false_and] <;> (go_wp2; go_ret; exact ⟨rfl, rfl⟩)
theorem young_any (t : Int) (w : World) : Calls Try.prog 18 #[.int .i64 t] w fun e w' => e = .returned (.bool (yngB t)) ∧ w = w' := by
  obtain ⟨r, HR⟩ : ∃ r, Hid (yngB t = r) := ⟨_, rfl⟩
  rw [HR.out]
  rcases cases7 t with rfl | rfl | rfl | rfl | rfl | rfl | rfl | ⟨h0, h1, h2, h3, h4, h5, h6⟩
  all_goals
    go_enter Try.func18, Try.ntmps18
    go_wp2
    go_ret
    exact ⟨by rw [← HR.out]; first | rfl | simp [yngB, *], rfl⟩
theorem RYoung_any (t : Int) (w : World) : Calls Try.prog 19 #[.int .i64 t] w fun e w' => e = .returned (.bool (yngB t)) ∧ w = w' := by
  obtain ⟨r, HR⟩ : ∃ r, Hid (yngB t = r) := ⟨_, rfl⟩
  rw [HR.out]
  rcases cases7 t with rfl | rfl | rfl | rfl | rfl | rfl | rfl | ⟨h0, h1, h2, h3, h4, h5, h6⟩
  all_goals
    go_enter Try.func19, Try.ntmps19
    go_wp2
    go_ret
    exact ⟨by rw [← HR.out]; first | rfl | simp [yngB, *], rfl⟩
theorem Back_any (a : Int) (w : World) : Calls Try.prog 11 #[.int .i64 a] w fun e w' => e = .returned (.int .i64 (bck a)) ∧ w = w' := by
  unfold bck
  obtain ⟨b, hb⟩ : ∃ b, oldB a = b := ⟨_, rfl⟩
  have HO : Hid (∀ W, Calls Try.prog 9 #[.int .i64 a] W fun e w' => e = .returned (.bool b) ∧ W = w') := fun W => by rw [← hb]; exact Old_any a W
  rw [hb]
  clear hb
  cases b
  all_goals
    go_enter Try.func11, Try.ntmps11
    go_wp2_with (go_at_call 9; refine (HO.out _).mono ?_; rintro e w' ⟨rfl, rfl⟩)
    go_ret
    exact ⟨by simp, rfl⟩
theorem RBack_any (a : Int) (w : World) : Calls Try.prog 12 #[.int .i64 a] w fun e w' => e = .returned (.int .i64 (bck a)) ∧ w = w' := by
  unfold bck
  obtain ⟨b, hb⟩ : ∃ b, oldB a = b := ⟨_, rfl⟩
  have HO : Hid (∀ W, Calls Try.prog 10 #[.int .i64 a] W fun e w' => e = .returned (.bool b) ∧ W = w') := fun W => by rw [← hb]; exact ROld_any a W
  rw [hb]
  clear hb
  cases b
  all_goals
    go_enter Try.func12, Try.ntmps12
    go_wp2_with (go_at_call 10; refine (HO.out _).mono ?_; rintro e w' ⟨rfl, rfl⟩)
    go_ret
    exact ⟨by simp, rfl⟩
theorem Forward_any (o a : Int) (w : World) : Calls Try.prog 13 #[.int .i64 o, .int .i64 a] w fun e w' => e = .returned (.int .i64 (fwd o a)) ∧ w = w' := by
  unfold fwd
  obtain ⟨b, hb⟩ : ∃ b, oldB o = b := ⟨_, rfl⟩
  obtain ⟨c, hc⟩ : ∃ c, yngB a = c := ⟨_, rfl⟩
  have HO : Hid (∀ W, Calls Try.prog 9 #[.int .i64 o] W fun e w' => e = .returned (.bool b) ∧ W = w') := fun W => by rw [← hb]; exact Old_any o W
  have HY : Hid (∀ W, Calls Try.prog 18 #[.int .i64 a] W fun e w' => e = .returned (.bool c) ∧ W = w') := fun W => by rw [← hc]; exact young_any a W
  rw [hb, hc]
  clear hb hc
  cases b <;> cases c
  all_goals
    go_enter Try.func13, Try.ntmps13
    go_wp2_with (first | (go_at_call 9; refine (HO.out _).mono ?_; rintro e w' ⟨rfl, rfl⟩) | (go_at_call 18; refine (HY.out _).mono ?_; rintro e w' ⟨rfl, rfl⟩))
    go_ret
    exact ⟨by simp, rfl⟩
theorem RForward_any (o a : Int) (w : World) : Calls Try.prog 14 #[.int .i64 o, .int .i64 a] w fun e w' => e = .returned (.int .i64 (fwd o a)) ∧ w = w' := by
  unfold fwd
  obtain ⟨b, hb⟩ : ∃ b, oldB o = b := ⟨_, rfl⟩
  obtain ⟨c, hc⟩ : ∃ c, yngB a = c := ⟨_, rfl⟩
  have HO : Hid (∀ W, Calls Try.prog 10 #[.int .i64 o] W fun e w' => e = .returned (.bool b) ∧ W = w') := fun W => by rw [← hb]; exact ROld_any o W
  have HY : Hid (∀ W, Calls Try.prog 19 #[.int .i64 a] W fun e w' => e = .returned (.bool c) ∧ W = w') := fun W => by rw [← hc]; exact RYoung_any a W
  rw [hb, hc]
  clear hb hc
  cases b <;> cases c
  all_goals
    go_enter Try.func14, Try.ntmps14
    go_wp2_with (first | (go_at_call 10; refine (HO.out _).mono ?_; rintro e w' ⟨rfl, rfl⟩) | (go_at_call 19; refine (HY.out _).mono ?_; rintro e w' ⟨rfl, rfl⟩))
    go_ret
    exact ⟨by simp, rfl⟩

/-- May one of this age not lead to one of that? -/
def tooY (o a : Int) : Bool := if o = 4 then yngB a else if o = 3 then decide (a = 0) else if o = 6 then decide (a = 0) else false
theorem tooYoung_any (o a : Int) (w : World) : Calls Try.prog 33 #[.int .i64 o, .int .i64 a] w fun e w' => e = .returned (.bool (tooY o a)) ∧ w = w' := by
  unfold tooY
  obtain ⟨c, hc⟩ : ∃ c, yngB a = c := ⟨_, rfl⟩
  have HY : Hid (∀ W, Calls Try.prog 18 #[.int .i64 a] W fun e w' => e = .returned (.bool c) ∧ W = w') := fun W => by rw [← hc]; exact young_any a W
  rw [hc]
  clear hc
  by_cases h4 : o = 4
  · rw [if_pos h4]
    go_enter Try.func33, Try.ntmps33
    go_wp2_with (go_at_call 18; refine (HY.out _).mono ?_; rintro e w' ⟨rfl, rfl⟩)
    go_ret
    exact ⟨rfl, rfl⟩
  · rw [if_neg h4]
    by_cases h3 : o = 3
    · rw [if_pos h3]
      go_enter Try.func33, Try.ntmps33
      go_wp2
      go_ret
      exact ⟨rfl, rfl⟩
    · rw [if_neg h3]
      by_cases h6 : o = 6
      · rw [if_pos h6]
        go_enter Try.func33, Try.ntmps33
        go_wp2
        go_ret
        exact ⟨rfl, rfl⟩
      · rw [if_neg h6]
        go_enter Try.func33, Try.ntmps33
        go_wp2
        go_ret
        exact ⟨rfl, rfl⟩
/-- Is a type an object's? -/
def oT (t : Int) : Bool := decide (4 ≤ t) && decide (t ≤ 9)
theorem objectType_any (t : Int) (w : World) : Calls Try.prog 22 #[.int .i64 t] w fun e w' => e = .returned (.bool (oT t)) ∧ w = w' := by
  unfold oT
  go_enter Try.func22, Try.ntmps22
  by_cases h1 : (4 : Int) ≤ t <;> by_cases h2 : t ≤ 9 <;> simp only [h1, h2, decide_true, decide_false, Bool.and_true, Bool.and_false, Bool.true_and, Bool.false_and] <;> (go_wp2; go_ret; exact ⟨rfl, rfl⟩)
theorem nameOf_any (t n : Int) (w : World) : Calls Try.prog 23 #[.int .i64 t, .int .i64 n] w fun e w' => e = .returned (.agg #[.int .i64 t, .int .i64 n]) ∧ Kept No w w' := by
  have HK : Hid (∀ o, Kept No w (w.alloc o)) := fun o => (Kept.refl _ _).alloc _
  go_enter Try.func23, Try.ntmps23
  go_wp2
  refine bodyPost_ret (v := .agg #[.int .i64 t, .int .i64 n]) (by simp [results, Try.results23, go_sem]) rfl ⟨rfl, ?_⟩
  first | exact HK.out _ | (repeat refine Kept.set ?_ _ _ _ (.inr (Nat.le_refl _)); exact HK.out _)
end Go.Proofs.Ytnihfakhijjjkaa
