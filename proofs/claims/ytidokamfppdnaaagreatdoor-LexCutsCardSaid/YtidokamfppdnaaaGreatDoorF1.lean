/- What a token hangs on: its own bytes, and what follows. -/
import Derived.Test.YtidokamfppdnaaaGreatDoorD4
import Derived.Test.YtidokamfppdnaaaGreatDoorQ1
namespace Go.Proofs.YtidokamfppdnaaaGreatDoor
open Go.RowKit
set_option linter.unusedSimpArgs false
set_option linter.unusedVariables false

theorem nameL_take : ∀ (l : List UInt8) (m : Nat), nameL l ≤ m → nameL (l.take m) = nameL l
  | [], m, _ => by simp
  | c :: r, 0, h => by
    unfold nameL at h ⊢
    split at h
    · omega
    · rename_i hc; simp [nameL, hc]
  | c :: r, m + 1, h => by
    rw [List.take_succ_cons]
    unfold nameL at h ⊢
    split at h
    · rename_i hc
      rw [if_pos hc, if_pos hc, nameL_take r m (by omega)]
    · rename_i hc
      rw [if_neg hc, if_neg hc]
theorem numL_take : ∀ (l : List UInt8) (m : Nat), numL l ≤ m → numL (l.take m) = numL l
  | [], m, _ => by simp
  | [c], 0, h => by simp [numL] at h ⊢; simp [h]
  | [c], m + 1, _ => by simp
  | c :: d :: r, 0, h => by
    simp only [List.take_zero]
    rw [show numL [] = 0 from rfl]; omega
  | c :: d :: r, 1, h => by
    have h2 := numL_take (d :: r) 0
    rw [List.take_succ_cons, List.take_zero]
    by_cases hc : isNm c = true
    · have e : numL (c :: d :: r) = 1 + numL (d :: r) := by rw [numL, if_pos hc]
      rw [e] at h ⊢
      have := h2 (by omega)
      rw [List.take_zero, show numL [] = 0 from rfl] at this
      rw [← this]; simp [numL, hc]
    · by_cases hd : c.toNat = 46 ∧ isDg d = true
      · have e : numL (c :: d :: r) = 2 + numL r := by rw [numL, if_neg hc, if_pos hd]
        omega
      · have e : numL (c :: d :: r) = 0 := by rw [numL, if_neg hc, if_neg hd]
        rw [e]; simp [numL, hc]
  | c :: d :: r, m + 2, h => by
    have h2 := numL_take (d :: r) (m + 1)
    have h3 := numL_take r m
    rw [List.take_succ_cons, List.take_succ_cons]
    rw [List.take_succ_cons] at h2
    unfold numL at h ⊢
    split at h
    · rename_i hc
      rw [if_pos hc, if_pos hc, h2 (by omega)]
    · rename_i hc
      rw [if_neg hc, if_neg hc]
      split at h
      · rename_i hd
        rw [if_pos hd, if_pos hd, h3 (by omega)]
      · rename_i hd
        rw [if_neg hd, if_neg hd]
theorem qL_take : ∀ (l : List UInt8) (m n : Nat), qL l = some n → n < m → qL (l.take m) = some n
  | [], m, n, h, _ => by cases h
  | c :: r, 0, n, _, h => by omega
  | c :: r, m + 1, n, h, hn => by
    rw [List.take_succ_cons]
    unfold qL at h ⊢
    split at h
    · rename_i hc; rw [if_pos hc]; exact h
    · rename_i hc
      rw [if_neg hc]
      obtain ⟨k, hk, rfl⟩ := Option.map_eq_some_iff.1 h
      rw [qL_take r m k hk (by omega)]; rfl
theorem hp_take {l g : List UInt8} {m : Nat} (h : Lib.hasPrefix (l.take m) g = true) : Lib.hasPrefix l g = true := by
  rw [← Lib.hasPrefix_of_take] at h ⊢
  simp only [Bool.and_eq_true, decide_eq_true_eq, beq_iff_eq, List.length_take, List.take_take] at h ⊢
  refine ⟨by omega, ?_⟩
  have := h.2
  rw [Nat.min_eq_left (by omega)] at this
  exact this
theorem hp_take' {l g : List UInt8} {m : Nat} (h : Lib.hasPrefix l g = true) (hm : g.length ≤ m) : Lib.hasPrefix (l.take m) g = true := by
  rw [← Lib.hasPrefix_of_take] at h ⊢
  simp only [Bool.and_eq_true, decide_eq_true_eq, beq_iff_eq, List.length_take, List.take_take] at h ⊢
  refine ⟨by omega, ?_⟩
  rw [Nat.min_eq_left (by omega)]
  exact h.2
theorem sgF_take (l : List UInt8) (m : Nat) (g : List UInt8) : ∀ G, sgF l G = some g → g.length ≤ m → sgF (l.take m) G = some g
  | [], h, _ => by cases h
  | x :: G, h, hm => by
    unfold sgF at h ⊢
    rw [List.find?_cons] at h ⊢
    cases hx : Lib.hasPrefix l x with
    | true =>
      rw [hx] at h
      obtain rfl : x = g := Option.some.inj h
      rw [hp_take' hx hm]
    | false =>
      rw [hx] at h
      cases hy : Lib.hasPrefix (l.take m) x with
      | true => rw [hp_take hy] at hx; cases hx
      | false => exact sgF_take l m g G h hm
theorem skipB_take : ∀ (b : Bool) (l : List UInt8) (m : Nat), skipB b l ≤ m → skipB b (l.take m) = skipB b l
  | b, [], m, _ => by simp
  | b, c :: r, 0, h => by
    have : skipB b (c :: r) = 0 := by omega
    rw [this]; simp [skipB]
  | true, c :: r, m + 1, h => by
    have h1 := skipB_take false r m
    have h2 := skipB_take true r m
    rw [List.take_succ_cons]
    unfold skipB at h ⊢
    split at h
    · rename_i hc; rw [if_pos hc, if_pos hc, h1 (by omega)]
    · rename_i hc; rw [if_neg hc, if_neg hc, h2 (by omega)]
  | false, c :: r, m + 1, h => by
    have h1 := skipB_take false r m
    have h2 := skipB_take true r m
    rw [List.take_succ_cons]
    unfold skipB at h ⊢
    split at h
    · rename_i hc; rw [if_pos hc, if_pos hc, h1 (by omega)]
    · rename_i hc
      rw [if_neg hc, if_neg hc]
      split at h
      · rename_i hd
        have hr : ((r.take m).head?.map UInt8.toNat) = some 45 := by
          cases r with
          | nil => simp at hd
          | cons d r' =>
            have hd2 : d.toNat = 45 := by simpa using hd.2
            have : 1 ≤ skipB true (d :: r') := by unfold skipB; split <;> omega
            cases m with
            | zero => omega
            | succ m => simp [hd2]
        rw [if_pos ⟨hd.1, hr⟩, if_pos hd, h2 (by omega)]
      · rename_i hd
        rw [if_neg hd, if_neg]
        rintro ⟨a, b⟩
        refine hd ⟨a, ?_⟩
        cases r with
        | nil => simp at b
        | cons d r' =>
          cases m with
          | zero => simp at b
          | succ m => simpa using b
theorem skipB_twice : ∀ (b : Bool) (l : List UInt8), skipB false (l.drop (skipB b l)) = 0
  | b, [] => by simp [skipB]
  | true, c :: r => by
    have h1 := skipB_twice false r
    have h2 := skipB_twice true r
    by_cases hc : c.toNat = 10
    · rw [show skipB true (c :: r) = 1 + skipB false r by rw [skipB, if_pos hc], Nat.add_comm, List.drop_succ_cons]; exact h1
    · rw [show skipB true (c :: r) = 1 + skipB true r by rw [skipB, if_neg hc], Nat.add_comm, List.drop_succ_cons]; exact h2
  | false, c :: r => by
    have h1 := skipB_twice false r
    have h2 := skipB_twice true r
    by_cases hc : isBl c = true
    · rw [show skipB false (c :: r) = 1 + skipB false r by rw [skipB, if_pos hc], Nat.add_comm, List.drop_succ_cons]; exact h1
    · by_cases hd : c.toNat = 45 ∧ r.head?.map UInt8.toNat = some 45
      · rw [show skipB false (c :: r) = 1 + skipB true r by rw [skipB, if_neg hc, if_pos hd], Nat.add_comm, List.drop_succ_cons]; exact h2
      · have e : skipB false (c :: r) = 0 := by rw [skipB, if_neg hc, if_neg hd]
        rw [e, List.drop_zero, e]
end Go.Proofs.YtidokamfppdnaaaGreatDoor
