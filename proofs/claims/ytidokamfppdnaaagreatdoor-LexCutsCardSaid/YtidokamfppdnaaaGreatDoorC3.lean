/- Where a number ends. -/
import Derived.Test.YtidokamfppdnaaaGreatDoorC2
namespace Go.Proofs.YtidokamfppdnaaaGreatDoor
open Go.RowKit
set_option linter.unusedSimpArgs false
set_option linter.unusedVariables false

set_option maxRecDepth 20000 in
set_option maxHeartbeats 1000000 in
theorem numberEnd_any (s : ByteArray) (k : Nat) (hk : k ≤ s.size) (hs : s.size ≤ 100000) (w : World) :
    Calls Tryz.prog 33 #[.string s, .int .i64 (k : Int)] w fun e w' => e = .returned (.int .i64 ((k + numL ((bl s).drop k) : Nat) : Int)) ∧ w = w' := by
  obtain ⟨R, HR⟩ : ∃ R, Hid (k + numL ((bl s).drop k) = R) := ⟨_, show _ = _ from rfl⟩
  rw [HR.out]
  go_enter Tryz.func33, Tryz.ntmps33
  go_wp2_with fail
  go_step3
  go_wp2_with fail
  go_step3
  go_wp2_with fail
  go_loop [5] (fun i => ∃ j : Nat, j ≤ s.size ∧ i = .int .i64 j ∧ Hid (j + numL ((bl s).drop j) = R)) (fun i => s.size - (intOf i).toNat)
  case atStart => exact ⟨k, hk, rfl, HR.out⟩
  case round =>
    clear HR
    obtain ⟨j, hj, rfl, HJ⟩ := hrel
    by_cases hlt : j < s.size
    · have hd := bl_drop s hlt
      have HN : Hid (∀ w, Calls Tryz.prog 30 #[.int .u8 (s[j].toNat : Int)] w fun e w' => e = .returned (.bool (isNm s[j])) ∧ w = w') := fun w => isInName_any _ w
      have HE := HJ.out
      rw [hd] at HE
      cases hb : isNm s[j] with
      | true =>
        have HJ2 : Hid (j + 1 + numL ((bl s).drop (j + 1)) = R) := by
          show _ = _
          rw [← HE]
          cases hr : (bl s).drop (j + 1) with
          | nil => simp [numL, hb]
          | cons d r => rw [numL, if_pos hb]; omega
        rw [hb] at HN
        clear HE hb hd HJ
        go_wp2_with (go_at_call 30; refine Calls.mono (HN.out _) ?_; rintro e w' ⟨rfl, rfl⟩)
        go_round
        case rel => exact ⟨j + 1, by omega, by go_num, HJ2⟩
        case measure => simp [intOf] <;> omega
      | false =>
        rw [hb] at HN
        by_cases h46 : s[j].toNat = 46
        · have b46 : ((s[j].toNat : Int) == 46) = true := by rw [beq_iff_eq]; omega
          have H46 : Hid (s[j].toNat = 46) := h46
          clear h46
          by_cases hl2 : j + 1 < s.size
          · have l2 : (j : Int) + 1 < (s.size : Int) := by omega
            have dl2 : decide ((j : Int) + 1 < (s.size : Int)) = true := decide_eq_true l2
            have hd2 := bl_drop s hl2
            have HD : Hid (∀ w, Calls Tryz.prog 32 #[.int .u8 (s[j + 1].toNat : Int)] w fun e w' => e = .returned (.bool (isDg s[j + 1])) ∧ w = w') := fun w => isDigit_any _ w
            rw [hd2] at HE
            cases hdg : isDg s[j + 1] with
            | true =>
              have HJ2 : Hid (j + 2 + numL ((bl s).drop (j + 2)) = R) := by
                show _ = _
                rw [← HE, numL, if_neg (by rw [hb]; decide), if_pos ⟨H46.out, hdg⟩]; show _ = j + (2 + numL ((bl s).drop (j + 2))); omega
              rw [hdg] at HD
              clear HE hb hd HJ hdg hd2
              go_wp2_with (first | (go_at_call 30; refine Calls.mono (HN.out _) ?_; rintro e w' ⟨rfl, rfl⟩) | (go_at_call 32; refine Calls.mono (HD.out _) ?_; rintro e w' ⟨rfl, rfl⟩))
              go_round
              case rel => exact ⟨j + 2, by omega, by go_num, HJ2⟩
              case measure => simp [intOf] <;> omega
            | false =>
              have HR2 : Hid (R = j) := by
                show _ = _
                rw [← HE, numL, if_neg (by rw [hb]; decide), if_neg (fun h => by rw [hdg] at h; exact absurd h.2 (by decide))]; rfl
              rw [hdg] at HD
              clear HE hb hd HJ hdg hd2
              go_wp2_with (first | (go_at_call 30; refine Calls.mono (HN.out _) ?_; rintro e w' ⟨rfl, rfl⟩) | (go_at_call 32; refine Calls.mono (HD.out _) ?_; rintro e w' ⟨rfl, rfl⟩))
              try unfold Exit.noGoto
              go_ret
              exact ⟨by rw [HR2.out]; rfl, rfl⟩
          · have l2 : ¬ (j : Int) + 1 < (s.size : Int) := by omega
            have dl2 : decide ((j : Int) + 1 < (s.size : Int)) = false := decide_eq_false l2
            have HR2 : Hid (R = j) := by
              show _ = _
              rw [← HE, List.drop_eq_nil_of_le (by rw [bl_len]; omega), numL, if_neg (by rw [hb]; decide)]; rfl
            clear HE hb hd HJ
            go_wp2_with (go_at_call 30; refine Calls.mono (HN.out _) ?_; rintro e w' ⟨rfl, rfl⟩)
            try unfold Exit.noGoto
            go_ret
            exact ⟨by rw [HR2.out]; rfl, rfl⟩
        · have b46 : ((s[j].toNat : Int) == 46) = false := by rw [beq_eq_false_iff_ne]; omega
          have HR2 : Hid (R = j) := by
            show _ = _
            rw [← HE]
            cases hr : (bl s).drop (j + 1) with
            | nil => simp [numL, hb]
            | cons d r => rw [numL, if_neg (by rw [hb]; decide), if_neg (fun h => h46 h.1)]; rfl
          clear HE hb hd HJ
          go_wp2_with (go_at_call 30; refine Calls.mono (HN.out _) ?_; rintro e w' ⟨rfl, rfl⟩)
          try unfold Exit.noGoto
          go_ret
          exact ⟨by rw [HR2.out]; rfl, rfl⟩
    · obtain rfl : j = s.size := by omega
      have HR2 : Hid (R = s.size) := by
        show _ = _
        rw [← HJ.out, List.drop_eq_nil_of_le (by rw [bl_len]; exact Nat.le_refl _)]; rfl
      clear HJ
      go_wp2
      try unfold Exit.noGoto
      go_ret
      exact ⟨by rw [HR2.out]; rfl, rfl⟩
end Go.Proofs.YtidokamfppdnaaaGreatDoor
