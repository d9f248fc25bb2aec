/- Blanks and remarks alone. -/
import Derived.Test.YtidokamfppdnaaaDoorD4
namespace Go.Proofs.YtidokamfppdnaaaDoor
open Go.RowKit
set_option linter.unusedSimpArgs false
set_option linter.unusedVariables false

def btw : Bool → List UInt8 → Bool
  | _, [] => true
  | b, c :: r => if c.toNat = 10 then btw false r else if b = true ∨ c.toNat = 9 ∨ c.toNat = 13 ∨ c.toNat = 32 then btw b r else if c.toNat = 45 ∧ r.head?.map UInt8.toNat = some 45 then btw true r else false
theorem isBl_iff (c : UInt8) : isBl c = true ↔ c.toNat = 9 ∨ c.toNat = 10 ∨ c.toNat = 13 ∨ c.toNat = 32 := by
  unfold isBl; simp; try omega
theorem btw_skip : ∀ (b : Bool) (l : List UInt8), btw b (l.take (skipB b l)) = true
  | _, [] => by simp [btw]
  | true, c :: r => by
    have h1 := btw_skip false r
    have h2 := btw_skip true r
    unfold skipB
    split
    · rename_i h
      rw [Nat.add_comm, List.take_succ_cons, btw, if_pos h]; exact h1
    · rename_i h
      rw [Nat.add_comm, List.take_succ_cons, btw, if_neg h, if_pos (.inl rfl)]; exact h2
  | false, c :: r => by
    have h1 := btw_skip false r
    have h2 := btw_skip true r
    unfold skipB
    split
    · rename_i h
      rw [isBl_iff] at h
      rw [Nat.add_comm, List.take_succ_cons, btw]
      split
      · exact h1
      · rw [if_pos (by omega)]; exact h1
    · rename_i h
      rw [isBl_iff] at h
      split
      · rename_i h45
        rw [Nat.add_comm, List.take_succ_cons, btw, if_neg (by omega), if_neg (by simp; omega), if_pos]
        · exact h2
        · refine ⟨h45.1, ?_⟩
          cases r with
          | nil => simp at h45
          | cons d r' =>
            have hd : d.toNat = 45 := by simpa using h45.2
            unfold skipB
            rw [if_neg (by omega), Nat.add_comm, List.take_succ_cons]
            simp [hd]
      · simp [btw]

set_option maxRecDepth 20000 in
set_option maxHeartbeats 2000000 in
theorem between_any (s : ByteArray) (hs : s.size ≤ 100000) (w : World) :
    Calls Tryd.prog 15 #[.string s] w fun r w' => r = .returned (.bool (btw false (bl s))) ∧ w = w' := by
  obtain ⟨T, HT⟩ : ∃ T, Hid (btw false (bl s) = T) := ⟨_, show _ = _ from rfl⟩
  rw [HT.out]
  go_enter Tryd.func15, Tryd.ntmps15
  go_wp2_with fail
  go_loop [3, 4] (fun r i => ∃ (b : Bool) (j : Nat), j ≤ s.size ∧ r = .bool b ∧ i = .int .i64 j ∧ Hid (btw b ((bl s).drop j) = T)) (fun _ i => s.size - (intOf i).toNat)
  case atStart => exact ⟨false, 0, by omega, rfl, rfl, HT.out⟩
  case round =>
    clear HT
    obtain ⟨b, j, hj, rfl, rfl, HJ⟩ := hrel
    by_cases hlt : j < s.size
    · have dlt : decide ((j : Int) < (s.size : Int)) = true := decide_eq_true (by omega)
      have lt : (j : Int) < (s.size : Int) := by omega
      have u1 : IntKind.i64.wrap ((j : Int) + 1) = (j : Int) + 1 := by rw [IntKind.wrap_i64]; omega
      have HE := HJ.out
      rw [bl_drop s hlt, btw] at HE
      by_cases h10 : s[j].toNat = 10
      · have b10 : ((s[j].toNat : Int) == 10) = true := by rw [h10]; rfl
        rw [if_pos h10] at HE
        have HJ2 : Hid (btw false ((bl s).drop (j + 1)) = T) := HE
        clear h10 HE HJ
        go_wp2_with fail
        go_round
        case rel => exact ⟨false, j + 1, by omega, rfl, by go_num, HJ2⟩
        case measure => simp [intOf] <;> omega
      · have b10 : ((s[j].toNat : Int) == 10) = false := by rw [beq_eq_false_iff_ne]; omega
        rw [if_neg h10] at HE
        cases b with
        | true =>
          rw [if_pos (.inl rfl)] at HE
          have HJ2 : Hid (btw true ((bl s).drop (j + 1)) = T) := HE
          clear h10 HE HJ
          go_wp2_with fail
          go_round
          case rel => exact ⟨true, j + 1, by omega, rfl, by go_num, HJ2⟩
          case measure => simp [intOf] <;> omega
        | false =>
          by_cases hb : s[j].toNat = 9 ∨ s[j].toNat = 13 ∨ s[j].toNat = 32
          · rw [if_pos (.inr hb)] at HE
            have HJ2 : Hid (btw false ((bl s).drop (j + 1)) = T) := HE
            clear h10 HE HJ
            rcases hb with hb | hb | hb
            · have b9 : ((s[j].toNat : Int) == 9) = true := by rw [hb]; rfl
              clear hb
              go_wp2_with fail
              go_round
              case rel => exact ⟨false, j + 1, by omega, rfl, by go_num, HJ2⟩
              case measure => simp [intOf] <;> omega
            · have b9 : ((s[j].toNat : Int) == 9) = false := by rw [hb]; rfl
              have b13 : ((s[j].toNat : Int) == 13) = true := by rw [hb]; rfl
              clear hb
              go_wp2_with fail
              go_round
              case rel => exact ⟨false, j + 1, by omega, rfl, by go_num, HJ2⟩
              case measure => simp [intOf] <;> omega
            · have b9 : ((s[j].toNat : Int) == 9) = false := by rw [hb]; rfl
              have b13 : ((s[j].toNat : Int) == 13) = false := by rw [hb]; rfl
              have b32 : ((s[j].toNat : Int) == 32) = true := by rw [hb]; rfl
              clear hb
              go_wp2_with fail
              go_round
              case rel => exact ⟨false, j + 1, by omega, rfl, by go_num, HJ2⟩
              case measure => simp [intOf] <;> omega
          · have b9 : ((s[j].toNat : Int) == 9) = false := by rw [beq_eq_false_iff_ne]; omega
            have b13 : ((s[j].toNat : Int) == 13) = false := by rw [beq_eq_false_iff_ne]; omega
            have b32 : ((s[j].toNat : Int) == 32) = false := by rw [beq_eq_false_iff_ne]; omega
            rw [if_neg (by simp; omega)] at HE
            by_cases h45 : s[j].toNat = 45
            · have b45 : ((s[j].toNat : Int) != 45) = false := by rw [h45]; rfl
              have b45' : ((s[j].toNat : Int) = 45) = True := by rw [h45]; simp
              by_cases hl1 : j + 1 < s.size
              · have dl1 : decide ((s.size : Int) ≤ (j : Int) + 1) = false := decide_eq_false (by omega)
                have lt1 : (j : Int) + 1 < (s.size : Int) := by omega
                have hd : ((bl s).drop (j + 1)).head?.map UInt8.toNat = some (s[j + 1].toNat) := by rw [bl_drop s hl1]; rfl
                rw [hd] at HE
                have ht : ((j : Int) + 1).toNat = j + 1 := by omega
                by_cases h46 : s[j + 1].toNat = 45
                · have c45 : ((s[j + 1].toNat : Int) != 45) = false := by rw [h46]; rfl
                  have c45' : ((s[j + 1].toNat : Int) = 45) = True := by rw [h46]; simp
                  rw [if_pos ⟨h45, by rw [h46]⟩] at HE
                  have HJ2 : Hid (btw true ((bl s).drop (j + 1)) = T) := HE
                  clear h10 HE HJ h45 h46 hb hd
                  go_wp2_with fail
                  go_round
                  case rel => exact ⟨true, j + 1, by omega, rfl, by go_num, HJ2⟩
                  case measure => simp [intOf] <;> omega
                · have c45 : ¬ (s[j + 1].toNat : Int) = 45 := by omega
                  rw [if_neg (fun h => h46 (Option.some.inj h.2))] at HE
                  have HJ2 : Hid (T = false) := HE.symm
                  clear h10 HE HJ h45 h46 hb hd
                  go_wp2_with fail
                  go_ret
                  exact ⟨by rw [HJ2.out]; rfl, rfl⟩
              · have dl1 : decide ((s.size : Int) ≤ (j : Int) + 1) = true := decide_eq_true (by omega)
                have le1 : (s.size : Int) ≤ (j : Int) + 1 := by omega
                rw [List.drop_eq_nil_of_le (by rw [bl_len]; omega), if_neg (by simp)] at HE
                have HJ2 : Hid (T = false) := HE.symm
                clear h10 HE HJ h45 hb
                go_wp2_with fail
                go_ret
                exact ⟨by rw [HJ2.out]; rfl, rfl⟩
            · have b45 : ¬ (s[j].toNat : Int) = 45 := by omega
              rw [if_neg (fun h => h45 h.1)] at HE
              have HJ2 : Hid (T = false) := HE.symm
              clear h10 HE HJ h45 hb
              go_wp2_with fail
              go_ret
              exact ⟨by rw [HJ2.out]; rfl, rfl⟩
    · obtain rfl : j = s.size := by omega
      have dlt : decide ((s.size : Int) < (s.size : Int)) = false := decide_eq_false (by omega)
      have HJ2 : Hid (T = true) := by
        have := HJ.out
        rw [List.drop_eq_nil_of_le (by rw [bl_len]; exact Nat.le_refl _)] at this
        show _ = _; rw [← this]; cases b <;> rfl
      clear HJ
      go_wp2_with fail
      go_ret
      exact ⟨by rw [HJ2.out]; rfl, rfl⟩
end Go.Proofs.YtidokamfppdnaaaDoor
