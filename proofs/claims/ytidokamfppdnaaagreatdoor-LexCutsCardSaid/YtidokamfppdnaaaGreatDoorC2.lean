/- Where the next token may begin; where a number ends. -/
import Derived.Test.YtidokamfppdnaaaGreatDoorC1
import Derived.Test.YtidokamfppdnaaaGreatDoorShelf
import Derived.WalkMore
namespace Go.Proofs.YtidokamfppdnaaaGreatDoor
open Go.RowKit
set_option linter.unusedSimpArgs false
set_option linter.unusedVariables false

/-- The bytes of a text. -/
abbrev bl (s : ByteArray) : List UInt8 := s.data.toList
theorem bl_len (s : ByteArray) : (bl s).length = s.size := by rw [Lib.size_eq]
theorem bl_at (s : ByteArray) {k : Nat} (h : k < s.size) : (bl s)[k]'(by rw [bl_len]; exact h) = s[k] := rfl
theorem bl_drop (s : ByteArray) {k : Nat} (h : k < s.size) : (bl s).drop k = s[k] :: (bl s).drop (k + 1) := by
  rw [List.drop_eq_getElem_cons (by rw [bl_len]; exact h), bl_at s h]
theorem bl_ext (s : ByteArray) (i j : Nat) : bl (s.extract i j) = ((bl s).take j).drop i := by
  rw [bl, Lib.extract_data]; first | rfl | (rw [List.drop_take]) | simp
theorem bl_from (s : ByteArray) (i : Nat) : bl (s.extract i s.size) = (bl s).drop i := by
  rw [bl_ext, List.take_of_length_le (by rw [bl_len]; exact Nat.le_refl _)]

/-- How many bytes are blanks and remarks. -/
def skipB : Bool → List UInt8 → Nat
  | _, [] => 0
  | true, c :: r => if c.toNat = 10 then 1 + skipB false r else 1 + skipB true r
  | false, c :: r => if isBl c then 1 + skipB false r else if c.toNat = 45 ∧ r.head?.map UInt8.toNat = some 45 then 1 + skipB true r else 0
/-- How many bytes a remark has. -/
def remL : List UInt8 → Nat
  | [] => 0
  | c :: r => if c.toNat = 10 then 0 else 1 + remL r
theorem skip_rem : ∀ l, skipB true l = remL l + skipB false (l.drop (remL l))
  | [] => rfl
  | c :: r => by
    by_cases h : c.toNat = 10
    · simp [skipB, remL, h, isBl]
    · have := skip_rem r
      simp only [skipB, remL, h, if_false]
      rw [this, Nat.add_comm 1 (remL r), List.drop_succ_cons]; omega
theorem remL_le : ∀ l, remL l ≤ l.length
  | [] => Nat.le_refl _
  | c :: r => by
    have := remL_le r
    unfold remL
    split <;> simp <;> omega
theorem remL_index : ∀ l, (Lib.indexByte l 10 < 0 ∧ remL l = l.length) ∨ Lib.indexByte l 10 = (remL l : Int)
  | [] => .inl ⟨by decide, rfl⟩
  | c :: r => by
    unfold Lib.indexByte remL
    by_cases h : c = 10
    · subst h
      exact .inr rfl
    · have h' : ¬ c.toNat = 10 := fun e => h (UInt8.toNat_inj.1 (by rw [e]; rfl))
      have hb : (c == 10) = false := by rw [beq_eq_false_iff_ne]; exact h
      rcases remL_index r with ⟨h1, h2⟩ | h1
      · left
        simp [h, h', h1, h2]
        omega
      · right
        simp [h, h', h1]
        omega

set_option maxHeartbeats 1000000 in
theorem remarkEnd_any (s : ByteArray) (k : Nat) (hk : k ≤ s.size) (hs : s.size ≤ 100000) (w : World) :
    Calls Tryz.prog 22 #[.string s, .int .i64 (k : Int)] w fun e w' => e = .returned (.int .i64 ((k + remL ((bl s).drop k) : Nat) : Int)) ∧ w = w' := by
  have k1 : (k : Int) ≤ (s.size : Int) := by omega
  have HI : Hid (∀ w, Calls Tryz.prog 35 #[.string (s.extract k s.size), .int .u8 10] w fun e w' => e = .returned (.int .i64 (Lib.indexByte ((bl s).drop k) 10)) ∧ w = w') := fun w => by
    have := Tryz.strings_IndexByte (s.extract k s.size) 10 w
    refine this.mono ?_
    rintro e w' ⟨he, hw⟩
    refine ⟨?_, hw.symm⟩
    rw [he, ← bl_from]; rfl
  have hr := remL_le ((bl s).drop k)
  rw [List.length_drop, bl_len] at hr
  have hx := remL_index ((bl s).drop k)
  rw [List.length_drop, bl_len] at hx
  generalize Lib.indexByte ((bl s).drop k) 10 = i at HI hx
  generalize remL ((bl s).drop k) = n at hr hx ⊢
  rcases hx with ⟨h1, rfl⟩ | rfl
  · have e : k + (s.size - k) = s.size := by omega
    rw [e]
    go_enter Tryz.func22, Tryz.ntmps22
    go_wp2_with (go_at_call 35; refine Calls.mono (HI.out _) ?_; rintro e w' ⟨rfl, rfl⟩)
    go_ret
    exact ⟨rfl, rfl⟩
  · have h1 : ¬ (n : Int) < 0 := by omega
    have u1 : IntKind.i64.wrap ((k : Int) + (n : Int)) = (k : Int) + (n : Int) := by rw [IntKind.wrap_i64]; omega
    go_enter Tryz.func22, Tryz.ntmps22
    go_wp2_with (go_at_call 35; refine Calls.mono (HI.out _) ?_; rintro e w' ⟨rfl, rfl⟩)
    go_ret
    exact ⟨by simp, rfl⟩

/-- Does a remark begin? -/
def remB (l : List UInt8) : Bool := Lib.hasPrefix l [45, 45]
theorem remB_cons (c : UInt8) (r : List UInt8) : remB (c :: r) = decide (c.toNat = 45 ∧ r.head?.map UInt8.toNat = some 45) := by
  unfold remB
  rw [Bool.eq_iff_iff, decide_eq_true_iff]
  have e45 : ∀ d : UInt8, d.toNat = 45 ↔ d = 45 := fun d => ⟨fun e => UInt8.toNat_inj.1 (by rw [e]; rfl), fun e => by rw [e]; rfl⟩
  cases r with
  | nil => simp [Lib.hasPrefix]
  | cons d r =>
    simp [Lib.hasPrefix, e45]
    exact ⟨fun h => ⟨h.1.symm, h.2.symm⟩, fun h => ⟨h.1.symm, h.2.symm⟩⟩

set_option maxRecDepth 20000 in
set_option maxHeartbeats 2000000 in
theorem passOver_any (s : ByteArray) (k : Nat) (hk : k ≤ s.size) (hs : s.size ≤ 100000) (w : World) :
    Calls Tryz.prog 10 #[.string s, .int .i64 (k : Int)] w fun e w' => e = .returned (.int .i64 ((k + skipB false ((bl s).drop k) : Nat) : Int)) ∧ w = w' := by
  obtain ⟨R, HR⟩ : ∃ R, Hid (k + skipB false ((bl s).drop k) = R) := ⟨_, show _ = _ from rfl⟩
  rw [HR.out]
  go_enter Tryz.func10, Tryz.ntmps10
  go_wp2_with fail
  go_loop [1] (fun i => ∃ j : Nat, j ≤ s.size ∧ i = .int .i64 j ∧ Hid (j + skipB false ((bl s).drop j) = R)) (fun i => s.size - (intOf i).toNat)
  case atStart => exact ⟨k, hk, rfl, HR.out⟩
  case round =>
    clear HR
    obtain ⟨j, hj, rfl, HJ⟩ := hrel
    by_cases hlt : j < s.size
    · have j1 : (j : Int) ≤ (s.size : Int) := by omega
      have hd := bl_drop s hlt
      have HB : Hid (∀ w, Calls Tryz.prog 20 #[.int .u8 (s[j].toNat : Int)] w fun e w' => e = .returned (.bool (isBl s[j])) ∧ w = w') := fun w => isBlank_any _ w
      have HP : Hid (∀ w, Calls Tryz.prog 21 #[.string (s.extract j s.size), .string ⟨#[45, 45]⟩] w fun e w' => e = .returned (.bool (remB (s[j] :: (bl s).drop (j + 1)))) ∧ w = w') := fun w => by
        refine (Tryz.strings_HasPrefix _ _ w).mono ?_
        rintro e w' ⟨he, hw⟩
        refine ⟨?_, hw.symm⟩
        rw [he, ← hd, ← bl_from]; rfl
      have HRe : Hid _ := remarkEnd_any s j hj hs
      have hrl := remL_le ((bl s).drop j)
      rw [List.length_drop, bl_len] at hrl
      have HE := HJ.out
      rw [hd] at HE
      cases hb : isBl s[j] with
      | true =>
        have HJ2 : Hid (j + 1 + skipB false ((bl s).drop (j + 1)) = R) := by
          show _ = _
          rw [← HE, skipB, if_pos hb]; omega
        rw [hb] at HB
        clear HE hb hd HP HRe hrl HJ
        go_wp2_with (go_at_call 20; refine Calls.mono (HB.out _) ?_; rintro e w' ⟨rfl, rfl⟩)
        go_round
        case rel => exact ⟨j + 1, by omega, by go_num, HJ2⟩
        case measure => simp [intOf] <;> omega
      | false =>
        rw [hb] at HB
        cases hp : remB (s[j] :: (bl s).drop (j + 1)) with
        | true =>
          rw [hp] at HP
          have hp2 : s[j].toNat = 45 ∧ ((bl s).drop (j + 1)).head?.map UInt8.toNat = some 45 := by rw [remB_cons, decide_eq_true_iff] at hp; exact hp
          have hr1 : 1 ≤ remL ((bl s).drop j) := by
            rw [hd, remL, if_neg (by omega)]; omega
          have HJ2 : Hid (j + remL ((bl s).drop j) + skipB false ((bl s).drop (j + remL ((bl s).drop j))) = R) := by
            show _ = _
            rw [← HE, skipB, if_neg (by rw [hb]; decide), if_pos hp2]
            have h1 : skipB true (s[j] :: (bl s).drop (j + 1)) = 1 + skipB true ((bl s).drop (j + 1)) := by rw [skipB, if_neg (by omega)]
            rw [← h1, ← hd, skip_rem, List.drop_drop]; omega
          clear HE hb hd hp hp2 HJ
          generalize remL ((bl s).drop j) = n at HRe hrl hr1 HJ2
          go_wp2_with (first | (go_at_call 20; refine Calls.mono (HB.out _) ?_; rintro e w' ⟨rfl, rfl⟩) | (go_at_call 21; refine Calls.mono (HP.out _) ?_; rintro e w' ⟨rfl, rfl⟩) | (go_at_call 22; refine Calls.mono (HRe.out _) ?_; rintro e w' ⟨rfl, rfl⟩))
          go_round
          case rel => exact ⟨j + n, by omega, rfl, HJ2⟩
          case measure => simp [intOf] <;> omega
        | false =>
          rw [hp] at HP
          have HR2 : Hid (R = j) := by
            show _ = _
            rw [remB_cons, decide_eq_false_iff_not] at hp
            rw [← HE, skipB, if_neg (by rw [hb]; decide), if_neg hp]; rfl
          clear HE hb hd hp HJ HRe hrl
          go_wp2_with (first | (go_at_call 20; refine Calls.mono (HB.out _) ?_; rintro e w' ⟨rfl, rfl⟩) | (go_at_call 21; refine Calls.mono (HP.out _) ?_; rintro e w' ⟨rfl, rfl⟩))
          go_ret
          exact ⟨by rw [HR2.out]; rfl, rfl⟩
    · obtain rfl : j = s.size := by omega
      have HR2 : Hid (R = s.size) := by
        show _ = _
        rw [← HJ.out, List.drop_eq_nil_of_le (by rw [bl_len]; exact Nat.le_refl _)]; rfl
      clear HJ
      go_wp2
      go_ret
      exact ⟨by rw [HR2.out]; rfl, rfl⟩

/-- How many bytes of a name stand there. -/
def nameL : List UInt8 → Nat
  | [] => 0
  | c :: r => if isNm c then 1 + nameL r else 0
theorem nameL_le : ∀ l, nameL l ≤ l.length
  | [] => Nat.le_refl _
  | c :: r => by
    have := nameL_le r
    unfold nameL
    split <;> simp <;> omega
/-- How many bytes of a number. -/
def numL : List UInt8 → Nat
  | [] => 0
  | [c] => if isNm c then 1 else 0
  | c :: d :: r => if isNm c then 1 + numL (d :: r) else if c.toNat = 46 ∧ isDg d = true then 2 + numL r else 0
theorem numL_le : ∀ l, numL l ≤ l.length
  | [] => Nat.le_refl _
  | [c] => by unfold numL; split <;> simp
  | c :: d :: r => by
    have h1 := numL_le (d :: r)
    have h2 := numL_le r
    unfold numL
    split
    · simp at h1 ⊢; omega
    · split
      · simp; omega
      · simp

end Go.Proofs.YtidokamfppdnaaaGreatDoor
