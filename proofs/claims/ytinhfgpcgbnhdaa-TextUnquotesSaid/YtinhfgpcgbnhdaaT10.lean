/- firstByte: the byte with which the inside of a quote begins. -/
import Derived.Test.YtinhfgpcgbnhdaaT7
import Derived.Test.YtinhfgpcgbnhdaaT9
import Derived.Shelf.Small.Strs
import Derived.Shelf.Small.Wraps
import Derived.Shelf.LaysM
import Derived.Shelf.LaysC
import Derived.Shelf.Strings.Search2
namespace Go.Proofs
open Go.Shelf
def Try.lays137_ren : Go.Shelf.Ren := ⟨fun | 137 => 37 | 217 => 39 | 266 => 40 | n => n, fun | 9 => 9 | 5 => 5 | 3 => 3 | n => n, fun | n => n⟩
theorem Try.lays137 : Go.Proofs.Lays.n137 Try.prog Try.lays137_ren := {
  mixed := by kernel_rfl
  f137 := Try.func37.trans (congrArg some (by kernel_rfl))
  f217 := Try.func39.trans (congrArg some (by kernel_rfl))
  f266 := Try.func40.trans (congrArg some (by kernel_rfl))
  t3 := Try.underlying3
  a3 := Try.isAgg3
  z3 := Try.sizeOf3
  v3 := Try.zeroValue3
  t5 := Try.underlying5
  a5 := Try.isAgg5
  z5 := Try.sizeOf5
  v5 := Try.zeroValue5
  t9 := Try.underlying9
  a9 := Try.isAgg9
  z9 := Try.sizeOf9
  v9 := Try.zeroValue9 }
open Go.RowKit in
theorem Try.strings_IndexByte (s : ByteArray) (c : Int) (w : World) :
    Calls Try.prog 37 #[.string s, .int .u8 c] w fun e w' => e = .returned (.int .i64 (Lib.indexByte s.data.toList c.toNat.toUInt8)) ∧ w' = w := Any.strings_IndexByte Try.lays137 s c w
end Go.Proofs
namespace Go.Proofs.Ytinhfgpcgbnhdaa
open Go.RowKit

/-- What a digit is worth; -1: it is none. -/
def hexI (n : Nat) : Int := if 48 ≤ n ∧ n ≤ 57 then (n : Int) - 48 else if 97 ≤ n ∧ n ≤ 102 then (n : Int) - 87 else -1
theorem hexI_bd (n : Nat) : -1 ≤ hexI n ∧ hexI n ≤ 15 := by
  unfold hexI
  split
  · omega
  · split <;> omega
theorem digs_index : ∀ n, n < 256 → Lib.indexByte digs.data.toList (UInt8.ofNat n) = hexI n := by decide +kernel

theorem IndexByte_digs (c : UInt8) (w : World) :
    Calls Try.prog 37 #[.string digs, .int .u8 c.toNat] w fun e w' => e = .returned (.int .i64 (hexI c.toNat)) ∧ w = w' := by
  have h := Try.strings_IndexByte digs c.toNat w
  have e : ((c.toNat : Int).toNat).toUInt8 = UInt8.ofNat c.toNat := by rw [Int.toNat_natCast]
  rw [e, digs_index c.toNat (UInt8.toNat_lt c)] at h
  exact h.mono fun e w' ⟨h1, h2⟩ => ⟨h1, h2.symm⟩

/-- The byte with which a list begins as a quote tells it, and how many bytes tell it. -/
def fbL (l : List Nat) : Nat × Nat :=
  if pl (l.getD 0 0) then (l.getD 0 0, 1)
  else if l.length < 4 ∨ l.getD 0 0 ≠ 92 ∨ l.getD 1 0 ≠ 120 then (0, 0)
  else if hexI (l.getD 2 0) < 0 ∨ hexI (l.getD 3 0) < 0 then (0, 0)
  else if pl ((hexI (l.getD 2 0)).toNat * 16 + (hexI (l.getD 3 0)).toNat) then (0, 0)
  else ((hexI (l.getD 2 0)).toNat * 16 + (hexI (l.getD 3 0)).toNat, 4)

/-- Does the text begin with a backslash and an x? -/
def escB (s : ByteArray) : Bool := (s.extract 0 2).toList == [92, 120]

set_option maxHeartbeats 1000000 in
theorem HasPrefix_esc (s : ByteArray) (w : World) (hs : 4 ≤ s.size) (hm : s.size ≤ maxLen) :
    Calls Try.prog 36 #[.string s, .string ⟨#[92, 120]⟩] w fun e w' => e = .returned (.bool (escB s)) ∧ w = w' := by
  unfold maxLen at hm
  go_enter Try.func36, Try.ntmps36
  go_wp2_with (first | go_in)
  go_ret
  exact ⟨rfl, rfl⟩

theorem escB_eq (s : ByteArray) (h : 4 ≤ s.size) : escB s = (s[0].toNat == 92 && s[1].toNat == 120) := by
  obtain ⟨⟨l⟩⟩ := s
  match l, h with
  | a :: b :: c :: d :: r, _ =>
    unfold escB
    rw [ByteArray.toList_eq, Lib.extract_data]
    show ([a, b] == [92, 120]) = (a.toNat == 92 && b.toNat == 120)
    rw [Bool.eq_iff_iff]
    simp only [List.cons_beq_cons, Bool.and_eq_true, beq_iff_eq, List.nil_beq_eq, List.isEmpty_nil, and_true]
    constructor
    · rintro ⟨rfl, rfl⟩; exact ⟨rfl, rfl⟩
    · rintro ⟨h1, h2⟩; exact ⟨UInt8.toNat_inj.1 h1, UInt8.toNat_inj.1 h2⟩

theorem fb_plain (s : ByteArray) (h : 0 < s.size) (hp : pl s[0].toNat = true) : fbL (bl s) = (s[0].toNat, 1) := by
  unfold fbL; rw [bl_getD s 0 h, if_pos hp]
theorem fb_short (s : ByteArray) (h : 0 < s.size) (hp : pl s[0].toNat = false) (h4 : s.size < 4) : fbL (bl s) = (0, 0) := by
  unfold fbL; rw [bl_getD s 0 h, hp, if_neg (by decide), if_pos (Or.inl (by rw [bl_len]; exact h4))]
theorem fb_noesc (s : ByteArray) (h : 4 ≤ s.size) (hp : pl s[0].toNat = false) (he : escB s = false) : fbL (bl s) = (0, 0) := by
  rw [escB_eq s h] at he
  unfold fbL; rw [bl_getD s 0 (by omega), hp, if_neg (by decide), if_pos (Or.inr _)]
  rw [bl_getD s 1 (by omega)]
  simp only [Bool.and_eq_false_iff, beq_eq_false_iff_ne] at he
  exact he
theorem fb_esc (s : ByteArray) (h : 4 ≤ s.size) (hp : pl s[0].toNat = false) (he : escB s = true) :
    fbL (bl s) = if hexI s[2].toNat < 0 ∨ hexI s[3].toNat < 0 then (0, 0) else if pl ((hexI s[2].toNat).toNat * 16 + (hexI s[3].toNat).toNat) then (0, 0) else ((hexI s[2].toNat).toNat * 16 + (hexI s[3].toNat).toNat, 4) := by
  rw [escB_eq s h] at he
  simp only [Bool.and_eq_true, beq_iff_eq] at he
  unfold fbL
  rw [bl_getD s 0 (by omega), bl_getD s 1 (by omega), bl_getD s 2 (by omega), bl_getD s 3 (by omega), hp, if_neg (by decide), if_neg]
  rw [bl_len]
  rintro (h1 | h1 | h1)
  · omega
  · exact h1 he.1
  · exact h1 he.2

theorem or_hex : ∀ h, h < 16 → ∀ l, l < 16 → bits .or .i64 ((h : Nat) * 16 : Int) (l : Nat) % 256 = ((h * 16 + l : Nat) : Int) := by decide +kernel

set_option maxHeartbeats 1000000 in
theorem firstByte_any (s : ByteArray) (w : World) (hs : 0 < s.size) (hm : s.size ≤ maxLen) :
    Calls Try.prog 33 #[.string s] w fun e w' => e = .returned (.tuple #[.int .u8 (fbL (bl s)).1, .int .i64 (fbL (bl s)).2]) ∧ Below w.heap.size w w' := by
  have hm' := hm
  unfold maxLen at hm
  have h0 : (0 : Int) < (s.size : Int) := by omega
  cases hp : pl s[0].toNat
  · by_cases h4 : s.size < 4
    · have HF : Hid (fbL (bl s) = (0, 0)) := fb_short s hs hp h4
      go_enter Try.func33, Try.ntmps33
      go_wp2_with (first | (go_at_call 34; refine (plain_any _ _).mono ?_; rintro e w' ⟨rfl, rfl⟩))
      go_ret2
      rw [HF.out]
      exact ⟨rfl, Below.refl _ _⟩
    · cases he : escB s
      · have HF : Hid (fbL (bl s) = (0, 0)) := fb_noesc s (by omega) hp he
        go_enter Try.func33, Try.ntmps33
        go_wp2_with (first | (go_at_call 34; refine (plain_any _ _).mono ?_; rintro e w' ⟨rfl, rfl⟩) | (go_at_call 36; refine (HasPrefix_esc _ _ (by omega) hm').mono ?_; rintro e w' ⟨rfl, rfl⟩))
        go_ret2
        rw [HF.out]
        exact ⟨rfl, Below.refl _ _⟩
      · have h5 : 4 ≤ s.size := by omega
        have HF : Hid (fbL (bl s) = if hexI s[2].toNat < 0 ∨ hexI s[3].toNat < 0 then (0, 0) else if pl ((hexI s[2].toNat).toNat * 16 + (hexI s[3].toNat).toNat) then (0, 0) else ((hexI s[2].toNat).toNat * 16 + (hexI s[3].toNat).toNat, 4)) := fb_esc s h5 hp he
        have h2 : (2 : Int) < (s.size : Int) := by omega
        have h3 : (3 : Int) < (s.size : Int) := by omega
        obtain ⟨h, hh⟩ : ∃ h, h = hexI s[2].toNat := ⟨_, rfl⟩
        obtain ⟨l, hl⟩ : ∃ l, l = hexI s[3].toNat := ⟨_, rfl⟩
        have i1 := IndexByte_digs s[2]
        have i2 := IndexByte_digs s[3]
        have b1 := hexI_bd s[2].toNat
        have b2 := hexI_bd s[3].toNat
        have hf := HF.out
        rw [← hh] at i1 b1 hf
        rw [← hl] at i2 b2 hf
        have I1 : Hid (∀ w, Calls Try.prog 37 #[.string digs, .int .u8 s[2].toNat] w fun e w' => e = .returned (.int .i64 h) ∧ w = w') := i1
        have I2 : Hid (∀ w, Calls Try.prog 37 #[.string digs, .int .u8 s[3].toNat] w fun e w' => e = .returned (.int .i64 l) ∧ w = w') := i2
        have HF2 : Hid (fbL (bl s) = if h < 0 ∨ l < 0 then (0, 0) else if pl (h.toNat * 16 + l.toNat) then (0, 0) else (h.toNat * 16 + l.toNat, 4)) := hf
        clear i1 i2 hf HF hh hl
        by_cases hn : h < 0
        · have HF3 : Hid (fbL (bl s) = (0, 0)) := by show _ = _; rw [HF2.out, if_pos (Or.inl hn)]
          clear HF2
          go_enter Try.func33, Try.ntmps33
          go_wp2_with (first | (go_at_call 34; refine (plain_any _ _).mono ?_; rintro e w' ⟨rfl, rfl⟩) | (go_at_call 36; refine (HasPrefix_esc _ _ h5 hm').mono ?_; rintro e w' ⟨rfl, rfl⟩))
          refine (I1.out _).mono ?_
          rintro e w' ⟨rfl, rfl⟩
          go_wp2_with fail
          refine (I2.out _).mono ?_
          rintro e w' ⟨rfl, rfl⟩
          go_wp2
          go_ret2
          rw [HF3.out]
          exact ⟨rfl, Below.refl _ _⟩
        · by_cases ln : l < 0
          · have HF3 : Hid (fbL (bl s) = (0, 0)) := by show _ = _; rw [HF2.out, if_pos (Or.inr ln)]
            clear HF2
            go_enter Try.func33, Try.ntmps33
            go_wp2_with (first | (go_at_call 34; refine (plain_any _ _).mono ?_; rintro e w' ⟨rfl, rfl⟩) | (go_at_call 36; refine (HasPrefix_esc _ _ h5 hm').mono ?_; rintro e w' ⟨rfl, rfl⟩))
            refine (I1.out _).mono ?_
            rintro e w' ⟨rfl, rfl⟩
            go_wp2_with fail
            refine (I2.out _).mono ?_
            rintro e w' ⟨rfl, rfl⟩
            go_wp2
            go_ret2
            rw [HF3.out]
            exact ⟨rfl, Below.refl _ _⟩
          · obtain ⟨x, rfl⟩ := Int.eq_ofNat_of_zero_le (show 0 ≤ h by omega)
            obtain ⟨y, rfl⟩ := Int.eq_ofNat_of_zero_le (show 0 ≤ l by omega)
            have ho := or_hex x (by omega) y (by omega)
            have HF3 : Hid (fbL (bl s) = if pl (x * 16 + y) then (0, 0) else (x * 16 + y, 4)) := by show _ = _; rw [HF2.out, if_neg (by omega)]; rfl
            obtain ⟨v, hv⟩ : ∃ v : Nat, v = x * 16 + y := ⟨_, rfl⟩
            rw [← hv] at ho
            have HF4 : Hid (fbL (bl s) = if pl v then (0, 0) else (v, 4)) := by have := HF3.out; rw [← hv] at this; exact this
            clear HF2 HF3 hv
            cases hpv : pl v
            · have HF5 : Hid (fbL (bl s) = (v, 4)) := by show _ = _; rw [HF4.out, hpv]; rfl
              clear HF4
              go_enter Try.func33, Try.ntmps33
              go_wp2_with (first | (go_at_call 34; refine (plain_any _ _).mono ?_; rintro e w' ⟨rfl, rfl⟩) | (go_at_call 36; refine (HasPrefix_esc _ _ h5 hm').mono ?_; rintro e w' ⟨rfl, rfl⟩))
              refine (I1.out _).mono ?_
              rintro e w' ⟨rfl, rfl⟩
              go_wp2_with fail
              refine (I2.out _).mono ?_
              rintro e w' ⟨rfl, rfl⟩
              go_wp2_with (first | (go_at_call 34; refine (plain_any _ _).mono ?_; rintro e w' ⟨rfl, rfl⟩))
              go_ret2
              rw [HF5.out]
              exact ⟨rfl, Below.refl _ _⟩
            · have HF5 : Hid (fbL (bl s) = (0, 0)) := by show _ = _; rw [HF4.out, hpv]; rfl
              clear HF4
              go_enter Try.func33, Try.ntmps33
              go_wp2_with (first | (go_at_call 34; refine (plain_any _ _).mono ?_; rintro e w' ⟨rfl, rfl⟩) | (go_at_call 36; refine (HasPrefix_esc _ _ h5 hm').mono ?_; rintro e w' ⟨rfl, rfl⟩))
              refine (I1.out _).mono ?_
              rintro e w' ⟨rfl, rfl⟩
              go_wp2_with fail
              refine (I2.out _).mono ?_
              rintro e w' ⟨rfl, rfl⟩
              go_wp2_with (first | (go_at_call 34; refine (plain_any _ _).mono ?_; rintro e w' ⟨rfl, rfl⟩))
              go_ret2
              rw [HF5.out]
              exact ⟨rfl, Below.refl _ _⟩
  · have HF : Hid (fbL (bl s) = (s[0].toNat, 1)) := fb_plain s hs hp
    go_enter Try.func33, Try.ntmps33
    go_wp2_with (first | (go_at_call 34; refine (plain_any _ _).mono ?_; rintro e w' ⟨rfl, rfl⟩))
    go_ret2
    rw [HF.out]
    exact ⟨rfl, Below.refl _ _⟩
end Go.Proofs.Ytinhfgpcgbnhdaa
