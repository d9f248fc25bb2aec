/- Texts: are all bytes among some digits; a text cut at a byte. -/
import Derived.Test.YtdpdpgnpkmfooaaGreatDoorW5
import Derived.Test.YtdpdpgnpkmfooaaGreatDoorShelf
import Derived.Deep.QuietTactic
import Derived.BigQuiet
namespace Go.Proofs.YtdpdpgnpkmfooaaGreatDoor
open Go.RowKit

/-- Are all bytes among d, and one at least? -/
def inB (d : ByteArray) (c : UInt8) : Bool := !decide (Lib.indexByte d.data.toList c < 0)
def allB (s d : ByteArray) : Bool := s.data.toList.all (inB d) && !s.data.toList.isEmpty

theorem take_snoc (s : ByteArray) (k : Nat) (h : k < s.size) : s.data.toList.take (k + 1) = s.data.toList.take k ++ [s[k]] := by
  rw [List.take_succ_eq_append_getElem (by simpa using h)]; rfl

theorem all_not {s d : ByteArray} {k : Nat} (h : k < s.size) (hn : inB d s[k] = false) : allB s d = false := by
  unfold allB
  have : s.data.toList.all (inB d) = false := by
    rw [List.all_eq_false]
    exact ⟨s[k], List.getElem_mem (l := s.data.toList) (n := k) (by simpa using h), by rw [hn]; decide⟩
  rw [this]; rfl

theorem empty_eq (s : ByteArray) : s.toList.isEmpty = s.data.toList.isEmpty := by
  have h := decide_eq_emptyBytes s
  rw [← h, Bool.eq_iff_iff, decide_eq_true_eq, List.isEmpty_iff]
  constructor
  · intro e; rw [e]; rfl
  · intro e; exact Go.WideShapes.bytes_inj (by rw [e]; rfl)

theorem indexByte_b (d : ByteArray) (c : UInt8) (w : World) :
    Calls Tryz.prog 84 #[.string d, .int .u8 c.toNat] w fun e w' => e = .returned (.int .i64 (Lib.indexByte d.data.toList c)) ∧ w' = w := by
  have h := Tryz.strings_IndexByte d c.toNat w
  have e : ((c.toNat : Int).toNat).toUInt8 = c := by rw [Int.toNat_natCast]; exact UInt8.ofNat_toNat
  rw [e] at h
  exact h

set_option maxHeartbeats 1000000 in
theorem allOf_any (s d : ByteArray) (w : World) (hs : s.size ≤ maxLen) :
    Calls Tryz.prog 56 #[.string s, .string d] w fun e w' => e = .returned (.bool (allB s d)) ∧ w' = w := by
  unfold maxLen at hs
  go_enter Tryz.func56, Tryz.ntmps56
  go_wp2_with fail
  go_loop [8] (fun i => ∃ k : Nat, k ≤ s.size ∧ i = .int .i64 k ∧ Hid ((s.data.toList.take k).all (inB d) = true)) (fun i => s.size - (intOf i).toNat)
  case atStart => exact ⟨0, Nat.zero_le _, rfl, rfl⟩
  case round =>
    obtain ⟨k, hk, rfl, ha⟩ := hrel
    by_cases hlt : k < s.size
    · have HT : Hid (s.data.toList.take (k + 1) = s.data.toList.take k ++ [s[k]]) := take_snoc s k hlt
      by_cases hn : Lib.indexByte d.data.toList s[k] < 0
      · have HA : Hid (allB s d = false) := all_not hlt (by unfold inB; rw [decide_eq_true hn]; rfl)
        go_wp2_with (first | (go_at_call 84; refine (indexByte_b _ _ _).mono ?_; rintro e w' ⟨rfl, rfl⟩))
        go_ret
        exact ⟨by rw [HA.out]; rfl, rfl⟩
      · have HN : Hid (inB d s[k] = true) := by show inB d s[k] = true; unfold inB; rw [decide_eq_false hn]; rfl
        go_wp2_with (first | (go_at_call 84; refine (indexByte_b _ _ _).mono ?_; rintro e w' ⟨rfl, rfl⟩))
        go_round
        case rel => exact ⟨k + 1, by omega, by go_num, by show List.all _ _ = true; rw [HT.out, List.all_append, ha.out]; simp [HN.out]⟩
        case measure => simp [intOf]; omega
    · have he : k = s.size := by omega
      subst he
      have hA : (s.data.toList.take s.size).all (inB d) = true := ha.out
      rw [List.take_of_length_le (by simp)] at hA
      have HA : Hid (allB s d = !s.data.toList.isEmpty) := by show allB s d = _; unfold allB; rw [hA]; rfl
      clear ha hA
      go_wp2
      go_ret
      exact ⟨by rw [HA.out, ← empty_eq s]; rfl, rfl⟩

/-- A text cut at the first byte c. -/
def cutA (s : ByteArray) (c : UInt8) : ByteArray := if Lib.indexByte s.data.toList c < 0 then s else s.extract 0 (Lib.indexByte s.data.toList c).toNat
def cutZ (s : ByteArray) (c : UInt8) : ByteArray := if Lib.indexByte s.data.toList c < 0 then ⟨#[]⟩ else s.extract ((Lib.indexByte s.data.toList c).toNat + 1) s.size
def cutB (s : ByteArray) (c : UInt8) : Bool := !decide (Lib.indexByte s.data.toList c < 0)

theorem indexByte_lt (l : List UInt8) (c : UInt8) : Lib.indexByte l c < l.length ∨ l = [] := by
  induction l with
  | nil => exact Or.inr rfl
  | cons b l ih =>
    left
    unfold Lib.indexByte
    split
    · simp
    · split
      · simp; omega
      · rcases ih with ih | ih
        · simp; omega
        · subst ih; simp [Lib.indexByte] at *

set_option maxHeartbeats 1000000 in
theorem cutS_any (s : ByteArray) (c : UInt8) (w : World) (hs : s.size ≤ maxLen) :
    Calls Tryz.prog 83 #[.string s, .string ⟨#[c]⟩] w fun e w' => e = .returned (.tuple #[.string (cutA s c), .string (cutZ s c), .bool (cutB s c)]) ∧ Below w.heap.size w w' := by
  unfold maxLen at hs
  by_cases hi : Lib.indexByte s.data.toList c < 0
  · have HV : Hid (cutA s c = s ∧ cutZ s c = ⟨#[]⟩ ∧ cutB s c = false) := ⟨by simp [cutA, hi], by simp [cutZ, hi], by simp [cutB, hi]⟩
    go_enter Tryz.func83, Tryz.ntmps83
    go_wp2_with (first | (go_at_call 100; refine (Tryz.stringslite_Index_one _ _ _).mono ?_; rintro e w' ⟨rfl, rfl⟩))
    go_ret3
    exact ⟨by rw [HV.out.1, HV.out.2.1, HV.out.2.2]; rfl, Below.refl _ _⟩
  · obtain ⟨i, hk⟩ := Int.eq_ofNat_of_zero_le (show 0 ≤ Lib.indexByte s.data.toList c by omega)
    have hlt : i < s.size := by
      rcases indexByte_lt s.data.toList c with h | h
      · rw [hk] at h; rw [Lib.size_eq]; omega
      · rw [h] at hk; simp [Lib.indexByte] at hk
    have HV : Hid (cutA s c = s.extract 0 i ∧ cutZ s c = s.extract (i + 1) s.size ∧ cutB s c = true) := by
      refine ⟨?_, ?_, ?_⟩
      · unfold cutA; rw [if_neg hi, hk]; simp
      · unfold cutZ; rw [if_neg hi, hk]; simp
      · unfold cutB; rw [decide_eq_false hi]; rfl
    have HK : Hid (Lib.indexByte s.data.toList c = (i : Int)) := hk
    clear hi hk
    go_enter Tryz.func83, Tryz.ntmps83
    go_wp2_with fail
    refine (Tryz.stringslite_Index_one _ _ _).mono ?_
    rintro e w' ⟨rfl, rfl⟩
    rw [HK.out]
    go_wp2
    go_quiet (fail)
    go_wp2
    go_ret3
    exact ⟨by rw [HV.out.1, HV.out.2.1, HV.out.2.2]; rfl, below_drewN (Below.refl _ _) _⟩
end Go.Proofs.YtdpdpgnpkmfooaaGreatDoor
