/- Read of a float's bits, and of an int's digits. -/
import Derived.Test.YtdpdpgnpkmfooaaGreatDoorB1
namespace Go.Proofs.YtdpdpgnpkmfooaaGreatDoor
open Go.RowKit

def hexd : ByteArray := ⟨#[48, 49, 50, 51, 52, 53, 54, 55, 56, 57, 97, 98, 99, 100, 101, 102]⟩
theorem inB_nat : ∀ n, n < 256 → inB hexd (UInt8.ofNat n) = isHex (UInt8.ofNat n) := by decide +kernel
theorem inB_hex (c : UInt8) : inB hexd c = isHex c := by
  have h := inB_nat c.toNat (UInt8.toNat_lt c)
  have e : UInt8.ofNat c.toNat = c := UInt8.ofNat_toNat
  rwa [e] at h
theorem allB_hex (s : ByteArray) (h : allB s hexd = true) : ∀ c ∈ s.data.toList, isHex c = true := by
  intro c hc
  unfold allB at h
  rw [Bool.and_eq_true, List.all_eq_true] at h
  rw [← inB_hex]; exact h.1 c hc
theorem allB_of_hex (s : ByteArray) (h0 : 0 < s.size) (h : ∀ c ∈ s.data.toList, isHex c = true) : allB s hexd = true := by
  unfold allB
  rw [Bool.and_eq_true, List.all_eq_true]
  refine ⟨fun c hc => by rw [inB_hex]; exact h c hc, ?_⟩
  rw [Lib.size_eq] at h0
  cases hl : s.data.toList with
  | nil => rw [hl] at h0; simp at h0
  | cons a l => rfl

/-- What readBits gives. -/
def bitsT (s : ByteArray) : Value :=
  if s.size = 16 ∧ allB s hexd = true ∧ isNum 3 (wrap64 (hexV s.data.toList)) = true then .tuple #[AV 3 (wrap64 (hexV s.data.toList)), .int .i64 0] else .tuple #[AV 0 0, .int .i64 6]

set_option maxHeartbeats 2000000 in
theorem readBits_any (s : ByteArray) (w : World) (hs : s.size ≤ maxLen) :
    Calls Tryz.prog 54 #[.string s] w fun e w' => e = .returned (bitsT s) ∧ Below w.heap.size w w' := by
  by_cases h16 : s.size = 16
  · have h16' : (s.size : Int) = 16 := by omega
    cases ha : allB s hexd
    · have HT : Hid (bitsT s = .tuple #[AV 0 0, .int .i64 6]) := by show _ = _; unfold bitsT; rw [if_neg]; rintro ⟨_, h, _⟩; rw [ha] at h; cases h
      go_enter Tryz.func54, Tryz.ntmps54
      go_wp2_with (first | (go_at_call 56; refine (allOf_any s hexd _ hs).mono ?_; rintro e w' ⟨rfl, rfl⟩))
      refine bodyPost_ret (v := .tuple #[AV 0 0, .int .i64 6]) (by simp [results, Tryz.results54, go_sem]) rfl ⟨by rw [HT.out], ?_⟩
      exact (Below.refl _ _).alloc (Nat.le_refl _) _
    · have HH := allB_hex s ha
      have P1 : Hid (∀ w, Calls Tryz.prog 82 #[.string s, .int .i64 16, .int .i64 64] w fun e w' => e = .returned (.tuple #[.int .u64 (hexV s.data.toList), .nilIface]) ∧ Below w.heap.size w w') := fun w => ParseUint16P s h16 HH w
      obtain ⟨V, hV⟩ : ∃ V : Nat, V = hexV s.data.toList := ⟨_, rfl⟩
      obtain ⟨M, hM⟩ : ∃ M : Int, M = wrap64 (V : Int) := ⟨_, rfl⟩
      have m1 : -9223372036854775808 ≤ M ∧ M ≤ 9223372036854775807 := by rw [hM]; unfold wrap64; omega
      rw [← hV] at P1
      cases hi : isNum 3 M
      · have HT : Hid (bitsT s = .tuple #[AV 0 0, .int .i64 6]) := by
          show _ = _; unfold bitsT; rw [if_neg]; rintro ⟨_, _, h⟩; rw [← hV, ← hM, hi] at h; cases h
        have IS : Hid (∀ w, Calls Tryz.prog 15 #[AV 3 M] w fun e w' => e = .returned (.bool false) ∧ Below w.heap.size w w') := fun w => by
          have h := Is_any 3 M w m1.1 m1.2; rw [hi] at h; exact h
        have OB : Hid (∀ w, Calls Tryz.prog 40 #[.int .u64 (V : Int)] w fun e w' => e = .returned (AV 3 M) ∧ Below w.heap.size w w') := fun w => by
          rw [hM]; exact ofBits_any _ w
        clear hM hV HH hi m1
        go_enter Tryz.func54, Tryz.ntmps54
        go_wp2_with (first | (go_at_call 56; refine (allOf_any s hexd _ hs).mono ?_; rintro e w' ⟨rfl, rfl⟩))
        refine (P1.out _).mono ?_
        rintro e w1 ⟨rfl, hb1⟩
        obtain ⟨k5, k6, l5, l6, z1, HB⟩ := rbox hb1
        clear hb1
        go_wp2_with fail
        refine (OB.out _).mono ?_
        rintro e w2 ⟨rfl, hb2⟩
        have k5 := cell_later hb2 k5
        have k6 := cell_later hb2 k6
        have l5 := fro_later hb2 l5 z1
        have l6 := fro_later hb2 l6 z1
        have HB := chainB HB hb2
        have z2 : w.heap.size < w2.heap.size := by have := hb2.size; omega
        clear hb2
        go_wp2_with fail
        refine (IS.out _).mono ?_
        rintro e w3 ⟨rfl, hb3⟩
        have a5 := cell_later hb3 (show (w2.alloc (.cells #[.int .i64 3, .int .i64 M] 23)).cell? ⟨w2.heap.size, 0, none⟩ = some (.int .i64 3) by simp [go_sem])
        have a6 := cell_later hb3 (show (w2.alloc (.cells #[.int .i64 3, .int .i64 M] 23)).cell? ⟨w2.heap.size, 1, none⟩ = some (.int .i64 M) by simp [go_sem])
        have k5 := cell_later hb3 (al k5 z2)
        have k6 := cell_later hb3 (al k6 z2)
        have hA : Below w2.heap.size w2 (w2.alloc (.cells #[.int .i64 3, .int .i64 M] 23)) := (Below.refl _ _).alloc (Nat.le_refl _) _
        have z3 : w.heap.size < (w2.alloc (.cells #[.int .i64 3, .int .i64 M] 23)).heap.size := Nat.lt_of_lt_of_le z2 hA.size
        have l5 := fro_later hb3 (fro_later hA l5 z2) z3
        have l6 := fro_later hb3 (fro_later hA l6 z2) z3
        have HB := chainB (chainB HB hA) hb3
        clear hA hb3 z3
        go_wp2
        refine bodyPost_ret (v := .tuple #[AV 0 0, .int .i64 6]) (by simp [results, Tryz.results54, go_sem, k5, k6]) rfl ⟨by rw [HT.out], ?_⟩
        exact (HB.out.setCell (by simp) _).setCell (by simp) _
      · have HT : Hid (bitsT s = .tuple #[AV 3 M, .int .i64 0]) := by
          show _ = _; unfold bitsT; rw [if_pos ⟨h16, ha, by rw [← hV, ← hM]; exact hi⟩, ← hV, ← hM]
        have IS : Hid (∀ w, Calls Tryz.prog 15 #[AV 3 M] w fun e w' => e = .returned (.bool true) ∧ Below w.heap.size w w') := fun w => by
          have h := Is_any 3 M w m1.1 m1.2; rw [hi] at h; exact h
        have OB : Hid (∀ w, Calls Tryz.prog 40 #[.int .u64 (V : Int)] w fun e w' => e = .returned (AV 3 M) ∧ Below w.heap.size w w') := fun w => by
          rw [hM]; exact ofBits_any _ w
        clear hM hV HH hi m1
        go_enter Tryz.func54, Tryz.ntmps54
        go_wp2_with (first | (go_at_call 56; refine (allOf_any s hexd _ hs).mono ?_; rintro e w' ⟨rfl, rfl⟩))
        refine (P1.out _).mono ?_
        rintro e w1 ⟨rfl, hb1⟩
        obtain ⟨k5, k6, l5, l6, z1, HB⟩ := rbox hb1
        clear hb1
        go_wp2_with fail
        refine (OB.out _).mono ?_
        rintro e w2 ⟨rfl, hb2⟩
        have k5 := cell_later hb2 k5
        have k6 := cell_later hb2 k6
        have l5 := fro_later hb2 l5 z1
        have l6 := fro_later hb2 l6 z1
        have HB := chainB HB hb2
        have z2 : w.heap.size < w2.heap.size := by have := hb2.size; omega
        clear hb2
        go_wp2_with fail
        refine (IS.out _).mono ?_
        rintro e w3 ⟨rfl, hb3⟩
        have a5 := cell_later hb3 (show (w2.alloc (.cells #[.int .i64 3, .int .i64 M] 23)).cell? ⟨w2.heap.size, 0, none⟩ = some (.int .i64 3) by simp [go_sem])
        have a6 := cell_later hb3 (show (w2.alloc (.cells #[.int .i64 3, .int .i64 M] 23)).cell? ⟨w2.heap.size, 1, none⟩ = some (.int .i64 M) by simp [go_sem])
        have k5 := cell_later hb3 (al k5 z2)
        have k6 := cell_later hb3 (al k6 z2)
        have hA : Below w2.heap.size w2 (w2.alloc (.cells #[.int .i64 3, .int .i64 M] 23)) := (Below.refl _ _).alloc (Nat.le_refl _) _
        have z3 : w.heap.size < (w2.alloc (.cells #[.int .i64 3, .int .i64 M] 23)).heap.size := Nat.lt_of_lt_of_le z2 hA.size
        have l5 := fro_later hb3 (fro_later hA l5 z2) z3
        have l6 := fro_later hb3 (fro_later hA l6 z2) z3
        have HB := chainB (chainB HB hA) hb3
        clear hA hb3 z3
        go_wp2
        refine bodyPost_ret (v := .tuple #[AV 3 M, .int .i64 0]) (by simp [results, Tryz.results54, go_sem, k5, k6]) rfl ⟨by rw [HT.out], ?_⟩
        exact (HB.out.setCell (by simp) _).setCell (by simp) _
  · have HT : Hid (bitsT s = .tuple #[AV 0 0, .int .i64 6]) := by show _ = _; unfold bitsT; rw [if_neg]; rintro ⟨h, _⟩; exact h16 h
    have hne : ((s.size : Int) != 16) = true := by simp; omega
    go_enter Tryz.func54, Tryz.ntmps54
    go_wp2
    refine bodyPost_ret (v := .tuple #[AV 0 0, .int .i64 6]) (by simp [results, Tryz.results54, go_sem]) rfl ⟨by rw [HT.out], ?_⟩
    exact (Below.refl _ _).alloc (Nat.le_refl _) _
end Go.Proofs.YtdpdpgnpkmfooaaGreatDoor
