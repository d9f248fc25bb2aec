/- TextPacks, walked. -/
import Derived.Test.YtinhfgpcgbnhdaaT9
namespace Go.Proofs.Ytinhfgpcgbnhdaa
open Go.RowKit

theorem packs_len (s : ByteArray) : (packL (bl s)).length = (s.size + 7) / 8 := by simp [packL, bl_len]

/-- Both ways to tell how many cells there are agree. -/
theorem Cells_both (n : Int) (h : n ≤ 24000) : ∃ m : Int, (∀ w, Calls Try.prog 19 #[.int .i64 n] w fun e w' => e = .returned (.int .i64 m) ∧ w = w') ∧ (∀ w, Calls Try.prog 20 #[.int .i64 n] w fun e w' => e = .returned (.int .i64 m) ∧ w = w') := by
  by_cases h0 : n ≤ 0
  · exact ⟨0, fun w => Cells_neg n w (by omega), fun w => RCells_neg n w h0⟩
  · obtain ⟨k, rfl⟩ := Int.eq_ofNat_of_zero_le (show 0 ≤ n by omega)
    exact ⟨_, fun w => Cells_any k w (by omega), fun w => RCells_any k w (by omega)⟩

set_option maxHeartbeats 1000000 in
theorem TextPacks_any (s : ByteArray) (n : Int) (w : World) (hs : s.size ≤ maxLen) :
    Calls Try.prog 4 #[.string s, .int .i64 n] w fun e w' => e = .returned (.bool true) ∧ Below w.heap.size w w' := by
  unfold maxLen at hs
  by_cases hb : (3000 : Int) < (s.size : Int)
  · go_enter Try.func4, Try.ntmps4
    go_wp2_with (first | (go_at_call 11; refine (alive_any _).mono ?_; rintro e w1 ⟨rfl, hb1⟩))
    go_ret
    exact ⟨rfl, hb1⟩
  · by_cases hb2 : (24000 : Int) < n
    · go_enter Try.func4, Try.ntmps4
      go_wp2_with (first | (go_at_call 11; refine (alive_any _).mono ?_; rintro e w1 ⟨rfl, hb1⟩))
      go_ret
      exact ⟨rfl, hb1⟩
    · have h3 : s.size ≤ 3000 := by omega
      obtain ⟨m, hm1, hm2⟩ := Cells_both n (by omega)
      have HM : Hid ((∀ w, Calls Try.prog 19 #[.int .i64 n] w fun e w' => e = .returned (.int .i64 m) ∧ w = w') ∧ (∀ w, Calls Try.prog 20 #[.int .i64 n] w fun e w' => e = .returned (.int .i64 m) ∧ w = w')) := ⟨hm1, hm2⟩
      have HL : Hid ((packL (bl s)).length ≤ 100000) := by show _ ≤ _; rw [packs_len]; omega
      clear hm1 hm2
      go_enter Try.func4, Try.ntmps4
      go_wp2_with fail
      refine (Pack_any s _ h3).mono ?_
      rintro e w1 ⟨rfl, ho1, hb1⟩
      have HS1 : Hid (SliceIs w1 (.slice (some ⟨w.heap.size, 0, none⟩) ((s.size + 7) / 8) ((s.size + 7) / 8)) (packL (bl s))) := SliceIs_own ho1
      have HB1 : Hid (Below w.heap.size w w1) := hb1
      clear ho1 hb1
      go_wp2_with fail
      refine (RPack_any s _ h3).mono ?_
      rintro e w2 ⟨v2, rfl, ho2, hb2'⟩
      have HS2 : Hid (SliceIs w2 v2 (packL (bl s))) := SliceIs_own_any ho2
      have HS1' : Hid (SliceIs w2 (.slice (some ⟨w.heap.size, 0, none⟩) ((s.size + 7) / 8) ((s.size + 7) / 8)) (packL (bl s))) := HS1.out.later hb2'
      have HB2 : Hid (Below w.heap.size w w2) := HB1.out.trans (hb2'.mono HB1.out.size)
      clear ho2 hb2' HS1 HB1
      go_wp2_with fail
      refine (Same_any _ _ _ _ _ HS1'.out HS2.out HL.out).mono ?_
      rintro e w3 ⟨rfl, hb3⟩
      have HB3 : Hid (Below w.heap.size w w3) := HB2.out.trans (hb3.mono HB2.out.size)
      clear hb3 HB2 HS1' HS2
      rw [decide_eq_true (rfl : packL (bl s) = packL (bl s))]
      go_wp2_with (first | (go_at_call 11; refine (alive_any _).mono ?_; rintro e w4 ⟨rfl, hb4⟩) | (go_at_call 19; refine (HM.out.1 _).mono ?_; rintro e w' ⟨rfl, rfl⟩) | (go_at_call 20; refine (HM.out.2 _).mono ?_; rintro e w' ⟨rfl, rfl⟩))
      go_ret
      exact ⟨rfl, HB3.out.trans (hb4.mono HB3.out.size)⟩
end Go.Proofs.Ytinhfgpcgbnhdaa
