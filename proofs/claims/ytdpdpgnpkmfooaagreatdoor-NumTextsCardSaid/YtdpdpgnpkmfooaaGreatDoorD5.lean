/- The document's Read. -/
import Derived.Test.YtdpdpgnpkmfooaaGreatDoorD4
namespace Go.Proofs.YtdpdpgnpkmfooaaGreatDoor
open Go.RowKit

/-- The text is no text of bits, for the document. -/
def noBits (s : ByteArray) : Prop := (¬ (s.size : Int) = 18) ∨ ((s.size : Int) = 18 ∧ ((s.extract 0 2).toList == [48, 102]) = false)
/-- T is the text without its sign, M tells whether it had one. -/
def signed (s T : ByteArray) (M : Bool) : Prop :=
  (M = false ∧ T = s ∧ s.size = 0) ∨ (M = false ∧ T = s ∧ ∃ h : 0 < s.size, ¬ ((s[0]'h).toNat : Int) = 45) ∨ (M = true ∧ Hid (T = s.extract 1 s.size) ∧ ∃ h : 0 < s.size, ((s[0]'h).toNat : Int) = 45)

set_option maxHeartbeats 2000000 in
theorem RRead_whole (s T : ByteArray) (M : Bool) (t m x : Int) (w : World) (hs : s.size ≤ 140737488351232) (hT : T.size ≤ 140737488351232) (hn : noBits s) (hm : signed s T M) (ha : allB T dec = true) (hr : wholeT T M = .tuple #[AV t m, .int .i64 x]) :
    Calls Tryz.prog 35 #[.string s] w fun e w' => e = .returned (.tuple #[AV t m, .int .i64 x]) ∧ Below w.heap.size w w' := by
  have AL : Hid (∀ w, Calls Tryz.prog 60 #[.string T] w fun e w' => e = .returned (.bool true) ∧ w' = w) := fun w => by
    have h := RAll_any T w hT; rw [ha] at h; exact h
  have WH : Hid (∀ w, Calls Tryz.prog 61 #[.string T, .bool M] w fun e w' => e = .returned (.tuple #[AV t m, .int .i64 x]) ∧ Below w.heap.size w w') := fun w => by
    have h := RWhole_any' T M w hT ha; rw [hr] at h; exact h
  clear ha hr
  rcases hn with h18 | ⟨h18, hex⟩ <;> rcases hm with ⟨rfl, rfl, h0⟩ | ⟨rfl, rfl, h0, hx⟩ | ⟨rfl, HT, h0, hx⟩ <;> try (exfalso; omega)
  all_goals
   (go_enter Tryz.func35, Tryz.ntmps35
    go_wp2_with fail
    try rw [← HT.out]
    refine (AL.out _).mono ?_
    rintro e w' ⟨rfl, rfl⟩
    go_wp2_with fail
    try rw [← HT.out]
    refine (WH.out _).mono ?_
    rintro e w1 ⟨rfl, hb1⟩
    obtain ⟨k5, k6, l5, l6, z1, HB⟩ := rbox hb1
    clear hb1
    go_wp2
    refine bodyPost_ret (v := .tuple #[AV t m, .int .i64 x]) (by simp [results, Tryz.results35, go_sem, k5, k6]) rfl ⟨rfl, ?_⟩
    exact (HB.out.setCell (by simp) _).setCell (by simp) _)
end Go.Proofs.YtdpdpgnpkmfooaaGreatDoor
