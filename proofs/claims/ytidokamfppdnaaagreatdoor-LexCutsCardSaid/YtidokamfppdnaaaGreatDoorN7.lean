/- The document's Read, and that both are alike. Out of the numbers' own texts, renumbered. -/
import Derived.Test.YtidokamfppdnaaaGreatDoorN6
namespace Go.Proofs.YtidokamfppdnaaaGreatDoor
open Go.RowKit
set_option linter.unusedSimpArgs false
set_option linter.unusedVariables false
/-- The text is no text of bits, for the document. -/
def noBits (s : ByteArray) : Prop := (¬ (s.size : Int) = 18) ∨ ((s.size : Int) = 18 ∧ ((s.extract 0 2).toList == [48, 102]) = false)
/-- T is the text without its sign, M tells whether it had one. -/
def signed (s T : ByteArray) (M : Bool) : Prop :=
  (M = false ∧ T = s ∧ s.size = 0) ∨ (M = false ∧ T = s ∧ ∃ h : 0 < s.size, ¬ ((s[0]'h).toNat : Int) = 45) ∨ (M = true ∧ Hid (T = s.extract 1 s.size) ∧ ∃ h : 0 < s.size, ((s[0]'h).toNat : Int) = 45)
set_option maxHeartbeats 2000000 in
theorem RRead_whole (s T : ByteArray) (M : Bool) (t m x : Int) (w : World) (hs : s.size ≤ 140737488351232) (hT : T.size ≤ 140737488351232) (hn : noBits s) (hm : signed s T M) (ha : allB T dec = true) (hr : wholeT T M = .tuple #[AV t m, .int .i64 x]) :
    Calls Tryz.prog 26 #[.string s] w fun e w' => e = .returned (.tuple #[AV t m, .int .i64 x]) ∧ Below w.heap.size w w' := by
  have AL : Hid (∀ w, Calls Tryz.prog 41 #[.string T] w fun e w' => e = .returned (.bool true) ∧ w' = w) := fun w => by
    have h := RAll_any T w hT; rw [ha] at h; exact h
  have WH : Hid (∀ w, Calls Tryz.prog 42 #[.string T, .bool M] w fun e w' => e = .returned (.tuple #[AV t m, .int .i64 x]) ∧ Below w.heap.size w w') := fun w => by
    have h := RWhole_any' T M w hT ha; rw [hr] at h; exact h
  clear ha hr
  rcases hn with h18 | ⟨h18, hex⟩ <;> rcases hm with ⟨rfl, rfl, h0⟩ | ⟨rfl, rfl, h0, hx⟩ | ⟨rfl, HT, h0, hx⟩ <;> try (exfalso; omega)
  all_goals
   (go_enter Tryz.func26, Tryz.ntmps26
    go_wp2_with fail
    try rw [← HT.out]
    refine (AL.out _).mono ?_
    rintro e w' ⟨rfl, rfl⟩
    go_wp2_with fail
    try rw [← HT.out]
    refine (WH.out _).mono ?_
    rintro e w1 ⟨rfl, hb1⟩
    obtain ⟨k5, k6, l5, l6, z1, HB⟩ := rbox hb1
    clear hb1
    go_wp2
    refine bodyPost_ret (v := .tuple #[AV t m, .int .i64 x]) (by simp [results, Tryz.results26, go_sem, k5, k6]) rfl ⟨rfl, ?_⟩
    exact (HB.out.setCell (by simp) _).setCell (by simp) _)
theorem ex_size (T : ByteArray) (i j : Nat) (h : T.size ≤ 140737488351232) : (T.extract i j).size ≤ 140737488351232 := by
  rw [ByteArray.size_extract]; omega
set_option maxHeartbeats 2000000 in
theorem RRead_bad1 (s T : ByteArray) (M : Bool) (w : World) (hs : s.size ≤ 140737488351232) (hT : T.size ≤ 140737488351232) (hn : noBits s) (hm : signed s T M) (ha : allB T dec = false) (hp : Lib.indexByte T.data.toList 46 = -1) :
    Calls Tryz.prog 26 #[.string s] w fun e w' => e = .returned (.tuple #[AV 0 0, .int .i64 6]) ∧ Below w.heap.size w w' := by
  have AL : Hid (∀ w, Calls Tryz.prog 41 #[.string T] w fun e w' => e = .returned (.bool false) ∧ w' = w) := fun w => by
    have h := RAll_any T w hT; rw [ha] at h; exact h
  have PT : Hid (∀ w, Calls Tryz.prog 43 #[.string T] w fun e w' => e = .returned (.int .i64 (-1)) ∧ w' = w) := fun w => by
    have h := RPoint_any T w hT; rw [hp] at h; exact h
  clear ha hp
  rcases hn with h18 | ⟨h18, hex⟩ <;> rcases hm with ⟨rfl, rfl, h0⟩ | ⟨rfl, rfl, h0, hx⟩ | ⟨rfl, HT, h0, hx⟩ <;> try (exfalso; omega)
  all_goals
   (go_enter Tryz.func26, Tryz.ntmps26
    go_wp2_with fail
    try rw [← HT.out]
    refine (AL.out _).mono ?_
    rintro e w' ⟨rfl, rfl⟩
    go_wp2_with fail
    try rw [← HT.out]
    refine (PT.out _).mono ?_
    rintro e w' ⟨rfl, rfl⟩
    go_wp2
    refine bodyPost_ret (v := .tuple #[AV 0 0, .int .i64 6]) (by simp [results, Tryz.results26, go_sem]) rfl ⟨rfl, ?_⟩
    exact (Below.refl _ _).alloc (Nat.le_refl _) _)
set_option maxHeartbeats 2000000 in
theorem RRead_bad2 (s T : ByteArray) (M : Bool) (w : World) (i : Nat) (hs : s.size ≤ 140737488351232) (hT : T.size ≤ 140737488351232) (hn : noBits s) (hm : signed s T M) (ha : allB T dec = false) (hp : Lib.indexByte T.data.toList 46 = i) (hi : i < T.size) (h1 : allB (T.extract 0 i) dec = false) :
    Calls Tryz.prog 26 #[.string s] w fun e w' => e = .returned (.tuple #[AV 0 0, .int .i64 6]) ∧ Below w.heap.size w w' := by
  have AL : Hid (∀ w, Calls Tryz.prog 41 #[.string T] w fun e w' => e = .returned (.bool false) ∧ w' = w) := fun w => by
    have h := RAll_any T w hT; rw [ha] at h; exact h
  have PT : Hid (∀ w, Calls Tryz.prog 43 #[.string T] w fun e w' => e = .returned (.int .i64 (i : Int)) ∧ w' = w) := fun w => by
    have h := RPoint_any T w hT; rw [hp] at h; exact h
  have A1 : Hid (∀ w, Calls Tryz.prog 41 #[.string (T.extract 0 i)] w fun e w' => e = .returned (.bool false) ∧ w' = w) := fun w => by
    have h := RAll_any (T.extract 0 i) w (ex_size _ _ _ hT); rw [h1] at h; exact h
  clear ha hp h1
  rcases hn with h18 | ⟨h18, hex⟩ <;> rcases hm with ⟨rfl, rfl, h0⟩ | ⟨rfl, rfl, h0, hx⟩ | ⟨rfl, HT, h0, hx⟩ <;> try (exfalso; omega)
  all_goals
   (go_enter Tryz.func26, Tryz.ntmps26
    go_wp2_with fail
    try rw [← HT.out]
    refine (AL.out _).mono ?_
    rintro e w' ⟨rfl, rfl⟩
    go_wp2_with fail
    try rw [← HT.out]
    refine (PT.out _).mono ?_
    rintro e w' ⟨rfl, rfl⟩
    go_wp2_with fail
    refine (A1.out _).mono ?_
    rintro e w' ⟨rfl, rfl⟩
    go_wp2
    refine bodyPost_ret (v := .tuple #[AV 0 0, .int .i64 6]) (by simp [results, Tryz.results26, go_sem]) rfl ⟨rfl, ?_⟩
    exact (Below.refl _ _).alloc (Nat.le_refl _) _)
set_option maxHeartbeats 2000000 in
theorem RRead_bad3 (s T : ByteArray) (M : Bool) (w : World) (i : Nat) (hs : s.size ≤ 140737488351232) (hT : T.size ≤ 140737488351232) (hn : noBits s) (hm : signed s T M) (ha : allB T dec = false) (hp : Lib.indexByte T.data.toList 46 = i) (hi : i < T.size) (h1 : allB (T.extract 0 i) dec = true) (h2 : allB (T.extract (i + 1) T.size) dec = false) :
    Calls Tryz.prog 26 #[.string s] w fun e w' => e = .returned (.tuple #[AV 0 0, .int .i64 6]) ∧ Below w.heap.size w w' := by
  have AL : Hid (∀ w, Calls Tryz.prog 41 #[.string T] w fun e w' => e = .returned (.bool false) ∧ w' = w) := fun w => by
    have h := RAll_any T w hT; rw [ha] at h; exact h
  have PT : Hid (∀ w, Calls Tryz.prog 43 #[.string T] w fun e w' => e = .returned (.int .i64 (i : Int)) ∧ w' = w) := fun w => by
    have h := RPoint_any T w hT; rw [hp] at h; exact h
  have A1 : Hid (∀ w, Calls Tryz.prog 41 #[.string (T.extract 0 i)] w fun e w' => e = .returned (.bool true) ∧ w' = w) := fun w => by
    have h := RAll_any (T.extract 0 i) w (ex_size _ _ _ hT); rw [h1] at h; exact h
  have A2 : Hid (∀ w, Calls Tryz.prog 41 #[.string (T.extract (i + 1) T.size)] w fun e w' => e = .returned (.bool false) ∧ w' = w) := fun w => by
    have h := RAll_any (T.extract (i + 1) T.size) w (ex_size _ _ _ hT); rw [h2] at h; exact h
  clear ha hp h1 h2
  rcases hn with h18 | ⟨h18, hex⟩ <;> rcases hm with ⟨rfl, rfl, h0⟩ | ⟨rfl, rfl, h0, hx⟩ | ⟨rfl, HT, h0, hx⟩ <;> try (exfalso; omega)
  all_goals
   (go_enter Tryz.func26, Tryz.ntmps26
    go_wp2_with fail
    try rw [← HT.out]
    refine (AL.out _).mono ?_
    rintro e w' ⟨rfl, rfl⟩
    go_wp2_with fail
    try rw [← HT.out]
    refine (PT.out _).mono ?_
    rintro e w' ⟨rfl, rfl⟩
    go_wp2_with fail
    refine (A1.out _).mono ?_
    rintro e w' ⟨rfl, rfl⟩
    go_wp2_with fail
    refine (A2.out _).mono ?_
    rintro e w' ⟨rfl, rfl⟩
    go_wp2
    refine bodyPost_ret (v := .tuple #[AV 0 0, .int .i64 6]) (by simp [results, Tryz.results26, go_sem]) rfl ⟨rfl, ?_⟩
    exact (Below.refl _ _).alloc (Nat.le_refl _) _)
set_option maxHeartbeats 2000000 in
theorem RRead_range (s T : ByteArray) (M : Bool) (w : World) (i : Nat) (hs : s.size ≤ 140737488351232) (hT : T.size ≤ 140737488351232) (hn : noBits s) (hm : signed s T M) (ha : allB T dec = false) (hp : Lib.indexByte T.data.toList 46 = i) (hi : i < T.size) (h1 : allB (T.extract 0 i) dec = true) (h2 : allB (T.extract (i + 1) T.size) dec = true) (hz : (16 : Int) < (T.size : Int)) :
    Calls Tryz.prog 26 #[.string s] w fun e w' => e = .returned (.tuple #[AV 0 0, .int .i64 7]) ∧ Below w.heap.size w w' := by
  have AL : Hid (∀ w, Calls Tryz.prog 41 #[.string T] w fun e w' => e = .returned (.bool false) ∧ w' = w) := fun w => by
    have h := RAll_any T w hT; rw [ha] at h; exact h
  have PT : Hid (∀ w, Calls Tryz.prog 43 #[.string T] w fun e w' => e = .returned (.int .i64 (i : Int)) ∧ w' = w) := fun w => by
    have h := RPoint_any T w hT; rw [hp] at h; exact h
  have A1 : Hid (∀ w, Calls Tryz.prog 41 #[.string (T.extract 0 i)] w fun e w' => e = .returned (.bool true) ∧ w' = w) := fun w => by
    have h := RAll_any (T.extract 0 i) w (ex_size _ _ _ hT); rw [h1] at h; exact h
  have A2 : Hid (∀ w, Calls Tryz.prog 41 #[.string (T.extract (i + 1) T.size)] w fun e w' => e = .returned (.bool true) ∧ w' = w) := fun w => by
    have h := RAll_any (T.extract (i + 1) T.size) w (ex_size _ _ _ hT); rw [h2] at h; exact h
  clear ha hp h1 h2
  rcases hn with h18 | ⟨h18, hex⟩ <;> rcases hm with ⟨rfl, rfl, h0⟩ | ⟨rfl, rfl, h0, hx⟩ | ⟨rfl, HT, h0, hx⟩ <;> try (exfalso; omega)
  all_goals
   (go_enter Tryz.func26, Tryz.ntmps26
    go_wp2_with fail
    try rw [← HT.out]
    refine (AL.out _).mono ?_
    rintro e w' ⟨rfl, rfl⟩
    go_wp2_with fail
    try rw [← HT.out]
    refine (PT.out _).mono ?_
    rintro e w' ⟨rfl, rfl⟩
    go_wp2_with fail
    refine (A1.out _).mono ?_
    rintro e w' ⟨rfl, rfl⟩
    go_wp2_with fail
    refine (A2.out _).mono ?_
    rintro e w' ⟨rfl, rfl⟩
    go_wp2
    refine bodyPost_ret (v := .tuple #[AV 0 0, .int .i64 7]) (by simp [results, Tryz.results26, go_sem]) rfl ⟨rfl, ?_⟩
    exact (Below.refl _ _).alloc (Nat.le_refl _) _)
end Go.Proofs.YtidokamfppdnaaaGreatDoor
