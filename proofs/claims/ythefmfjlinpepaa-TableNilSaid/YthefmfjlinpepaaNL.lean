/- A store that is not there. -/
import Derived.Test.YthefmfjlinpepaaP1
namespace Go.Proofs.Ythefmfjlinpepaa
open Go.RowKit Go.Shelf
set_option linter.unusedSimpArgs false
set_option linter.unusedVariables false
attribute [local go_sem] Oper.semAt_some

theorem Array_nil (w : World) : Calls Try.prog 25 #[.pointer none] w fun e w' => e = .returned (.int .i64 0) ∧ w = w' := by
  go_enter Try.func25, Try.ntmps25
  go_wp2
  go_ret
  exact ⟨rfl, rfl⟩
theorem Nodes_nil (w : World) : Calls Try.prog 26 #[.pointer none] w fun e w' => e = .returned (.int .i64 0) ∧ w = w' := by
  go_enter Try.func26, Try.ntmps26
  go_wp2
  go_ret
  exact ⟨rfl, rfl⟩
theorem Resize_nil (a n : Int) (w : World) : Calls Try.prog 32 #[.pointer none, .int .i64 a, .int .i64 n] w fun e w' => e = .returned (.int .i64 2) ∧ w = w' := by
  go_enter Try.func32, Try.ntmps32
  go_wp2
  go_ret
  exact ⟨rfl, rfl⟩
theorem Slot_nil (i : Int) (w : World) : Calls Try.prog 27 #[.pointer none, .int .i64 i] w fun e w' => e = .returned (iV (0, 0)) ∧ Below w.heap.size w w' := by
  go_enter Try.func27, Try.ntmps27
  go_wp2
  exact bodyPost_ret (v := iV (0, 0)) (by simp [results, Try.results27, go_sem]) rfl ⟨rfl, (((Below.refl _ _).alloc (Nat.le_refl _) _))⟩
theorem Hash_nil (t x : Int) (w : World) : Calls Try.prog 33 #[.pointer none, AV t x] w fun e w' => e = .returned (.int .u32 0) ∧ Below w.heap.size w w' := by
  go_enter Try.func33, Try.ntmps33
  go_wp2
  go_ret
  exact ⟨rfl, (Below.refl _ _).alloc (Nat.le_refl _) _⟩
theorem SetSlot_nil (i t x : Int) (w : World) : Calls Try.prog 31 #[.pointer none, .int .i64 i, AV t x] w fun e w' => e = .returned (.tuple #[]) ∧ Below w.heap.size w w' := by
  by_cases h : i < 0
  · go_enter Try.func31, Try.ntmps31
    go_wp2
    refine bodyPost_ret (results_none rfl _ _ _) rfl ?_
    exact ⟨rfl, (Below.refl _ _).alloc (Nat.le_refl _) _⟩
  · go_enter Try.func31, Try.ntmps31
    go_wp2_with (first | (go_at_call 25; refine (Array_nil _).mono ?_; rintro e w' ⟨rfl, rfl⟩) | (go_at_call 26; refine (Nodes_nil _).mono ?_; rintro e w' ⟨rfl, rfl⟩))
    refine bodyPost_ret (results_none rfl _ _ _) rfl ?_
    exact ⟨rfl, (Below.refl _ _).alloc (Nat.le_refl _) _⟩
theorem Get_nil (t x : Int) (w : World) : Calls Try.prog 19 #[.nilIface, AV t x] w fun e w' => e = .returned (iV (0, 0)) ∧ Below w.heap.size w w' := by
  go_enter Try.func19, Try.ntmps19
  go_wp2
  exact bodyPost_ret (v := iV (0, 0)) (by simp [results, Try.results19, go_sem]) rfl ⟨rfl, (((Below.refl _ _).alloc (Nat.le_refl _) _).alloc (by simp) _)⟩

theorem Set_nil (t x t' x' : Int) (w : World) : Calls Try.prog 22 #[.nilIface, AV t x, AV t' x'] w fun e w' => e = .returned (.int .i64 2) ∧ Below w.heap.size w w' := by
  go_enter Try.func22, Try.ntmps22
  go_wp2
  go_ret
  exact ⟨rfl, (((Below.refl _ _).alloc (Nat.le_refl _) _).alloc (by simp) _).alloc (by simp; omega) _⟩
theorem Kill_nil (i : Int) (w : World) : Calls Try.prog 30 #[.nilIface, .int .i64 i] w fun e w' => e = .returned (.tuple #[]) ∧ w = w' := by
  go_enter Try.func30, Try.ntmps30
  go_wp2
  refine bodyPost_ret (results_none rfl _ _ _) rfl ?_
  exact ⟨rfl, rfl⟩
theorem Next_nil (t x : Int) (w : World) : Calls Try.prog 20 #[.nilIface, AV t x] w fun e w' => e = .returned (.tuple #[iV (0, 0), iV (0, 0), .int .i64 2]) ∧ Kept No w w' := by
  go_enter Try.func20, Try.ntmps20
  go_wp2
  exact bodyPost_ret (v := .tuple #[iV (0, 0), iV (0, 0), .int .i64 2]) (by simp [results, Try.results20, go_sem]) rfl ⟨rfl, ((((Kept.refl _ _).alloc _).alloc _).alloc _).alloc _⟩
theorem Len_nil (w : World) : Calls Try.prog 23 #[.nilIface] w fun e w' => e = .returned (.int .i64 0) ∧ Kept No w w' := by
  go_enter Try.func23, Try.ntmps23
  go_wp2_with fail
  go_loopw [3] (fun c wr => c = .int .i64 0 ∧ Hid (Kept No w wr)) (fun _ _ => 0)
  case atStart => exact ⟨rfl, Kept.refl _ _⟩
  case round =>
    obtain ⟨rfl, HK⟩ := hrel
    go_wp2_with fail
    refine (Int_any _ _).mono ?_
    rintro e w1 ⟨rfl, hb1⟩
    have HK1 : Hid (Kept No w w1) := HK.out.trans (Kept.of_below hb1)
    clear hb1
    go_wp2_with fail
    refine (Get_nil _ _ _).mono ?_
    rintro e w2 ⟨rfl, hb2⟩
    have HK2 : Hid (Kept No w w2) := HK1.out.trans (Kept.of_below hb2)
    clear hb2
    go_wp2_with fail
    refine (isNil_any 0 0 _).mono ?_
    rintro e w3 ⟨rfl, hb3⟩
    have HK3 : Hid (Kept No w w3) := HK2.out.trans (Kept.of_below hb3)
    clear hb3
    go_wp2_with fail
    go_ret
    exact ⟨rfl, HK3.out⟩
end Go.Proofs.Ythefmfjlinpepaa
