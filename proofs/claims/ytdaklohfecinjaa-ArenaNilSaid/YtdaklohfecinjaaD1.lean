/- ArenaNil, walked. -/
import Derived.Test.YtdaklohfecinjaaC2
namespace Go.Proofs.Ytdaklohfecinjaa
open Go.RowKit
set_option linter.unusedSimpArgs false
set_option linter.unusedVariables false

set_option maxRecDepth 100000 in
set_option maxHeartbeats 1000000 in
theorem Nil_any (h n : Int) (w : World) : Calls Try.prog 10 #[.int .i64 h, .int .i64 n] w fun e w' => e = .returned (.bool true) ∧ Kept No w w' := by
  go_enter Try.func10, Try.ntmps10
  go_wp2_with (first | (go_at_call 27; refine (Alloc_nil _ _).mono ?_; rintro e w' ⟨rfl, rfl⟩) | (go_at_call 30; refine (Load_nil _ _ _).mono ?_; rintro e w' ⟨rfl, rfl⟩) | (go_at_call 14; refine (no_any _ _).mono ?_; rintro e w' ⟨rfl, rfl⟩) | (go_at_call 35; refine (Free_nil _ _).mono ?_; rintro e w' ⟨rfl, rfl⟩) | (go_at_call 34; refine (Resize_nil _ _ _).mono ?_; rintro e w' ⟨rfl, rfl⟩) | (go_at_call 28; refine (Store_nil _ _ _ _).mono ?_; rintro e w' ⟨rfl, rfl⟩))
  refine (Compact_nil w).mono ?_
  rintro e w1 ⟨rfl, h1⟩
  have H1 : Hid (Kept No w w1) := h1
  clear h1
  go_wp2_with (first | (go_at_call 18; refine (Len_nil _ _).mono ?_; rintro e w' ⟨rfl, rfl⟩) | (go_at_call 26; refine (Size_nil _).mono ?_; rintro e w' ⟨rfl, rfl⟩) | (go_at_call 24; refine (Live_nil _).mono ?_; rintro e w' ⟨rfl, rfl⟩) | (go_at_call 25; refine (Top_nil _).mono ?_; rintro e w' ⟨rfl, rfl⟩) | (go_at_call 32; refine (Gap_nil _).mono ?_; rintro e w' ⟨rfl, rfl⟩) | (go_at_call 23; refine (Handles_nil _).mono ?_; rintro e w' ⟨rfl, rfl⟩) | (go_at_call 20; refine (Addr_nil _ _).mono ?_; rintro e w' ⟨rfl, rfl⟩))
  refine (alive_any w1).mono ?_
  rintro e w2 ⟨rfl, h2⟩
  have H2 : Hid (Kept No w w2) := H1.out.trans h2
  clear h2
  go_wp2
  go_ret
  exact ⟨rfl, H2.out⟩

theorem ArenaNil_any (h n : Int) (w : World) : Calls Try.prog 10 #[.int .i64 h, .int .i64 n] w fun e w' => e = .returned (.bool true) ∧ Below w.heap.size w w' :=
  (Nil_any h n w).mono (fun e w' ⟨he, hk⟩ => ⟨he, hk.below (Nat.le_refl _) (fun k e => e.elim)⟩)
end Go.Proofs.Ytdaklohfecinjaa
