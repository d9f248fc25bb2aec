/- The chapter's example, walked. -/
import Derived.Test.YtdaklohfecinjaaC1
namespace Go.Proofs.Ytdaklohfecinjaa
open Go.RowKit
set_option linter.unusedSimpArgs false
set_option linter.unusedVariables false

theorem rl2 : rl (2 : Nat) = true := by decide
theorem rl3 : rl (3 : Nat) = true := by decide
theorem rl10 : rl (10 : Nat) = true := by decide
theorem wfn (n : Nat) (h : n ≤ 1000) : wf n := wf_of (by omega) (by omega)

theorem lt1 {P : Nat → Prop} (h0 : P 0) : ∀ i, i < 1 → P i := fun i hi => by
  have e : i = 0 := by omega
  rw [e]; exact h0
theorem lt2 {P : Nat → Prop} (h0 : P 0) (h1 : P 1) : ∀ i, i < 2 → P i := fun i hi => by
  rcases (by omega : i = 0 ∨ i = 1) with rfl | rfl <;> assumption
theorem lt3 {P : Nat → Prop} (h0 : P 0) (h1 : P 1) (h2 : P 2) : ∀ i, i < 3 → P i := fun i hi => by
  rcases (by omega : i = 0 ∨ i = 1 ∨ i = 2) with rfl | rfl | rfl <;> assumption
theorem lt4 {P : Nat → Prop} (h0 : P 0) (h1 : P 1) (h2 : P 2) (h3 : P 3) : ∀ i, i < 4 → P i := fun i hi => by
  rcases (by omega : i = 0 ∨ i = 1 ∨ i = 2 ∨ i = 3) with rfl | rfl | rfl | rfl <;> assumption
theorem below_h {hb : List (Nat × Nd)} {h0 : Nat} (h : ∀ i, i < h0 → 1 ≤ i → look hb (i : Nat) ≠ none) : ∀ i : Nat, 1 ≤ i → i < h0 → look hb i ≠ none := fun i h1 h2 => h i h2 h1

theorem a1 {w0 w : World} {A : Nat} (h : Re w0 w A 10 0 []) : Calls Try.prog 27 #[.pointer (some ⟨A, 0, none⟩), .int .i64 3] w fun e w' => e = .returned (.tuple #[.int .i64 1, .int .i64 0]) ∧ ∃ b, Re w0 w' A 10 1 [(1, ⟨b, 0, 3⟩)] :=
  h.alloc (by omega) 3 0 1 0 rl3 (by simp) (fun F => by simp [gap, nodes]) (fun F i hi => by omega) (by omega) rfl (fun i h1 h2 => by omega) (fun F hk => rfl)

theorem a2 {w0 w : World} {A b : Nat} (h : Re w0 w A 10 1 [(1, ⟨b, 0, 3⟩)]) : Calls Try.prog 27 #[.pointer (some ⟨A, 0, none⟩), .int .i64 3] w fun e w' => e = .returned (.tuple #[.int .i64 2, .int .i64 0]) ∧ ∃ c, Re w0 w' A 10 2 [(1, ⟨b, 0, 3⟩), (2, ⟨c, 3, 3⟩)] :=
  h.alloc (by omega) 3 1 2 3 rl3 (by simp) (fun F => by simp [gap, nodes]) (fun F => lt1 (by simp [gap, nodes])) (by omega) (by simp [look]) (below_h (lt2 (by simp) (by simp [look]))) (fun F hk => rfl)

theorem a3 {w0 w : World} {A b c : Nat} (h : Re w0 w A 10 2 [(1, ⟨b, 0, 3⟩), (2, ⟨c, 3, 3⟩)]) : Calls Try.prog 27 #[.pointer (some ⟨A, 0, none⟩), .int .i64 3] w fun e w' => e = .returned (.tuple #[.int .i64 3, .int .i64 0]) ∧ ∃ d, Re w0 w' A 10 3 [(1, ⟨b, 0, 3⟩), (2, ⟨c, 3, 3⟩), (3, ⟨d, 6, 3⟩)] :=
  h.alloc (by omega) 3 2 3 6 rl3 (by simp) (fun F => by simp [gap, nodes]) (fun F => lt2 (by simp [gap, nodes]) (by simp [gap, nodes])) (by omega) (by simp [look]) (below_h (lt3 (by simp) (by simp [look]) (by simp [look]))) (fun F hk => rfl)

theorem a4 {w0 w : World} {A b c d : Nat} (h : Re w0 w A 10 3 [(1, ⟨b, 0, 3⟩), (2, ⟨c, 3, 3⟩), (3, ⟨d, 6, 3⟩)]) : Calls Try.prog 35 #[.pointer (some ⟨A, 0, none⟩), .int .i64 2] w fun e w' => e = .returned (.int .i64 0) ∧ Re w0 w' A 10 3 [(1, ⟨b, 0, 3⟩), (3, ⟨d, 6, 3⟩)] :=
  h.free 1 2 (by simp) rfl (wfn 2 (by omega))

theorem a5 {w0 w : World} {A b d : Nat} (h : Re w0 w A 10 3 [(1, ⟨b, 0, 3⟩), (3, ⟨d, 6, 3⟩)]) : Calls Try.prog 27 #[.pointer (some ⟨A, 0, none⟩), .int .i64 2] w fun e w' => e = .returned (.tuple #[.int .i64 2, .int .i64 0]) ∧ ∃ c, Re w0 w' A 10 4 [(1, ⟨b, 0, 3⟩), (2, ⟨c, 3, 2⟩), (3, ⟨d, 6, 3⟩)] :=
  h.alloc (by omega) 2 1 2 3 rl2 (by simp) (fun F => by simp [gap, nodes]) (fun F => lt1 (by simp [gap, nodes])) (by omega) (by simp [look]) (below_h (lt2 (by simp) (by simp [look]))) (fun F hk => rfl)

theorem a6 {w0 w : World} {A b c d : Nat} (h : Re w0 w A 10 4 [(1, ⟨b, 0, 3⟩), (2, ⟨c, 3, 2⟩), (3, ⟨d, 6, 3⟩)]) : Calls Try.prog 27 #[.pointer (some ⟨A, 0, none⟩), .int .i64 2] w fun e w' => e = .returned (.tuple #[.int .i64 0, .int .i64 8]) ∧ Re w0 w' A 10 4 [(1, ⟨b, 0, 3⟩), (2, ⟨c, 3, 2⟩), (3, ⟨d, 6, 3⟩)] :=
  h.full 2 rl2 (fun F => lt4 (by simp [gap, nodes]) (by simp [gap, nodes]) (by simp [gap, nodes]) (by simp [gap, nodes]))

theorem a7 {w0 w : World} {A b c d : Nat} (h : Re w0 w A 10 4 [(1, ⟨b, 0, 3⟩), (2, ⟨c, 3, 2⟩), (3, ⟨d, 6, 3⟩)]) : Calls Try.prog 31 #[.pointer (some ⟨A, 0, none⟩)] w fun e w' => e = .returned (.int .i64 1) ∧ Re w0 w' A 10 4 [(1, ⟨b, 0, 3⟩), (2, ⟨c, 3, 2⟩), (3, ⟨d, 5, 3⟩)] :=
  h.compact.mono (fun e w' ⟨⟨F, he⟩, h'⟩ => ⟨by rw [he]; simp [mv, nodes, sumS], h'⟩)

theorem a8 {w0 w : World} {A b c d : Nat} (h : Re w0 w A 10 4 [(1, ⟨b, 0, 3⟩), (2, ⟨c, 3, 2⟩), (3, ⟨d, 5, 3⟩)]) : Calls Try.prog 27 #[.pointer (some ⟨A, 0, none⟩), .int .i64 2] w fun e w' => e = .returned (.tuple #[.int .i64 4, .int .i64 0]) ∧ ∃ x, Re w0 w' A 10 5 [(1, ⟨b, 0, 3⟩), (2, ⟨c, 3, 2⟩), (3, ⟨d, 5, 3⟩), (4, ⟨x, 8, 2⟩)] :=
  h.alloc (by omega) 2 3 4 8 rl2 (by simp) (fun F => by simp [gap, nodes]) (fun F => lt3 (by simp [gap, nodes]) (by simp [gap, nodes]) (by simp [gap, nodes])) (by omega) (by simp [look]) (below_h (lt4 (by simp) (by simp [look]) (by simp [look]) (by simp [look]))) (fun F hk => rfl)

set_option maxRecDepth 100000 in
set_option maxHeartbeats 1000000 in
theorem alive_any (w : World) : Calls Try.prog 15 #[] w fun e w' => e = .returned (.bool true) ∧ Kept No w w' := by
  go_enter Try.func15, Try.ntmps15
  go_wp2_with fail
  refine (Re.new 10 rl10 w).mono ?_
  rintro e w1 ⟨A, rfl, h1⟩
  have H1 : Hid (Re w w1 A 10 0 []) := h1
  clear h1
  go_wp2_with (go_at_call 14; refine (no_any _ _).mono ?_; rintro e w' ⟨rfl, rfl⟩)
  refine (a1 H1.out).mono ?_
  rintro e w2 ⟨rfl, b, h2⟩
  have H2 : Hid (Re w w2 A 10 1 [(1, ⟨b, 0, 3⟩)]) := h2
  clear h2
  go_wp2_with fail
  refine (a2 H2.out).mono ?_
  rintro e w3 ⟨rfl, c, h3⟩
  have H3 : Hid (Re w w3 A 10 2 [(1, ⟨b, 0, 3⟩), (2, ⟨c, 3, 3⟩)]) := h3
  clear h3
  go_wp2_with fail
  refine (a3 H3.out).mono ?_
  rintro e w4 ⟨rfl, d, h4⟩
  have H4 : Hid (Re w w4 A 10 3 [(1, ⟨b, 0, 3⟩), (2, ⟨c, 3, 3⟩), (3, ⟨d, 6, 3⟩)]) := h4
  clear h4
  go_wp2_with fail
  refine (a4 H4.out).mono ?_
  rintro e w5 ⟨rfl, h5⟩
  have H5 : Hid (Re w w5 A 10 3 [(1, ⟨b, 0, 3⟩), (3, ⟨d, 6, 3⟩)]) := h5
  clear h5
  go_wp2_with fail
  refine (a5 H5.out).mono ?_
  rintro e w6 ⟨rfl, c', h6⟩
  have H6 : Hid (Re w w6 A 10 4 [(1, ⟨b, 0, 3⟩), (2, ⟨c', 3, 2⟩), (3, ⟨d, 6, 3⟩)]) := h6
  clear h6
  go_wp2_with fail
  refine (a6 H6.out).mono ?_
  rintro e w7 ⟨rfl, h7⟩
  have H7 : Hid (Re w w7 A 10 4 [(1, ⟨b, 0, 3⟩), (2, ⟨c', 3, 2⟩), (3, ⟨d, 6, 3⟩)]) := h7
  clear h7
  go_wp2_with fail
  refine (a7 H7.out).mono ?_
  rintro e w8 ⟨rfl, h8⟩
  have H8 : Hid (Re w w8 A 10 4 [(1, ⟨b, 0, 3⟩), (2, ⟨c', 3, 2⟩), (3, ⟨d, 5, 3⟩)]) := h8
  clear h8
  go_wp2_with fail
  refine (a8 H8.out).mono ?_
  rintro e w9 ⟨rfl, x, h9⟩
  have H9 : Hid (Re w w9 A 10 5 [(1, ⟨b, 0, 3⟩), (2, ⟨c', 3, 2⟩), (3, ⟨d, 5, 3⟩), (4, ⟨x, 8, 2⟩)]) := h9
  clear h9
  go_wp2_with (go_at_call 14; refine (no_any _ _).mono ?_; rintro e w' ⟨rfl, rfl⟩)
  refine (H9.out.addr (3, ⟨d, 5, 3⟩) (by simp) (wfn 3 (by omega))).mono ?_
  rintro e w' ⟨rfl, rfl⟩
  go_wp2_with (go_at_call 14; refine (no_any _ _).mono ?_; rintro e w' ⟨rfl, rfl⟩)
  refine (H9.out.addr (4, ⟨x, 8, 2⟩) (by simp) (wfn 4 (by omega))).mono ?_
  rintro e w' ⟨rfl, rfl⟩
  go_wp2_with fail
  refine (H9.out.top 10 (fun F => rfl)).mono ?_
  rintro e w10 ⟨rfl, h10⟩
  have H10 : Hid (Kept No w w10) := h10
  clear h10
  go_wp2
  go_ret
  exact ⟨rfl, H10.out⟩
end Go.Proofs.Ytdaklohfecinjaa
