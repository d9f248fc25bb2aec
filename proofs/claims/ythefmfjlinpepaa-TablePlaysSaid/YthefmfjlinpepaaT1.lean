/- The store's methods, where it is there. -/
import Derived.Test.YthefmfjlinpepaaT0
import Derived.Deep.RegionHeld3
namespace Go.Proofs.Ythefmfjlinpepaa
open Go.RowKit
set_option linter.unusedSimpArgs false
set_option linter.unusedVariables false

/-- The store as a pointer, and as a Store. -/
abbrev MP (P : Nat) : Value := .pointer (some ⟨P, 0, none⟩)
abbrev MI (P : Nat) : Value := .iface 23 (MP P)

theorem Array_any {w : World} {P : Nat} {most : Int} {a n nn : Nat} {sl : Sl} (h : Tb w P most a n nn sl) :
    Calls Try.prog 25 #[MP P] w fun e w' => e = .returned (.int .i64 a) ∧ w = w' := by
  obtain ⟨M, h1, _⟩ := h.ex
  obtain ⟨c0, c1, c2, c3⟩ := mb_cells h1
  clear h h1
  go_enter Try.func25, Try.ntmps25
  go_wp2
  go_ret
  exact ⟨rfl, rfl⟩
theorem Nodes_any {w : World} {P : Nat} {most : Int} {a n nn : Nat} {sl : Sl} (h : Tb w P most a n nn sl) :
    Calls Try.prog 26 #[MP P] w fun e w' => e = .returned (.int .i64 n) ∧ w = w' := by
  obtain ⟨M, h1, _⟩ := h.ex
  obtain ⟨c0, c1, c2, c3⟩ := mb_cells h1
  clear h h1
  go_enter Try.func26, Try.ntmps26
  go_wp2
  go_ret
  exact ⟨rfl, rfl⟩

theorem look_nil (i : Int) (w : World) : (Instr.lookup 65 (.map none) (.int .i64 i) false).run Try.prog w = .ok (iV (0, 0)) w := by kernel_rfl

set_option maxHeartbeats 400000 in
theorem Slot_any {w : World} {P : Nat} {most : Int} {a n nn : Nat} {sl : Sl} (h : Tb w P most a n nn sl) (i : Int) (hw : wf i) :
    Calls Try.prog 27 #[MP P, .int .i64 i] w fun e w' => e = .returned (iV (sl i)) ∧ Below w.heap.size w w' := by
  obtain ⟨M, h1, h2, h3⟩ := h.ex
  have k0 : Kept No w (w.alloc (.cells #[.int .i64 0, .int .i64 0] 33)) := (Kept.refl _ _).alloc _
  obtain ⟨c0, c1, c2, c3⟩ := mb_cells (k0.heap h1 id)
  have hlt := hp_lt h1
  have hl : (Instr.lookup 65 (.map M) (.int .i64 i) false).run Try.prog (w.alloc (.cells #[.int .i64 0, .int .i64 0] 33)) = .ok (iV (sl i)) (w.alloc (.cells #[.int .i64 0, .int .i64 0] 33)) := by
    cases M with
    | none => rw [(h2 rfl).2.2 i]; exact look_nil i _
    | some m => exact ((h3 m rfl).kept k0 id).look hw
  clear h h1 h2 h3
  go_enter Try.func27, Try.ntmps27
  go_wp2
  exact bodyPost_ret (v := iV (sl i)) (by simp [results, Try.results27, go_sem]) rfl ⟨rfl, ((Below.refl _ _).alloc (Nat.le_refl _) _)⟩

/-- The sum of which Mix takes the two halves. -/
def mixX (t n : Int) : Int := IntKind.u64.wrap (IntKind.u64.wrap (IntKind.u64.wrap n * 11400714819323198485) + IntKind.u64.wrap t)
/-- The answer of Mix. -/
def mixV (t n : Int) : Int := bits .xor .u32 (mixX t n / 4294967296 % 4294967296) (mixX t n % 4294967296)
set_option maxHeartbeats 400000 in
theorem Mix_any (t n : Int) (w : World) :
    Calls Try.prog 61 #[.int .i64 t, .int .i64 n] w fun e w' => e = .returned (.int .u32 (mixV t n)) ∧ w = w' := by
  go_enter Try.func61, Try.ntmps61
  go_wp2
  go_ret
  exact ⟨rfl, rfl⟩
theorem Hash_any (P : Nat) (t n : Int) (w : World) :
    Calls Try.prog 33 #[MP P, AV t n] w fun e w' => e = .returned (.int .u32 (mixV t n)) ∧ Below w.heap.size w w' := by
  go_enter Try.func33, Try.ntmps33
  go_wp2_with (go_at_call 61; refine (Mix_any _ _ _).mono ?_; rintro e w' ⟨rfl, rfl⟩)
  go_ret
  exact ⟨rfl, (Below.refl _ _).alloc (Nat.le_refl _) _⟩

theorem isNil_any (t n : Int) (w : World) : Calls Try.prog 50 #[AV t n] w fun e w' => e = .returned (.bool (t == 0)) ∧ Below w.heap.size w w' := by
  go_enter Try.func50, Try.ntmps50
  go_wp2
  go_ret
  exact ⟨rfl, (Below.refl _ _).alloc (Nat.le_refl _) _⟩
theorem word_any (n : Int) (w : World) : Calls Try.prog 34 #[.int .i64 n] w fun e w' => e = .returned (AV 4 n) ∧ Below w.heap.size w w' := by
  go_enter Try.func34, Try.ntmps34
  go_wp2
  exact bodyPost_ret (v := AV 4 n) (by simp [results, Try.results34, go_sem]) rfl ⟨rfl, ((Below.refl _ _).alloc (Nat.le_refl _) _)⟩
theorem NewMem_any (most : Int) (w : World) : Calls Try.prog 12 #[.int .i64 most] w fun e w' => e = .returned (MP w.heap.size) ∧ Tb w' w.heap.size most 0 0 0 (fun _ => (0, 0)) ∧ Kept No w w' := by
  go_enter Try.func12, Try.ntmps12
  go_wp2
  go_ret
  refine ⟨rfl, ⟨⟨none, World.alloc_heap_new w _, fun _ => ⟨rfl, rfl, fun _ => rfl⟩, fun m e => by cases e⟩, fun i h => absurd rfl h, by omega⟩, (Kept.refl _ _).alloc _⟩
end Go.Proofs.Ythefmfjlinpepaa
