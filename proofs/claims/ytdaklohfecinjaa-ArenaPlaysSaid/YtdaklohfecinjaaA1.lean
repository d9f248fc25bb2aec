/- Small functions of package arena. -/
import Derived.Test.YtdaklohfecinjaaA0
import Derived.Deep.QuietTactic
import Derived.BigQuiet
namespace Go.Proofs.Ytdaklohfecinjaa
open Go.RowKit

set_option maxHeartbeats 400000 in
theorem no_any (n : Int) (w : World) :
    Calls Try.prog 14 #[.int .i64 n] w fun e w' => e = .returned (.int .i64 n) ∧ w = w' := by
  go_enter Try.func14, Try.ntmps14
  go_wp2
  go_ret
  exact ⟨rfl, rfl⟩

/-- A right length. -/
def rl (n : Int) : Bool := decide (1 ≤ n) && decide (n ≤ 65536)
theorem rl_true {n : Int} (h : rl n = true) : 1 ≤ n ∧ n ≤ 65536 := by unfold rl at h; simpa using h
theorem rl_false {n : Int} (h : rl n = false) : n < 1 ∨ 65536 < n := by
  unfold rl at h
  by_cases h1 : 1 ≤ n
  · by_cases h2 : n ≤ 65536
    · simp [h1, h2] at h
    · exact Or.inr (by omega)
  · exact Or.inl (by omega)

set_option maxHeartbeats 400000 in
theorem right_any (n : Int) (w : World) :
    Calls Try.prog 38 #[.int .i64 n] w fun e w' => e = .returned (.bool (rl n)) ∧ w = w' := by
  by_cases h1 : 1 ≤ n
  · have e : rl n = decide (n ≤ 65536) := by simp [rl, h1]
    rw [e]; clear e
    go_enter Try.func38, Try.ntmps38
    go_wp2
    go_ret
    exact ⟨rfl, rfl⟩
  · have e : rl n = false := by simp [rl, h1]
    rw [e]; clear e
    have h2 : decide (1 ≤ n) = false := by simpa using h1
    go_enter Try.func38, Try.ntmps38
    go_wp2
    go_ret
    exact ⟨rfl, rfl⟩

set_option maxHeartbeats 400000 in
theorem made_nil (w : World) :
    Calls Try.prog 52 #[.pointer none] w fun e w' => e = .returned (.bool false) ∧ w = w' := by
  go_enter Try.func52, Try.ntmps52
  go_wp2
  go_ret
  exact ⟨rfl, rfl⟩

set_option maxHeartbeats 400000 in
theorem made_any {A C M F f size least : Nat} (w : World) (h : w.heap[A]? = some (ar C M F f size least)) :
    Calls Try.prog 52 #[.pointer (some ⟨A, 0, none⟩)] w fun e w' => e = .returned (.bool true) ∧ w = w' := by
  obtain ⟨h0, h1, h2, h3, h4⟩ := ar_cells h
  clear h
  go_enter Try.func52, Try.ntmps52
  go_wp2
  go_ret
  exact ⟨rfl, rfl⟩

set_option maxHeartbeats 400000 in
theorem has_any {p a s : Nat} {ah bh : Option Nat} (i : Int) (w : World) (h : w.heap[p]? = some (nd a s ah bh)) :
    Calls Try.prog 61 #[.pointer (some ⟨p, 0, none⟩), .int .i64 i] w fun e w' => e = .returned (.bool (decide (0 ≤ i) && decide (i < s))) ∧ w = w' := by
  obtain ⟨h0, h1, h2, h3⟩ := nd_cells h
  clear h
  by_cases hi : 0 ≤ i
  · have e : (decide (0 ≤ i) && decide (i < (s : Int))) = decide (i < (s : Int)) := by simp [hi]
    rw [e]; clear e
    go_enter Try.func61, Try.ntmps61
    go_wp2
    go_ret
    exact ⟨rfl, rfl⟩
  · have e : (decide (0 ≤ i) && decide (i < (s : Int))) = false := by simp [hi]
    rw [e]; clear e
    have h2 : decide (0 ≤ i) = false := by simpa using hi
    go_enter Try.func61, Try.ntmps61
    go_wp2
    go_ret
    exact ⟨rfl, rfl⟩

set_option maxHeartbeats 400000 in
theorem end_any {p a s : Nat} {ah bh : Option Nat} (w : World) (h : w.heap[p]? = some (nd a s ah bh)) (hb : a + s ≤ 4611686018427387904) :
    Calls Try.prog 57 #[.pointer (some ⟨p, 0, none⟩)] w fun e w' => e = .returned (.int .i64 ((a + s : Nat) : Int)) ∧ ∃ n, w' = w.drewN n := by
  obtain ⟨h0, h1, h2, h3⟩ := nd_cells h
  clear h
  go_enter Try.func57, Try.ntmps57
  go_wp2
  go_quiet (fail)
  go_wp2
  go_ret
  exact ⟨by simp, _, rfl⟩
end Go.Proofs.Ytdaklohfecinjaa
