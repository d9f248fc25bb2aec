/- entries: its rounds. -/
import Derived.Test.YthefmfjlinpepaaG1
import Derived.Test.YthefmfjlinpepaaF2
import Derived.Test.YthefmfjlinpepaaQ0
namespace Go.Proofs.Ythefmfjlinpepaa
open Go.RowKit Go.Shelf
set_option linter.unusedSimpArgs false
set_option linter.unusedVariables false
attribute [local go_sem] Oper.semAt_some

/-- Has a place a key with a value? -/
def okE (a : Nat) (sl : Sl) (p : Int) : Bool := keyB (keyAt a sl p).1 (keyAt a sl p).2 && !((sl p).1 == 0)
/-- The keys with values among the first places. -/
def entsTo (a : Nat) (sl : Sl) (f i : Nat) : List ((Int × Int) × (Int × Int)) :=
  (List.range i).filterMap fun j => if okE a sl (plA a f j : Nat) then some (keyAt a sl (plA a f j : Nat), sl (plA a f j : Nat)) else none
def ents (a n : Nat) (sl : Sl) (f : Nat) : List ((Int × Int) × (Int × Int)) := entsTo a sl f (plN a n f)

theorem entsTo_succ (a : Nat) (sl : Sl) (f i : Nat) : entsTo a sl f (i + 1) = entsTo a sl f i ++ (if okE a sl (plA a f i : Nat) then [(keyAt a sl (plA a f i : Nat), sl (plA a f i : Nat))] else []) := by
  unfold entsTo
  rw [List.range_succ, List.filterMap_append]
  congr 1
  cases h : okE a sl (plA a f i : Nat) <;> simp [h]
theorem entsTo_le (a : Nat) (sl : Sl) (f i : Nat) : ∀ j, i ≤ j → ∃ t, entsTo a sl f j = entsTo a sl f i ++ t := by
  intro j
  induction j with
  | zero => intro h; obtain rfl : i = 0 := by omega
            exact ⟨[], by simp⟩
  | succ j ih =>
    intro h
    rcases Nat.lt_or_ge i (j + 1) with h1 | h1
    · obtain ⟨t, ht⟩ := ih (by omega)
      exact ⟨t ++ (if okE a sl (plA a f j : Nat) then [(keyAt a sl (plA a f j : Nat), sl (plA a f j : Nat))] else []), by rw [entsTo_succ, ht, List.append_assoc]⟩
    · obtain rfl : i = j + 1 := by omega
      exact ⟨[], by simp⟩
theorem ents_at {a n : Nat} {sl : Sl} {f i : Nat} (hi : i < plN a n f) (hk : okE a sl (plA a f i : Nat) = true) :
    (ents a n sl f)[(entsTo a sl f i).length]? = some (keyAt a sl (plA a f i : Nat), sl (plA a f i : Nat)) ∧ (entsTo a sl f i).length < (ents a n sl f).length ∧ (entsTo a sl f (i + 1)).length = (entsTo a sl f i).length + 1 := by
  obtain ⟨t, ht⟩ := entsTo_le a sl f (i + 1) (plN a n f) hi
  have hs := entsTo_succ a sl f i
  rw [if_pos hk] at hs
  unfold ents
  rw [ht, hs]
  refine ⟨by simp, by simp, by simp⟩
theorem ents_no {a : Nat} {sl : Sl} {f i : Nat} (hk : okE a sl (plA a f i : Nat) = false) : (entsTo a sl f (i + 1)).length = (entsTo a sl f i).length := by
  rw [entsTo_succ, hk]; simp

/-- While entries goes on: J as long as it speaks, the boxes. -/
structure EI (J : Nat → World → Prop) (a : Nat) (sl : Sl) (f P l S Bs : Nat) (i : Nat) (W : World) : Prop where
  j : J (entsTo a sl f i).length W
  by' : W.heap[S]? = some (.cells #[.func (.yield l) #[] #[]] 112 (0, 0))
  bs : W.heap[S + 1]? = some (.cells #[MI P] 81 (0, 0))
  bf : W.heap[S + 2]? = some (.cells #[.int .i64 (f : Int)] 3 (0, 0))
  b0 : W.heap[Bs]? = some (.cells #[MI P] 81 (0, 0))

theorem round_wide {P : Program} {l l2 fn m m' : Nat} {tmps : Array Value} {as' bo : Code} {W : World} {R : Ending → World → Prop} (h : RoundIn Fence.wide m P l fn tmps as' bo W R) : RoundIn (Fence.wide.inRound l2) m' P l fn tmps as' bo W R :=
  ⟨h.1, fun c cs _ => h.2 c cs (room_wide _)⟩

theorem plA_le {a n f j : Nat} (h : j < plN a n f) (ha : a ≤ 100000) (hn : n ≤ 100000) : plA a f j ≤ 1000000 := by
  unfold plN at h
  unfold plA
  split <;> omega

end Go.Proofs.Ythefmfjlinpepaa
