/- Texts of scenes, as data: line by line. -/
import Derived.Test.YtbhmgmbgplkkeaaDoorM1
namespace Go.Proofs.YtbhmgmbgplkkeaaDoor
open Go.RowKit
set_option linter.unusedSimpArgs false
set_option linter.unusedVariables false

/-- A scene. -/
structure Sc where
  size : Int
  steps : Int
  pts : List V
  src : List UInt8
def sc0 : Sc := ⟨0, 0, [], []⟩
/-- What may come next, and what was read. -/
inductive St where
  | s0
  | s1 (z : Int)
  | s2 (z n : Int) (pts : List V)
  | done (x : Sc)
abbrev szW : List UInt8 := [115, 105, 122, 101]
abbrev stW : List UInt8 := [115, 116, 101, 112, 115]
abbrev srW : List UInt8 := [115, 111, 117, 114, 99, 101]
/-- The number behind a word and a blank. -/
def afterF (w l : List UInt8) : Option Nat := if Lib.hasPrefix l (w ++ [32]) = true then numP (l.drop (w.length + 1)) else none
/-- One line: an error, or what is next. -/
def lineS (st : St) (line rest : List UInt8) : Nat ⊕ (St × List UInt8) := match st with
  | .s0 => match afterF szW line with
    | none => .inl 6
    | some n => if n < 1 ∨ 65536 < n then .inl 7 else .inr (.s1 n, rest)
  | .s1 z => match afterF stW line with
    | none => .inl 6
    | some n => if 20000 < n then .inl 7 else .inr (.s2 z n [], rest)
  | .s2 z n pts => if line = srW then (if 8192 < rest.length then .inl 3 else .inr (.done ⟨z, n, pts, rest⟩, [])) else
    match lineF line with
    | none => .inl 6
    | some (p, k) => if 4000 < pts.length + k then .inl 4 else .inr (.s2 z n (pts ++ List.replicate k p), rest)
  | .done _ => .inl 6
def stepS (st : St) (l : List UInt8) : Nat ⊕ (St × List UInt8) := match cutO [10] l with
  | none => .inl 6
  | some (line, rest) => lineS st line rest
/-- What is told: a scene, or a line and an error. -/
inductive Out where
  | ok (x : Sc)
  | err (at_ e : Nat)
theorem lineS_rest (st : St) (line rest : List UInt8) (st' : St) (l' : List UInt8) (h : lineS st line rest = .inr (st', l')) : l'.length ≤ rest.length := by
  unfold lineS at h
  split at h
  · split at h
    · cases h
    · split at h
      · cases h
      · injection h with h; injection h with _ h; rw [h]; exact Nat.le_refl _
  · split at h
    · cases h
    · split at h
      · cases h
      · injection h with h; injection h with _ h; rw [h]; exact Nat.le_refl _
  · split at h
    · split at h
      · cases h
      · injection h with h; injection h with _ h; rw [← h]; simp
    · split at h
      · cases h
      · split at h
        · cases h
        · injection h with h; injection h with _ h; rw [h]; exact Nat.le_refl _
  · cases h
theorem stepS_lt (st : St) (l : List UInt8) (st' : St) (l' : List UInt8) (h : stepS st l = .inr (st', l')) : l'.length < l.length := by
  unfold stepS at h
  cases hc : cutO [10] l with
  | none => rw [hc] at h; cases h
  | some p =>
    obtain ⟨line, rest⟩ := p
    rw [hc] at h
    have h1 := lineS_rest _ _ _ _ _ h
    have h2 := (cut1_some _ _ _ _ hc).1
    rw [h2]; simp; omega
/-- All lines. -/
def outS (st : St) (at_ : Nat) (l : List UInt8) : Out := match st with
  | .done x => .ok x
  | st => match h : stepS st l with
    | .inl e => .err at_ e
    | .inr p => outS p.1 (at_ + 1) p.2
termination_by l.length
decreasing_by exact stepS_lt _ _ _ _ h
theorem outS_done (x : Sc) (a : Nat) (l : List UInt8) : outS (.done x) a l = .ok x := by rw [outS]
theorem outS_err (st : St) (a : Nat) (l : List UInt8) (e : Nat) (hs : ∀ x, st ≠ .done x) (h : stepS st l = .inl e) : outS st a l = .err a e := by
  cases st with
  | done x => exact absurd rfl (hs x)
  | s0 =>
    rw [outS]
    · split <;> simp_all
    · exact hs
  | s1 z =>
    rw [outS]
    · split <;> simp_all
    · exact hs
  | s2 z n p =>
    rw [outS]
    · split <;> simp_all
    · exact hs
theorem outS_go (st : St) (a : Nat) (l : List UInt8) (st' : St) (l' : List UInt8) (hs : ∀ x, st ≠ .done x) (h : stepS st l = .inr (st', l')) : outS st a l = outS st' (a + 1) l' := by
  cases st with
  | done x => exact absurd rfl (hs x)
  | s0 =>
    rw [outS]
    · split <;> simp_all
    · exact hs
  | s1 z =>
    rw [outS]
    · split <;> simp_all
    · exact hs
  | s2 z n p =>
    rw [outS]
    · split <;> simp_all
    · exact hs
/-- A text. -/
def parseF (l : List UInt8) : Out := if 73728 < l.length then .err 0 3 else outS .s0 0 l
end Go.Proofs.YtbhmgmbgplkkeaaDoor
