/- Small functions of package object and of the document's answer: errors' numbers, ranges, right heads. -/
import Derived.Test.YtnmchcanijkggaaRows
import Derived.WalkKit
import Derived.WalkSpells
import Derived.WalkLawsBesides
import Derived.Laws.BitsAllLaws
import Derived.BigQuiet
namespace Go.Proofs.Ytnmchcanijkggaa
open Go.RowKit

/-- A head's fields. -/
structure Hd where
  k : Int
  c : Int
  a : Int
  w : Int
  s : Int
  f : Int
  x : Int
  l : Int
deriving DecidableEq

/-- A head, as the program holds it. -/
abbrev AH (h : Hd) : Value := .agg #[.int .i64 h.k, .int .i64 h.c, .int .i64 h.a, .int .i64 h.w, .int .i64 h.s, .int .i64 h.f, .int .i64 h.x, .int .i64 h.l]

/-- Is a number from 0 to another one? -/
def up (n m : Int) : Bool := decide (0 ≤ n) && decide (n ≤ m)
/-- Is it a type of objects? -/
def isObj (t : Int) : Bool := decide (4 ≤ t) && decide (t ≤ 9)
/-- May it be a handle? -/
def isHan (n : Int) : Bool := decide (1 ≤ n) && decide (n ≤ 65536)

set_option maxHeartbeats 400000 in
theorem no_any (n : Int) (w : World) :
    Calls Try.prog 14 #[.int .i64 n] w fun e w' => e = .returned (.int .i64 n) ∧ w = w' := by
  go_enter Try.func14, Try.ntmps14
  go_wp2
  go_ret
  exact ⟨rfl, rfl⟩

set_option maxHeartbeats 400000 in
theorem objectType_any (t : Int) (w : World) :
    Calls Try.prog 39 #[.int .i64 t] w fun e w' => e = .returned (.bool (isObj t)) ∧ w = w' := by
  by_cases h : 4 ≤ t
  · by_cases h' : t ≤ 9
    · have e : isObj t = true := by simp [isObj, h, h']
      rw [e]
      go_enter Try.func39, Try.ntmps39
      go_wp2
      go_ret
      exact ⟨rfl, rfl⟩
    · have e : isObj t = false := by simp [isObj, h']
      rw [e]
      go_enter Try.func39, Try.ntmps39
      go_wp2
      go_ret
      exact ⟨rfl, rfl⟩
  · have e : isObj t = false := by simp [isObj, h]
    rw [e]
    go_enter Try.func39, Try.ntmps39
    go_wp2
    go_ret
    exact ⟨rfl, rfl⟩

set_option maxHeartbeats 400000 in
theorem handle_any (t : Int) (w : World) :
    Calls Try.prog 43 #[.int .i64 t] w fun e w' => e = .returned (.bool (isHan t)) ∧ w = w' := by
  by_cases h : 1 ≤ t
  · by_cases h' : t ≤ 65536
    · have e : isHan t = true := by simp [isHan, h, h']
      rw [e]
      go_enter Try.func43, Try.ntmps43
      go_wp2
      go_ret
      exact ⟨rfl, rfl⟩
    · have e : isHan t = false := by simp [isHan, h']
      rw [e]
      go_enter Try.func43, Try.ntmps43
      go_wp2
      go_ret
      exact ⟨rfl, rfl⟩
  · have e : isHan t = false := by simp [isHan, h]
    rw [e]
    go_enter Try.func43, Try.ntmps43
    go_wp2
    go_ret
    exact ⟨rfl, rfl⟩

set_option maxHeartbeats 400000 in
theorem upTo_any (n m : Int) (w : World) :
    Calls Try.prog 40 #[.int .i64 n, .int .i64 m] w fun e w' => e = .returned (.bool (up n m)) ∧ w = w' := by
  by_cases h : 0 ≤ n
  · by_cases h' : n ≤ m
    · have e : up n m = true := by simp [up, h, h']
      rw [e]
      go_enter Try.func40, Try.ntmps40
      go_wp2
      go_ret
      exact ⟨rfl, rfl⟩
    · have e : up n m = false := by simp [up, h']
      rw [e]
      go_enter Try.func40, Try.ntmps40
      go_wp2
      go_ret
      exact ⟨rfl, rfl⟩
  · have e : up n m = false := by simp [up, h]
    rw [e]
    go_enter Try.func40, Try.ntmps40
    go_wp2
    go_ret
    exact ⟨rfl, rfl⟩

set_option maxHeartbeats 400000 in
theorem in_any (n m : Int) (w : World) :
    Calls Try.prog 38 #[.int .i64 n, .int .i64 m] w fun e w' => e = .returned (.bool (up n m)) ∧ w = w' := by
  by_cases h : 0 ≤ n
  · by_cases h' : n ≤ m
    · have e : up n m = true := by simp [up, h, h']
      rw [e]
      go_enter Try.func38, Try.ntmps38
      go_wp2
      go_ret
      exact ⟨rfl, rfl⟩
    · have e : up n m = false := by simp [up, h']
      rw [e]
      go_enter Try.func38, Try.ntmps38
      go_wp2
      go_ret
      exact ⟨rfl, rfl⟩
  · have e : up n m = false := by simp [up, h]
    rw [e]
    go_enter Try.func38, Try.ntmps38
    go_wp2
    go_ret
    exact ⟨rfl, rfl⟩

/-- Are Weak and Fin 0 but of a table? -/
def plainB (h : Hd) : Bool := decide (h.k = 5) || (decide (h.w = 0) && decide (h.f = 0))
/-- Is a head right, but for its kind? -/
def fineB (h : Hd) : Bool := up h.c 3 && up h.a 6 && up h.w 3 && up h.s 2147483647 && up h.f 2147483647 && plainB h && up h.x 4096 && up h.l 4096
/-- What is wrong with a head. -/
def rightE (h : Hd) : Int := if isObj h.k then (if fineB h then 0 else 1) else 10

set_option maxHeartbeats 4000000 in
theorem Right_any (h : Hd) (w : World) :
    Calls Try.prog 15 #[AH h] w fun e w' => e = .returned (.int .i64 (rightE h)) ∧ Below w.heap.size w w' := by
  cases h1 : isObj h.k
  · rw [show rightE h = 10 by simp [rightE, h1]]
    go_enter Try.func15, Try.ntmps15
    go_wp2_with (first | (go_at_call 39; refine (objectType_any _ _).mono ?_; rintro e w' ⟨rfl, rfl⟩))
    go_ret
    exact ⟨rfl, (Below.refl _ _).alloc (Nat.le_refl _) _⟩
  cases h2 : up h.c 3
  · rw [show rightE h = 1 by simp [rightE, h1, fineB, h2]]
    go_enter Try.func15, Try.ntmps15
    go_wp2_with (first | (go_at_call 39; refine (objectType_any _ _).mono ?_; rintro e w' ⟨rfl, rfl⟩) | (go_at_call 40; refine (upTo_any _ _ _).mono ?_; rintro e w' ⟨rfl, rfl⟩))
    go_ret
    exact ⟨rfl, (Below.refl _ _).alloc (Nat.le_refl _) _⟩
  cases h3 : up h.a 6
  · rw [show rightE h = 1 by simp [rightE, h1, fineB, h3]]
    go_enter Try.func15, Try.ntmps15
    go_wp2_with (first | (go_at_call 39; refine (objectType_any _ _).mono ?_; rintro e w' ⟨rfl, rfl⟩) | (go_at_call 40; refine (upTo_any _ _ _).mono ?_; rintro e w' ⟨rfl, rfl⟩))
    go_ret
    exact ⟨rfl, (Below.refl _ _).alloc (Nat.le_refl _) _⟩
  cases h4 : up h.w 3
  · rw [show rightE h = 1 by simp [rightE, h1, fineB, h4]]
    go_enter Try.func15, Try.ntmps15
    go_wp2_with (first | (go_at_call 39; refine (objectType_any _ _).mono ?_; rintro e w' ⟨rfl, rfl⟩) | (go_at_call 40; refine (upTo_any _ _ _).mono ?_; rintro e w' ⟨rfl, rfl⟩))
    go_ret
    exact ⟨rfl, (Below.refl _ _).alloc (Nat.le_refl _) _⟩
  cases h5 : up h.s 2147483647
  · rw [show rightE h = 1 by simp [rightE, h1, fineB, h5]]
    go_enter Try.func15, Try.ntmps15
    go_wp2_with (first | (go_at_call 39; refine (objectType_any _ _).mono ?_; rintro e w' ⟨rfl, rfl⟩) | (go_at_call 40; refine (upTo_any _ _ _).mono ?_; rintro e w' ⟨rfl, rfl⟩))
    go_ret
    exact ⟨rfl, (Below.refl _ _).alloc (Nat.le_refl _) _⟩
  cases h6 : up h.f 2147483647
  · rw [show rightE h = 1 by simp [rightE, h1, fineB, h6]]
    go_enter Try.func15, Try.ntmps15
    go_wp2_with (first | (go_at_call 39; refine (objectType_any _ _).mono ?_; rintro e w' ⟨rfl, rfl⟩) | (go_at_call 40; refine (upTo_any _ _ _).mono ?_; rintro e w' ⟨rfl, rfl⟩))
    go_ret
    exact ⟨rfl, (Below.refl _ _).alloc (Nat.le_refl _) _⟩
  rcases (show ((h.k != 5) = false ∧ plainB h = true) ∨ ((h.k != 5) = true ∧ (h.w != 0) = true ∧ plainB h = false) ∨ ((h.k != 5) = true ∧ (h.w != 0) = false ∧ (h.f != 0) = true ∧ plainB h = false) ∨ ((h.k != 5) = true ∧ (h.w != 0) = false ∧ (h.f != 0) = false ∧ plainB h = true) by
      by_cases ha : h.k = 5 <;> by_cases hb : h.w = 0 <;> by_cases hc : h.f = 0 <;> simp [plainB, ha, hb, hc]) with ⟨ha, h7⟩ | ⟨ha, hb, h7⟩ | ⟨ha, hb, hc, h7⟩ | ⟨ha, hb, hc, h7⟩
  case inr.inl =>
    rw [show rightE h = 1 by simp [rightE, h1, fineB, h7]]
    go_enter Try.func15, Try.ntmps15
    go_wp2_with (first | (go_at_call 39; refine (objectType_any _ _).mono ?_; rintro e w' ⟨rfl, rfl⟩) | (go_at_call 40; refine (upTo_any _ _ _).mono ?_; rintro e w' ⟨rfl, rfl⟩))
    go_ret
    exact ⟨rfl, (Below.refl _ _).alloc (Nat.le_refl _) _⟩
  case inr.inr.inl =>
    rw [show rightE h = 1 by simp [rightE, h1, fineB, h7]]
    go_enter Try.func15, Try.ntmps15
    go_wp2_with (first | (go_at_call 39; refine (objectType_any _ _).mono ?_; rintro e w' ⟨rfl, rfl⟩) | (go_at_call 40; refine (upTo_any _ _ _).mono ?_; rintro e w' ⟨rfl, rfl⟩))
    go_ret
    exact ⟨rfl, (Below.refl _ _).alloc (Nat.le_refl _) _⟩
  all_goals (
    cases h8 : up h.x 4096
    · rw [show rightE h = 1 by simp [rightE, h1, fineB, h8]]
      go_enter Try.func15, Try.ntmps15
      go_wp2_with (first | (go_at_call 39; refine (objectType_any _ _).mono ?_; rintro e w' ⟨rfl, rfl⟩) | (go_at_call 40; refine (upTo_any _ _ _).mono ?_; rintro e w' ⟨rfl, rfl⟩))
      go_ret
      exact ⟨rfl, (Below.refl _ _).alloc (Nat.le_refl _) _⟩
    cases h9 : up h.l 4096
    · rw [show rightE h = 1 by simp [rightE, h1, fineB, h9]]
      go_enter Try.func15, Try.ntmps15
      go_wp2_with (first | (go_at_call 39; refine (objectType_any _ _).mono ?_; rintro e w' ⟨rfl, rfl⟩) | (go_at_call 40; refine (upTo_any _ _ _).mono ?_; rintro e w' ⟨rfl, rfl⟩))
      go_ret
      exact ⟨rfl, (Below.refl _ _).alloc (Nat.le_refl _) _⟩
    · rw [show rightE h = 0 by simp [rightE, h1, fineB, h2, h3, h4, h5, h6, h7, h8, h9]]
      go_enter Try.func15, Try.ntmps15
      go_wp2_with (first | (go_at_call 39; refine (objectType_any _ _).mono ?_; rintro e w' ⟨rfl, rfl⟩) | (go_at_call 40; refine (upTo_any _ _ _).mono ?_; rintro e w' ⟨rfl, rfl⟩))
      go_ret
      exact ⟨rfl, (Below.refl _ _).alloc (Nat.le_refl _) _⟩)
end Go.Proofs.Ytnmchcanijkggaa
