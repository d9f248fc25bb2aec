/- Values: which are numbers, and which are right, in the program and in the document's answer. -/
import Derived.Test.YtnmchcanijkggaaO1
import Derived.Laws.EntriesVeiled
namespace Go.Proofs.Ytnmchcanijkggaa
open Go.RowKit

/-- A value of the language, as the program holds it. -/
abbrev AV (t n : Int) : Value := .agg #[.int .i64 t, .int .i64 n]
/-- The bits of an int. -/
def B (n : Int) : Nat := (IntKind.u64.wrap n).toNat
/-- Is a float equal to itself? -/
def selfB (x : Nat) : Bool := FloatKind.f64.format.order x x == some .eq
/-- Is it a number? -/
def isNum (t n : Int) : Bool := t == 2 || (t == 3 && (selfB (B n) || n == 9221120237041090561))

theorem call_frombits (n : Int) (w : World) : (callFunc 65 #[.int .u64 (IntKind.u64.wrap n)]).run Try.prog w = .ok (.value (.float .f64 (B n))) w := by kernel_rfl

set_option maxHeartbeats 400000 in
theorem pointed_any (t n : Int) (w : World) :
    Calls Try.prog 54 #[AV t n] w fun e w' => e = .returned (.float .f64 (B n)) ∧ Below w.heap.size w w' := by
  have hc := call_frombits n
  go_enter Try.func54, Try.ntmps54
  go_wp2
  go_ret
  exact ⟨rfl, (Below.refl _ _).alloc (Nat.le_refl _) _⟩

set_option maxHeartbeats 400000 in
theorem Real_any (t n : Int) (w : World) :
    Calls Try.prog 55 #[AV t n] w fun e w' => e = .returned (.float .f64 (B n)) ∧ Below w.heap.size w w' := by
  have hc := call_frombits n
  go_enter Try.func55, Try.ntmps55
  go_wp2
  go_ret
  exact ⟨rfl, (Below.refl _ _).alloc (Nat.le_refl _) _⟩

set_option maxHeartbeats 400000 in
theorem IsNaN_any (x : Nat) (w : World) :
    Calls Try.prog 53 #[.float .f64 x] w fun e w' => e = .returned (.bool (!selfB x)) ∧ w = w' := by
  go_enter Try.func53, Try.ntmps53
  go_wp2
  go_ret
  exact ⟨rfl, rfl⟩

theorem bcell {W w1 : World} (hb : Below W.heap.size W w1) : (∀ b o, b < W.heap.size → w1.cell? ⟨b, o, none⟩ = W.cell? ⟨b, o, none⟩) ∧ (∀ b o, b < W.heap.size → w1.frozen? ⟨b, o, none⟩ = W.frozen? ⟨b, o, none⟩) :=
  ⟨fun b o h => hb.cell (p := ⟨b, o, none⟩) h, fun b o h => hb.frozen (p := ⟨b, o, none⟩) h⟩

theorem wrapnan {n : Int} (h1 : -9223372036854775808 ≤ n) (h2 : n ≤ 9223372036854775807) : (IntKind.u64.wrap n == 9221120237041090561) = (n == 9221120237041090561) := by
  rw [IntKind.wrap_u64, Bool.eq_iff_iff]; simp only [beq_iff_eq]; omega

set_option maxHeartbeats 400000 in
theorem Is_any (t n : Int) (w : World) (h1 : -9223372036854775808 ≤ n) (h2 : n ≤ 9223372036854775807) :
    Calls Try.prog 42 #[AV t n] w fun e w' => e = .returned (.bool (isNum t n)) ∧ Below w.heap.size w w' := by
  by_cases ht : t = 2
  · subst ht
    go_enter Try.func42, Try.ntmps42
    go_wp2
    go_ret
    exact ⟨by simp [isNum], (Below.refl _ _).alloc (Nat.le_refl _) _⟩
  · have ht2 : (t == 2) = false := by simp [ht]
    by_cases ht' : t = 3
    · subst ht'
      have hn := wrapnan h1 h2
      clear h1 h2 ht
      cases hb : (n == 9221120237041090561)
      · rw [hb] at hn
        go_enter Try.func42, Try.ntmps42
        go_wp2_with fail
        refine (pointed_any _ _ _).mono ?_
        rintro e w1 ⟨rfl, hb1⟩
        go_wp2_with (first | (go_at_call 53; refine (IsNaN_any _ _).mono ?_; rintro e w' ⟨rfl, rfl⟩))
        go_ret
        exact ⟨by simp [isNum, hb], ((Below.refl _ _).alloc (Nat.le_refl _) _).trans (hb1.mono (by simp))⟩
      · rw [hb] at hn
        go_enter Try.func42, Try.ntmps42
        go_wp2
        go_ret
        exact ⟨by simp [isNum, hb], (Below.refl _ _).alloc (Nat.le_refl _) _⟩
    · have ht3 : (t == 3) = false := by simp [ht']
      go_enter Try.func42, Try.ntmps42
      go_wp2
      go_ret
      exact ⟨by simp [isNum, ht2, ht3], (Below.refl _ _).alloc (Nat.le_refl _) _⟩

set_option maxHeartbeats 400000 in
theorem RIs_any (t n : Int) (w : World) :
    Calls Try.prog 44 #[AV t n] w fun e w' => e = .returned (.bool (isNum t n)) ∧ Below w.heap.size w w' := by
  by_cases ht : t = 2
  · subst ht
    go_enter Try.func44, Try.ntmps44
    go_wp2
    go_ret
    exact ⟨by simp [isNum], (Below.refl _ _).alloc (Nat.le_refl _) _⟩
  · have ht2 : (t == 2) = false := by simp [ht]
    by_cases ht' : t = 3
    · subst ht'
      clear ht
      cases hb : selfB (B n)
      · have hq : (FloatKind.f64.format.order (B n) (B n) == some .eq) = false := hb
        go_enter Try.func44, Try.ntmps44
        go_wp2_with fail
        refine (Real_any _ _ _).mono ?_
        rintro e w1 ⟨rfl, hb1⟩
        obtain ⟨hc, hf⟩ := bcell hb1
        have hz : w.heap.size < w1.heap.size := by have := hb1.size; simp at this; omega
        go_wp2
        go_ret
        exact ⟨by simp [isNum, hb], ((Below.refl _ _).alloc (Nat.le_refl _) _).trans (hb1.mono (by simp))⟩
      · have hq : (FloatKind.f64.format.order (B n) (B n) == some .eq) = true := hb
        go_enter Try.func44, Try.ntmps44
        go_wp2_with fail
        refine (Real_any _ _ _).mono ?_
        rintro e w1 ⟨rfl, hb1⟩
        obtain ⟨hc, hf⟩ := bcell hb1
        have hz : w.heap.size < w1.heap.size := by have := hb1.size; simp at this; omega
        go_wp2
        go_ret
        exact ⟨by simp [isNum, hb], ((Below.refl _ _).alloc (Nat.le_refl _) _).trans (hb1.mono (by simp))⟩
    · have ht3 : (t != 3) = true := by simp [ht']
      have ht3' : (t == 3) = false := by simp [ht']
      go_enter Try.func44, Try.ntmps44
      go_wp2
      go_ret
      exact ⟨by simp [isNum, ht2, ht3'], (Below.refl _ _).alloc (Nat.le_refl _) _⟩

/-- Is a value right? -/
def valB (t n : Int) : Bool :=
  if t = 0 then n == 0 else if t = 1 then (n == 0 || n == 1) else if t = 2 ∨ t = 3 then isNum t n else if t = 10 then up n 255 else
  decide (4 ≤ t) && decide (t ≤ 11) && isHan n

theorem valB_obj {t n : Int} (h : isObj t = true) : valB t n = isHan n := by
  simp only [isObj, Bool.and_eq_true, decide_eq_true_eq] at h
  unfold valB
  rw [if_neg (by omega), if_neg (by omega), if_neg (by omega), if_neg (by omega)]
  simp [h.1, show t ≤ 11 by omega]

theorem valB_none {t n : Int} (h : isObj t = false) (h0 : t ≠ 0) (h1 : t ≠ 1) (h2 : t ≠ 2) (h3 : t ≠ 3) (h4 : t ≠ 10) (h5 : t ≠ 11) : valB t n = false := by
  unfold valB
  rw [if_neg h0, if_neg h1, if_neg (by omega), if_neg h4]
  simp only [isObj, Bool.and_eq_false_iff, decide_eq_false_iff_not] at h
  have : ¬ (4 ≤ t ∧ t ≤ 11) := by omega
  by_cases a : 4 ≤ t
  · simp [show ¬ t ≤ 11 by omega]
  · simp [a]

theorem type_cases (t : Int) : t = 0 ∨ t = 1 ∨ t = 2 ∨ t = 3 ∨ t = 10 ∨ t = 11 ∨ (isObj t = true ∧ t ≠ 0 ∧ t ≠ 1 ∧ t ≠ 2 ∧ t ≠ 3 ∧ t ≠ 10 ∧ t ≠ 11) ∨ (isObj t = false ∧ t ≠ 0 ∧ t ≠ 1 ∧ t ≠ 2 ∧ t ≠ 3 ∧ t ≠ 10 ∧ t ≠ 11) := by
  cases h : isObj t <;> simp <;> omega

set_option maxHeartbeats 2000000 in
theorem Value_any (t n : Int) (w : World) (g1 : -9223372036854775808 ≤ n) (g2 : n ≤ 9223372036854775807) :
    Calls Try.prog 23 #[AV t n] w fun e w' => e = .returned (.bool (valB t n)) ∧ Below w.heap.size w w' := by
  rcases type_cases t with rfl | rfl | rfl | rfl | rfl | rfl | ⟨h, h0, h1, h2, h3, h4, h5⟩ | ⟨h, h0, h1, h2, h3, h4, h5⟩
  · rw [show valB 0 n = (n == 0) from rfl]
    go_enter Try.func23, Try.ntmps23
    go_wp2
    go_ret
    exact ⟨rfl, (Below.refl _ _).alloc (Nat.le_refl _) _⟩
  · by_cases hn : n = 0
    · subst hn
      go_enter Try.func23, Try.ntmps23
      go_wp2
      go_ret
      exact ⟨rfl, (Below.refl _ _).alloc (Nat.le_refl _) _⟩
    · have hn0 : (n == 0) = false := by simp [hn]
      rw [show valB 1 n = (n == 1) by simp [valB, hn]]
      clear hn
      go_enter Try.func23, Try.ntmps23
      go_wp2
      go_ret
      exact ⟨rfl, (Below.refl _ _).alloc (Nat.le_refl _) _⟩
  · rw [show valB 2 n = isNum 2 n from rfl]
    go_enter Try.func23, Try.ntmps23
    go_wp2_with fail
    refine (Is_any _ _ _ g1 g2).mono ?_
    rintro e w1 ⟨rfl, hb1⟩
    go_wp2
    go_ret
    exact ⟨rfl, ((Below.refl _ _).alloc (Nat.le_refl _) _).trans (hb1.mono (by simp))⟩
  · rw [show valB 3 n = isNum 3 n from rfl]
    go_enter Try.func23, Try.ntmps23
    go_wp2_with fail
    refine (Is_any _ _ _ g1 g2).mono ?_
    rintro e w1 ⟨rfl, hb1⟩
    go_wp2
    go_ret
    exact ⟨rfl, ((Below.refl _ _).alloc (Nat.le_refl _) _).trans (hb1.mono (by simp))⟩
  · rw [show valB 10 n = up n 255 from rfl]
    by_cases hn : 0 ≤ n
    · rw [show up n 255 = decide (n ≤ 255) by simp [up, hn]]
      go_enter Try.func23, Try.ntmps23
      go_wp2
      go_ret
      exact ⟨rfl, (Below.refl _ _).alloc (Nat.le_refl _) _⟩
    · rw [show up n 255 = false by simp [up, hn]]
      go_enter Try.func23, Try.ntmps23
      go_wp2
      go_ret
      exact ⟨rfl, (Below.refl _ _).alloc (Nat.le_refl _) _⟩
  · rw [show valB 11 n = isHan n by simp [valB]]
    go_enter Try.func23, Try.ntmps23
    go_wp2_with (first | (go_at_call 43; refine (handle_any _ _).mono ?_; rintro e w' ⟨rfl, rfl⟩))
    go_ret
    exact ⟨rfl, (Below.refl _ _).alloc (Nat.le_refl _) _⟩
  · rw [valB_obj h]
    have e0 : (t == 0) = false := by simp [h0]
    have e1 : (t == 1) = false := by simp [h1]
    have e2 : (t == 2) = false := by simp [h2]
    have e3 : (t == 3) = false := by simp [h3]
    have e4 : (t == 10) = false := by simp [h4]
    have e5 : (t == 11) = false := by simp [h5]
    clear h0 h1 h2 h3 h4 h5
    go_enter Try.func23, Try.ntmps23
    go_wp2_with (first | (go_at_call 39; refine (objectType_any _ _).mono ?_; rintro e w' ⟨rfl, rfl⟩) | (go_at_call 43; refine (handle_any _ _).mono ?_; rintro e w' ⟨rfl, rfl⟩))
    go_ret
    exact ⟨rfl, (Below.refl _ _).alloc (Nat.le_refl _) _⟩
  · rw [valB_none h h0 h1 h2 h3 h4 h5]
    have e0 : (t == 0) = false := by simp [h0]
    have e1 : (t == 1) = false := by simp [h1]
    have e2 : (t == 2) = false := by simp [h2]
    have e3 : (t == 3) = false := by simp [h3]
    have e4 : (t == 10) = false := by simp [h4]
    have e5 : (t == 11) = false := by simp [h5]
    clear h0 h1 h2 h3 h4 h5
    go_enter Try.func23, Try.ntmps23
    go_wp2_with (first | (go_at_call 39; refine (objectType_any _ _).mono ?_; rintro e w' ⟨rfl, rfl⟩) | (go_at_call 43; refine (handle_any _ _).mono ?_; rintro e w' ⟨rfl, rfl⟩))
    go_ret
    exact ⟨rfl, (Below.refl _ _).alloc (Nat.le_refl _) _⟩

set_option maxHeartbeats 2000000 in
theorem RValue_any (t n : Int) (w : World) :
    Calls Try.prog 24 #[AV t n] w fun e w' => e = .returned (.bool (valB t n)) ∧ Below w.heap.size w w' := by
  rcases (show t = 0 ∨ t = 1 ∨ t = 2 ∨ t = 3 ∨ t = 10 ∨ (t ≠ 0 ∧ t ≠ 1 ∧ t ≠ 2 ∧ t ≠ 3 ∧ t ≠ 10) by omega) with rfl | rfl | rfl | rfl | rfl | ⟨h0, h1, h2, h3, h4⟩
  · rw [show valB 0 n = (n == 0) from rfl]
    go_enter Try.func24, Try.ntmps24
    go_wp2
    go_ret
    exact ⟨rfl, (Below.refl _ _).alloc (Nat.le_refl _) _⟩
  · by_cases hn : n = 0
    · subst hn
      go_enter Try.func24, Try.ntmps24
      go_wp2
      go_ret
      exact ⟨rfl, (Below.refl _ _).alloc (Nat.le_refl _) _⟩
    · have hn0 : (n == 0) = false := by simp [hn]
      rw [show valB 1 n = (n == 1) by simp [valB, hn]]
      clear hn
      go_enter Try.func24, Try.ntmps24
      go_wp2
      go_ret
      exact ⟨rfl, (Below.refl _ _).alloc (Nat.le_refl _) _⟩
  · rw [show valB 2 n = isNum 2 n from rfl]
    go_enter Try.func24, Try.ntmps24
    go_wp2_with fail
    refine (RIs_any _ _ _).mono ?_
    rintro e w1 ⟨rfl, hb1⟩
    go_wp2
    go_ret
    exact ⟨rfl, ((Below.refl _ _).alloc (Nat.le_refl _) _).trans (hb1.mono (by simp))⟩
  · rw [show valB 3 n = isNum 3 n from rfl]
    go_enter Try.func24, Try.ntmps24
    go_wp2_with fail
    refine (RIs_any _ _ _).mono ?_
    rintro e w1 ⟨rfl, hb1⟩
    go_wp2
    go_ret
    exact ⟨rfl, ((Below.refl _ _).alloc (Nat.le_refl _) _).trans (hb1.mono (by simp))⟩
  · rw [show valB 10 n = up n 255 from rfl]
    by_cases hn : 0 ≤ n
    · rw [show up n 255 = decide (n ≤ 255) by simp [up, hn]]
      go_enter Try.func24, Try.ntmps24
      go_wp2
      go_ret
      exact ⟨rfl, (Below.refl _ _).alloc (Nat.le_refl _) _⟩
    · rw [show up n 255 = false by simp [up, hn]]
      go_enter Try.func24, Try.ntmps24
      go_wp2
      go_ret
      exact ⟨rfl, (Below.refl _ _).alloc (Nat.le_refl _) _⟩
  · rw [show valB t n = (decide (4 ≤ t) && decide (t ≤ 11) && isHan n) by unfold valB; rw [if_neg h0, if_neg h1, if_neg (by omega), if_neg h4]]
    have e0 : (t == 0) = false := by simp [h0]
    have e1 : (t == 1) = false := by simp [h1]
    have e2 : (t == 2) = false := by simp [h2]
    have e3 : (t == 3) = false := by simp [h3]
    have e4 : (t == 10) = false := by simp [h4]
    clear h0 h1 h2 h3 h4
    by_cases ha : 4 ≤ t
    · by_cases hb : t ≤ 11
      · by_cases hc : 1 ≤ n
        · rw [show (decide (4 ≤ t) && decide (t ≤ 11) && isHan n) = decide (n ≤ 65536) by simp [isHan, ha, hb, hc]]
          go_enter Try.func24, Try.ntmps24
          go_wp2
          go_ret
          exact ⟨rfl, (Below.refl _ _).alloc (Nat.le_refl _) _⟩
        · rw [show (decide (4 ≤ t) && decide (t ≤ 11) && isHan n) = false by simp [isHan, ha, hb, hc]]
          go_enter Try.func24, Try.ntmps24
          go_wp2
          go_ret
          exact ⟨rfl, (Below.refl _ _).alloc (Nat.le_refl _) _⟩
      · rw [show (decide (4 ≤ t) && decide (t ≤ 11) && isHan n) = false by simp [ha, hb]]
        go_enter Try.func24, Try.ntmps24
        go_wp2
        go_ret
        exact ⟨rfl, (Below.refl _ _).alloc (Nat.le_refl _) _⟩
    · rw [show (decide (4 ≤ t) && decide (t ≤ 11) && isHan n) = false by simp [ha]]
      go_enter Try.func24, Try.ntmps24
      go_wp2
      go_ret
      exact ⟨rfl, (Below.refl _ _).alloc (Nat.le_refl _) _⟩
end Go.Proofs.Ytnmchcanijkggaa
