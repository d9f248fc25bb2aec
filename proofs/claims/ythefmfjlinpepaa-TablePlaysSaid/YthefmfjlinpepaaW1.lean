/- What the small functions of package num, and of the document's answer, give: making numbers, telling them apart. -/
import Derived.Test.YthefmfjlinpepaaRows
import Derived.Test.YthefmfjlinpepaaFm5
import Derived.WalkKit
import Derived.WalkSpells
import Derived.WalkLawsBesides
import Derived.Laws.EntriesVeiled
namespace Go.Proofs.Ythefmfjlinpepaa
open Go.RowKit

/-- A value of the language, as the program holds it. -/
abbrev AV (t n : Int) : Value := .agg #[.int .i64 t, .int .i64 n]
/-- The bits of an int. -/
def B (n : Int) : Nat := (IntKind.u64.wrap n).toNat
/-- The int of bits. -/
def bi (x : Nat) : Int := wrap64 (x : Int)
/-- The N of Float. -/
def flt (x : Nat) : Int := if Fm.nanB x then 9221120237041090561 else bi x
/-- Is it a number? -/
def isNum (t n : Int) : Bool := t == 2 || (t == 3 && (!Fm.nanB (B n) || n == 9221120237041090561))

theorem B_eq {n : Int} : (B n : Int) = n % 18446744073709551616 := by
  unfold B; rw [IntKind.wrap_u64]; omega
theorem B_lt (n : Int) : B n < 18446744073709551616 := by have := B_eq (n := n); omega
theorem bi_B {n : Int} (h1 : -9223372036854775808 ≤ n) (h2 : n ≤ 9223372036854775807) : bi (B n) = n := by
  unfold bi wrap64; rw [B_eq]; omega
theorem B_bi {x : Nat} (h : x < 18446744073709551616) : B (bi x) = x := by
  have := B_eq (n := bi x); unfold bi wrap64 at this ⊢; omega
theorem bi_bounds (x : Nat) : -9223372036854775808 ≤ bi x ∧ bi x ≤ 9223372036854775807 := by
  unfold bi wrap64; omega
theorem flt_bounds (x : Nat) : -9223372036854775808 ≤ flt x ∧ flt x ≤ 9223372036854775807 := by
  unfold flt; have := bi_bounds x; split <;> omega

theorem call_frombits (n : Int) (w : World) : (callFunc 76 #[.int .u64 (IntKind.u64.wrap n)]).run Try.prog w = .ok (.value (.float .f64 (B n))) w := by kernel_rfl
theorem call_bits (x : Nat) (w : World) : (callFunc 53 #[.float .f64 x]).run Try.prog w = .ok (.value (.int .u64 x)) w := by kernel_rfl

set_option maxHeartbeats 400000 in
theorem Int_any (n : Int) (w : World) :
    Calls Try.prog 24 #[.int .i64 n] w fun e w' => e = .returned (AV 2 n) ∧ Below w.heap.size w w' := by
  go_enter Try.func24, Try.ntmps24
  go_wp2
  exact bodyPost_ret (v := AV 2 n) (by simp [results, Try.results24, go_sem]) rfl ⟨rfl, (Below.refl _ _).alloc (Nat.le_refl _) _⟩

set_option maxHeartbeats 400000 in
theorem RInt_any (n : Int) (w : World) :
    Calls Try.prog 68 #[.int .i64 n] w fun e w' => e = .returned (AV 2 n) ∧ Below w.heap.size w w' := by
  go_enter Try.func68, Try.ntmps68
  go_wp2
  exact bodyPost_ret (v := AV 2 n) (by simp [results, Try.results68, go_sem]) rfl ⟨rfl, (Below.refl _ _).alloc (Nat.le_refl _) _⟩

set_option maxHeartbeats 400000 in
theorem no_any (n : Int) (w : World) :
    Calls Try.prog 21 #[.int .i64 n] w fun e w' => e = .returned (.int .i64 n) ∧ w' = w := by
  go_enter Try.func21, Try.ntmps21
  go_wp2
  go_ret
  exact ⟨rfl, rfl⟩

set_option maxHeartbeats 400000 in
theorem pointed_any (t n : Int) (w : World) :
    Calls Try.prog 55 #[AV t n] w fun e w' => e = .returned (.float .f64 (B n)) ∧ Below w.heap.size w w' := by
  have hc := call_frombits n
  go_enter Try.func55, Try.ntmps55
  go_wp2
  go_ret
  exact ⟨rfl, (Below.refl _ _).alloc (Nat.le_refl _) _⟩

set_option maxHeartbeats 400000 in
theorem Real_any (t n : Int) (w : World) :
    Calls Try.prog 69 #[AV t n] w fun e w' => e = .returned (.float .f64 (B n)) ∧ Below w.heap.size w w' := by
  have hc := call_frombits n
  go_enter Try.func69, Try.ntmps69
  go_wp2
  go_ret
  exact ⟨rfl, (Below.refl _ _).alloc (Nat.le_refl _) _⟩

theorem isnan_eq (x : Nat) : (FloatKind.f64.format.order x x != some .eq) = Fm.nanB x := by
  show (Ieee.double.order x x != some .eq) = _
  rw [Fm.order_self]; cases Fm.nanB x <;> rfl
theorem selfeq_eq (x : Nat) : (FloatKind.f64.format.order x x == some .eq) = !Fm.nanB x := by
  show (Ieee.double.order x x == some .eq) = _
  rw [Fm.order_self]; cases Fm.nanB x <;> rfl

set_option maxHeartbeats 400000 in
theorem IsNaN_any (x : Nat) (w : World) :
    Calls Try.prog 51 #[.float .f64 x] w fun e w' => e = .returned (.bool (Fm.nanB x)) ∧ w' = w := by
  go_enter Try.func51, Try.ntmps51
  go_wp2
  go_ret
  exact ⟨by rw [← isnan_eq x]; rfl, rfl⟩

set_option maxHeartbeats 400000 in
theorem ofBits_any (x : Int) (w : World) :
    Calls Try.prog 52 #[.int .u64 x] w fun e w' => e = .returned (AV 3 (wrap64 x)) ∧ Below w.heap.size w w' := by
  go_enter Try.func52, Try.ntmps52
  go_wp2
  exact bodyPost_ret (v := AV 3 (wrap64 x)) (by simp [results, Try.results52, go_sem]) rfl ⟨rfl, (Below.refl _ _).alloc (Nat.le_refl _) _⟩

theorem bcell {W w1 : World} (hb : Below W.heap.size W w1) : (∀ b o, b < W.heap.size → w1.cell? ⟨b, o, none⟩ = W.cell? ⟨b, o, none⟩) ∧ (∀ b o, b < W.heap.size → w1.frozen? ⟨b, o, none⟩ = W.frozen? ⟨b, o, none⟩) :=
  ⟨fun b o h => hb.cell (p := ⟨b, o, none⟩) h, fun b o h => hb.frozen (p := ⟨b, o, none⟩) h⟩

set_option maxHeartbeats 400000 in
theorem Float_any (x : Nat) (w : World) :
    Calls Try.prog 28 #[.float .f64 x] w fun e w' => e = .returned (AV 3 (flt x)) ∧ Below w.heap.size w w' := by
  cases h : Fm.nanB x
  · have hk := call_bits x
    go_enter Try.func28, Try.ntmps28
    go_wp2_with (first | (go_at_call 51; refine (IsNaN_any _ _).mono ?_; rintro e w' ⟨rfl, rfl⟩))
    go_wp2_with fail
    refine (ofBits_any _ _).mono ?_
    rintro e w1 ⟨rfl, hb⟩
    obtain ⟨hc, hf⟩ := bcell hb
    have hz : w.heap.size < w1.heap.size := by have := hb.size; simp at this; omega
    go_wp2
    exact bodyPost_ret (v := AV 3 (wrap64 x)) (by simp [results, Try.results28, go_sem, hc]) rfl ⟨by simp [flt, h, bi], ((((Below.refl _ _).alloc (Nat.le_refl _) _).trans (hb.mono (by simp))).setCell (Nat.le_refl _) _).setCell (Nat.le_refl _) _⟩
  · go_enter Try.func28, Try.ntmps28
    go_wp2_with (first | (go_at_call 51; refine (IsNaN_any _ _).mono ?_; rintro e w' ⟨rfl, rfl⟩))
    go_wp2_with fail
    refine (ofBits_any _ _).mono ?_
    rintro e w1 ⟨rfl, hb⟩
    obtain ⟨hc, hf⟩ := bcell hb
    have hz : w.heap.size < w1.heap.size := by have := hb.size; simp at this; omega
    go_wp2
    exact bodyPost_ret (v := AV 3 (wrap64 9221120237041090561)) (by simp [results, Try.results28, go_sem, hc]) rfl ⟨by simp [flt, h, wrap64], ((((Below.refl _ _).alloc (Nat.le_refl _) _).trans (hb.mono (by simp))).setCell (Nat.le_refl _) _).setCell (Nat.le_refl _) _⟩

theorem wrapnan {n : Int} (h1 : -9223372036854775808 ≤ n) (h2 : n ≤ 9223372036854775807) : (IntKind.u64.wrap n == 9221120237041090561) = (n == 9221120237041090561) := by
  rw [IntKind.wrap_u64, Bool.eq_iff_iff]; simp only [beq_iff_eq]; omega

set_option maxHeartbeats 400000 in
theorem Is_any (t n : Int) (w : World) (h1 : -9223372036854775808 ≤ n) (h2 : n ≤ 9223372036854775807) :
    Calls Try.prog 54 #[AV t n] w fun e w' => e = .returned (.bool (isNum t n)) ∧ Below w.heap.size w w' := by
  by_cases ht : t = 2
  · subst ht
    go_enter Try.func54, Try.ntmps54
    go_wp2
    go_ret
    exact ⟨by simp [isNum], (Below.refl _ _).alloc (Nat.le_refl _) _⟩
  · have ht2 : (t == 2) = false := by simp [ht]
    by_cases ht' : t = 3
    · subst ht'
      have hn := wrapnan h1 h2
      clear h1 h2 ht
      cases hb : (n == 9221120237041090561)
      · rw [hb] at hn
        go_enter Try.func54, Try.ntmps54
        go_wp2_with fail
        refine (pointed_any _ _ _).mono ?_
        rintro e w1 ⟨rfl, hb1⟩
        go_wp2_with (first | (go_at_call 51; refine (IsNaN_any _ _).mono ?_; rintro e w' ⟨rfl, rfl⟩))
        go_ret
        exact ⟨by simp [isNum, hb], ((Below.refl _ _).alloc (Nat.le_refl _) _).trans (hb1.mono (by simp))⟩
      · rw [hb] at hn
        go_enter Try.func54, Try.ntmps54
        go_wp2
        go_ret
        exact ⟨by simp [isNum, hb], (Below.refl _ _).alloc (Nat.le_refl _) _⟩
    · have ht3 : (t == 3) = false := by simp [ht']
      go_enter Try.func54, Try.ntmps54
      go_wp2
      go_ret
      exact ⟨by simp [isNum, ht2, ht3], (Below.refl _ _).alloc (Nat.le_refl _) _⟩

set_option maxHeartbeats 400000 in
theorem RIs_any (t n : Int) (w : World) :
    Calls Try.prog 40 #[AV t n] w fun e w' => e = .returned (.bool (isNum t n)) ∧ Below w.heap.size w w' := by
  by_cases ht : t = 2
  · subst ht
    go_enter Try.func40, Try.ntmps40
    go_wp2
    go_ret
    exact ⟨by simp [isNum], (Below.refl _ _).alloc (Nat.le_refl _) _⟩
  · have ht2 : (t == 2) = false := by simp [ht]
    by_cases ht' : t = 3
    · subst ht'
      clear ht
      have hq := selfeq_eq (B n)
      cases hb : Fm.nanB (B n)
      · rw [hb] at hq
        go_enter Try.func40, Try.ntmps40
        go_wp2_with fail
        refine (Real_any _ _ _).mono ?_
        rintro e w1 ⟨rfl, hb1⟩
        obtain ⟨hc, hf⟩ := bcell hb1
        have hz : w.heap.size < w1.heap.size := by have := hb1.size; simp at this; omega
        go_wp2
        go_ret
        exact ⟨by simp [isNum, hb], ((Below.refl _ _).alloc (Nat.le_refl _) _).trans (hb1.mono (by simp))⟩
      · rw [hb] at hq
        go_enter Try.func40, Try.ntmps40
        go_wp2_with fail
        refine (Real_any _ _ _).mono ?_
        rintro e w1 ⟨rfl, hb1⟩
        obtain ⟨hc, hf⟩ := bcell hb1
        have hz : w.heap.size < w1.heap.size := by have := hb1.size; simp at this; omega
        go_wp2
        go_ret
        exact ⟨by simp [isNum, hb], ((Below.refl _ _).alloc (Nat.le_refl _) _).trans (hb1.mono (by simp))⟩
    · have ht3 : (t != 3) = true := by simp [ht']
      have ht3' : (t == 3) = false := by simp [ht']
      go_enter Try.func40, Try.ntmps40
      go_wp2
      go_ret
      exact ⟨by simp [isNum, ht2, ht3'], (Below.refl _ _).alloc (Nat.le_refl _) _⟩
end Go.Proofs.Ythefmfjlinpepaa
