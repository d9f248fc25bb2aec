/- Numbers as floats, their negatives, and as keys, in the program and in the document's answer. -/
import Derived.Test.YthefmfjlinpepaaW3
namespace Go.Proofs.Ythefmfjlinpepaa
open Go.RowKit

/-- A number as a float. -/
def ofX (t n : Int) : Nat := if t = 2 then Fm.ofInt n else B n

theorem ofInt_eq (n : Int) : floatOfInt .f64 n = Fm.ofInt n := rfl

set_option maxHeartbeats 1000000 in
theorem Of_any (t n : Int) (w : World) (h1 : -9223372036854775808 ≤ n) (h2 : n ≤ 9223372036854775807) :
    Calls Try.prog 71 #[AV t n] w fun e w' => e = .returned (.tuple #[.float .f64 (if isNum t n then ofX t n else 0), .bool (isNum t n)]) ∧ Below w.heap.size w w' := by
  cases hi : isNum t n
  · go_enter Try.func71, Try.ntmps71
    go_wp2_with fail
    refine (Is_any _ _ _ h1 h2).mono ?_
    rintro e w1 ⟨rfl, hb⟩
    obtain ⟨hc, hf⟩ := bcell hb
    have hz := size1 hb
    go_wp2
    go_ret2
    exact ⟨rfl, end1 hb⟩
  · by_cases ht : t = 2
    · subst ht
      go_enter Try.func71, Try.ntmps71
      go_wp2_with fail
      refine (Is_any _ _ _ h1 h2).mono ?_
      rintro e w1 ⟨rfl, hb⟩
      obtain ⟨hc, hf⟩ := bcell hb
      have hz := size1 hb
      go_wp2
      go_ret2
      exact ⟨by simp only [ofX]; rfl, end1 hb⟩
    · obtain rfl := num_cases hi ht
      clear ht
      go_enter Try.func71, Try.ntmps71
      go_wp2_with fail
      refine (Is_any _ _ _ h1 h2).mono ?_
      rintro e w1 ⟨rfl, hb⟩
      obtain ⟨hc, hf⟩ := bcell hb
      have hz := size1 hb
      go_wp2_with fail
      refine (pointed_any _ _ _).mono ?_
      rintro e w2 ⟨rfl, hb2⟩
      go_wp2
      go_ret2
      exact ⟨by simp only [ofX]; rfl, (end1 hb).trans (hb2.mono (by omega))⟩

/-- The negative's N, and the error. -/
def ngN (t n : Int) : Int := if isNum t n then (if t = 2 then wrap64 (-n) else flt (Fm.neg (B n))) else 0
def ngT (t n : Int) : Int := if isNum t n then t else 0
def ngE (t n : Int) : Int := if isNum t n then 0 else 10

theorem end2 {w w1 : World} {o p : Obj} (hb : Below ((w.alloc o).alloc p).heap.size ((w.alloc o).alloc p) w1) : Below w.heap.size w w1 :=
  (((Below.refl _ _).alloc (Nat.le_refl _) _).alloc (by simp) _).trans (hb.mono (by simp; omega))

theorem size2 {w w1 : World} {o p : Obj} (hb : Below ((w.alloc o).alloc p).heap.size ((w.alloc o).alloc p) w1) : w.heap.size + 1 < w1.heap.size := by
  have := hb.size; simp at this; omega


end Go.Proofs.Ythefmfjlinpepaa
