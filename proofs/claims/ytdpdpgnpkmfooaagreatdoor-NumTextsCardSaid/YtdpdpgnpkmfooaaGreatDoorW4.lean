/- Numbers as floats, their negatives, and as keys, in the program and in the document's answer. -/
import Derived.Test.YtdpdpgnpkmfooaaGreatDoorW3
namespace Go.Proofs.YtdpdpgnpkmfooaaGreatDoor
open Go.RowKit

/-- A number as a float. -/
def ofX (t n : Int) : Nat := if t = 2 then Fm.ofInt n else B n

theorem ofInt_eq (n : Int) : floatOfInt .f64 n = Fm.ofInt n := rfl

set_option maxHeartbeats 1000000 in
theorem Of_any (t n : Int) (w : World) (h1 : -9223372036854775808 ≤ n) (h2 : n ≤ 9223372036854775807) :
    Calls Tryz.prog 13 #[AV t n] w fun e w' => e = .returned (.tuple #[.float .f64 (if isNum t n then ofX t n else 0), .bool (isNum t n)]) ∧ Below w.heap.size w w' := by
  cases hi : isNum t n
  · go_enter Tryz.func13, Tryz.ntmps13
    go_wp2_with fail
    refine (Is_any _ _ _ h1 h2).mono ?_
    rintro e w1 ⟨rfl, hb⟩
    obtain ⟨hc, hf⟩ := bcell hb
    have hz := size1 hb
    go_wp2
    go_ret2
    exact ⟨rfl, end1 hb⟩
  · by_cases ht : t = 2
    · subst ht
      go_enter Tryz.func13, Tryz.ntmps13
      go_wp2_with fail
      refine (Is_any _ _ _ h1 h2).mono ?_
      rintro e w1 ⟨rfl, hb⟩
      obtain ⟨hc, hf⟩ := bcell hb
      have hz := size1 hb
      go_wp2
      go_ret2
      exact ⟨by simp only [ofX]; rfl, end1 hb⟩
    · obtain rfl := num_cases hi ht
      clear ht
      go_enter Tryz.func13, Tryz.ntmps13
      go_wp2_with fail
      refine (Is_any _ _ _ h1 h2).mono ?_
      rintro e w1 ⟨rfl, hb⟩
      obtain ⟨hc, hf⟩ := bcell hb
      have hz := size1 hb
      go_wp2_with fail
      refine (pointed_any _ _ _).mono ?_
      rintro e w2 ⟨rfl, hb2⟩
      go_wp2
      go_ret2
      exact ⟨by simp only [ofX]; rfl, (end1 hb).trans (hb2.mono (by omega))⟩

set_option maxHeartbeats 1000000 in
theorem ROf_any (t n : Int) (w : World) :
    Calls Tryz.prog 23 #[AV t n] w fun e w' => e = .returned (.float .f64 (ofX t n)) ∧ Below w.heap.size w w' := by
  by_cases ht : t = 2
  · subst ht
    go_enter Tryz.func23, Tryz.ntmps23
    go_wp2
    go_ret
    exact ⟨by simp only [ofX]; rfl, (Below.refl _ _).alloc (Nat.le_refl _) _⟩
  · have HO : Hid (ofX t n = B n) := by show ofX t n = B n; simp [ofX, ht]
    have ht2 : (t == 2) = false := by simp [ht]
    clear ht
    go_enter Tryz.func23, Tryz.ntmps23
    go_wp2_with fail
    refine (Real_any _ _ _).mono ?_
    rintro e w1 ⟨rfl, hb⟩
    go_wp2
    go_ret
    exact ⟨by rw [HO.out]; rfl, end1 hb⟩

/-- The negative's N, and the error. -/
def ngN (t n : Int) : Int := if isNum t n then (if t = 2 then wrap64 (-n) else flt (Fm.neg (B n))) else 0
def ngT (t n : Int) : Int := if isNum t n then t else 0
def ngE (t n : Int) : Int := if isNum t n then 0 else 10

theorem end2 {w w1 : World} {o p : Obj} (hb : Below ((w.alloc o).alloc p).heap.size ((w.alloc o).alloc p) w1) : Below w.heap.size w w1 :=
  (((Below.refl _ _).alloc (Nat.le_refl _) _).alloc (by simp) _).trans (hb.mono (by simp; omega))

theorem size2 {w w1 : World} {o p : Obj} (hb : Below ((w.alloc o).alloc p).heap.size ((w.alloc o).alloc p) w1) : w.heap.size + 1 < w1.heap.size := by
  have := hb.size; simp at this; omega

set_option maxHeartbeats 1000000 in
theorem Neg_any (t n : Int) (w : World) (h1 : -9223372036854775808 ≤ n) (h2 : n ≤ 9223372036854775807) :
    Calls Tryz.prog 28 #[AV t n] w fun e w' => e = .returned (.tuple #[AV (ngT t n) (ngN t n), .int .i64 (ngE t n)]) ∧ Below w.heap.size w w' := by
  cases hi : isNum t n
  · have HN : Hid (ngT t n = 0 ∧ ngN t n = 0 ∧ ngE t n = 10) := ⟨by simp [ngT, hi], by simp [ngN, hi], by simp [ngE, hi]⟩
    go_enter Tryz.func28, Tryz.ntmps28
    go_wp2_with fail
    refine (Is_any _ _ _ h1 h2).mono ?_
    rintro e w1 ⟨rfl, hb⟩
    obtain ⟨hc, hf⟩ := bcell hb
    have hz := size2 hb
    go_wp2
    refine bodyPost_ret (v := .tuple #[AV 0 0, .int .i64 10]) (by simp [results, Tryz.results28, go_sem, hc]) rfl ⟨by rw [HN.out.1, HN.out.2.1, HN.out.2.2], ?_⟩
    exact ((end2 hb).setCell (by simp) _).setCell (by simp) _
  · by_cases ht : t = 2
    · subst ht
      have HN : Hid (ngT 2 n = 2 ∧ ngN 2 n = wrap64 (-n) ∧ ngE 2 n = 0) := ⟨by simp [ngT, hi], by simp [ngN, hi], by simp [ngE, hi]⟩
      go_enter Tryz.func28, Tryz.ntmps28
      go_wp2_with fail
      refine (Is_any _ _ _ h1 h2).mono ?_
      rintro e w1 ⟨rfl, hb⟩
      obtain ⟨hc, hf⟩ := bcell hb
      have hz := size2 hb
      go_wp2_with fail
      refine (Int_any _ _).mono ?_
      rintro e w2 ⟨rfl, hb2⟩
      obtain ⟨hc2, hf2⟩ := bcell hb2
      have hz2 := hb2.size
      go_wp2
      refine bodyPost_ret (v := .tuple #[AV 2 (wrap64 (-n)), .int .i64 0]) (by simp [results, Tryz.results28, go_sem, hc, hc2, hz]) rfl ⟨by rw [HN.out.1, HN.out.2.1, HN.out.2.2], ?_⟩
      exact (((end2 hb).trans (hb2.mono (by omega))).setCell (by simp) _).setCell (by simp) _
    · obtain rfl := num_cases hi ht
      clear ht
      have hneg : ∀ w, (Op.unary .neg (.float .f64 (B n))).run Tryz.prog w = .ok (.float .f64 (Fm.neg (B n))) w := fun _ => rfl
      have HN : Hid (ngT 3 n = 3 ∧ ngN 3 n = flt (Fm.neg (B n)) ∧ ngE 3 n = 0) := ⟨by simp [ngT, hi], by simp [ngN, hi], by simp [ngE, hi]⟩
      go_enter Tryz.func28, Tryz.ntmps28
      go_wp2_with fail
      refine (Is_any _ _ _ h1 h2).mono ?_
      rintro e w1 ⟨rfl, hb⟩
      obtain ⟨hc, hf⟩ := bcell hb
      have hz := size2 hb
      go_wp2_with fail
      refine (pointed_any _ _ _).mono ?_
      rintro e w2 ⟨rfl, hb2⟩
      obtain ⟨hc2, hf2⟩ := bcell hb2
      have hz2 := hb2.size
      have hz' : w.heap.size + 1 < w2.heap.size := by omega
      go_wp2_with fail
      refine (Float_any (Fm.neg (B n)) _).mono ?_
      rintro e w3 ⟨rfl, hb3⟩
      obtain ⟨hc3, hf3⟩ := bcell hb3
      have hz3 := hb3.size
      go_wp2
      refine bodyPost_ret (v := .tuple #[AV 3 (flt (Fm.neg (B n))), .int .i64 0]) (by simp [results, Tryz.results28, go_sem, hc, hc2, hc3, hz, hz']) rfl ⟨by rw [HN.out.1, HN.out.2.1, HN.out.2.2], ?_⟩
      exact ((((end2 hb).trans (hb2.mono (by omega))).trans (hb3.mono (by omega))).setCell (by simp) _).setCell (by simp) _
end Go.Proofs.YtdpdpgnpkmfooaaGreatDoor
