/- An operation of two values: every answer. -/
import Derived.Test.YtakpmefkddplhaaGreatDoorW11
namespace Go.Proofs.YtakpmefkddplhaaGreatDoor
open Go.RowKit

/-- The float operation of a number, and the int one. -/
def fOp (op : Int) : BinOp := if op = 1 then .add else if op = 2 then .sub else if op = 3 then .mul else .quo
def iOp (op m n : Int) : Int := if op = 1 then wrap64 (m + n) else if op = 2 then wrap64 (m - n) else wrap64 (m * n)
/-- The answer's error, type and N. -/
def opE (op s m t n : Int) : Int := if op < 1 ∨ 6 < op then 1 else if isNum s m && isNum t n then (if op < 5 then 0 else dvE s m t n) else 10
def opT (op s m t n : Int) : Int := if op < 1 ∨ 6 < op then 0 else if isNum s m && isNum t n then (if op < 5 then (if s = 2 ∧ t = 2 ∧ op < 4 then 2 else 3) else dvT s m t n) else 0
def opN (op s m t n : Int) : Int := if op < 1 ∨ 6 < op then 0 else if isNum s m && isNum t n then (if op < 5 then (if s = 2 ∧ t = 2 ∧ op < 4 then iOp op m n else fltO (floatBits (fOp op) .f64 (ofX s m) (ofX t n))) else if op = 5 then dvQ s m t n else dvR s m t n) else 0

theorem num3 {t n : Int} (h : isNum t n = true) : t = 2 ∨ t = 3 := by
  by_cases ht : t = 2
  · exact Or.inl ht
  · exact Or.inr (num_cases h ht)

theorem Op_any (op s m t n : Int) (w : World) (g1 : -9223372036854775808 ≤ m) (g2 : m ≤ 9223372036854775807) (h1 : -9223372036854775808 ≤ n) (h2 : n ≤ 9223372036854775807) :
    Calls Tryz.prog 26 #[.int .i64 op, AV s m, AV t n] w fun e w' => e = .returned (.tuple #[AV (opT op s m t n) (opN op s m t n), .int .i64 (opE op s m t n)]) ∧ Below w.heap.size w w' := by
  unfold opT opN opE
  by_cases ho : op < 1 ∨ 6 < op
  · simp only [ho, if_true]
    exact Op_arg op s m t n w ho
  · simp only [ho, if_false]
    cases hi : (isNum s m && isNum t n)
    · simp only [Bool.false_eq_true, if_false]
      refine Op_type op s m t n w (by omega) (by omega) g1 g2 h1 h2 ?_
      cases h : isNum s m
      · exact Or.inl rfl
      · rw [h] at hi; exact Or.inr hi
    · simp only [if_true]
      obtain ⟨i1, i2⟩ : isNum s m = true ∧ isNum t n = true := by simpa using hi
      have hc : op = 1 ∨ op = 2 ∨ op = 3 ∨ op = 4 ∨ op = 5 ∨ op = 6 := by omega
      rcases hc with rfl | rfl | rfl | rfl | rfl | rfl
      · rcases num3 i1 with rfl | rfl
        · rcases num3 i2 with rfl | rfl
          · exact Op_ints_1 m n w g1 g2 h1 h2
          · exact Op_fl_1a m n w g1 g2 h1 h2 i1 i2
        · exact Op_fl_1b t m n w g1 g2 h1 h2 i1 i2
      · rcases num3 i1 with rfl | rfl
        · rcases num3 i2 with rfl | rfl
          · exact Op_ints_2 m n w g1 g2 h1 h2
          · exact Op_fl_2a m n w g1 g2 h1 h2 i1 i2
        · exact Op_fl_2b t m n w g1 g2 h1 h2 i1 i2
      · rcases num3 i1 with rfl | rfl
        · rcases num3 i2 with rfl | rfl
          · exact Op_ints_3 m n w g1 g2 h1 h2
          · exact Op_fl_3a m n w g1 g2 h1 h2 i1 i2
        · exact Op_fl_3b t m n w g1 g2 h1 h2 i1 i2
      · have : ¬ (s = 2 ∧ t = 2 ∧ (4 : Int) < 4) := by omega
        simp only [this, if_false]
        exact Op_fl_4a s t m n w g1 g2 h1 h2 i1 i2
      · exact Op_div_5 s m t n w g1 g2 h1 h2 i1 i2
      · exact Op_div_6 s m t n w g1 g2 h1 h2 i1 i2
end Go.Proofs.YtakpmefkddplhaaGreatDoor
