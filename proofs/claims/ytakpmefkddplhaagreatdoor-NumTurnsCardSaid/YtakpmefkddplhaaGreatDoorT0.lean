/- Plain facts: a sum and a product turned round; a difference as a sum with the negative. -/
import Derived.Test.YtakpmefkddplhaaGreatDoorW12
import Derived.Test.YtakpmefkddplhaaGreatDoorR0
namespace Go.Proofs.YtakpmefkddplhaaGreatDoor
open Go.RowKit

theorem turn_eq (op s m t n : Int) (ho : op = 1 ∨ op = 3) : opE op t n s m = opE op s m t n ∧ opT op t n s m = opT op s m t n ∧ opN op t n s m = opN op s m t n := by
  have hand : (isNum t n && isNum s m) = (isNum s m && isNum t n) := Bool.and_comm _ _
  have hc : (t = 2 ∧ s = 2 ∧ op < 4) ↔ (s = 2 ∧ t = 2 ∧ op < 4) := by omega
  have hi : iOp op n m = iOp op m n := by
    unfold iOp; rw [Int.add_comm, Int.mul_comm]
    rcases ho with rfl | rfl <;> rfl
  have hf : floatBits (fOp op) .f64 (ofX t n) (ofX s m) = floatBits (fOp op) .f64 (ofX s m) (ofX t n) := by
    rcases ho with rfl | rfl
    · exact Fm.add_comm _ _
    · exact Fm.mul_comm _ _
  refine ⟨?_, ?_, ?_⟩
  · unfold opE; rw [hand]; rcases ho with rfl | rfl <;> simp
  · unfold opT; rw [hand]; simp only [hc]; rcases ho with rfl | rfl <;> simp
  · unfold opN; rw [hand, hi, hf]; simp only [hc]; rcases ho with rfl | rfl <;> simp

theorem add_nan (x : Nat) {y : Nat} (h : Fm.nanB y = true) : Ieee.double.add x y = none ∧ Ieee.double.sub x y = none := by
  obtain ⟨s, t, e⟩ := Fm.read_nan h
  unfold Ieee.Format.add Ieee.Format.sub
  rw [e]
  constructor <;> cases Ieee.double.read x <;> rfl

theorem ng_num {t n : Int} (h : isNum t n = true) : isNum (ngT t n) (ngN t n) = true ∧ ngT t n = t := by
  have ht : ngT t n = t := by simp [ngT, h]
  refine ⟨?_, ht⟩
  rw [ht]
  rcases num3 h with rfl | rfl
  · rfl
  · have : ngN 3 n = flt (Fm.neg (B n)) := by simp [ngN, h]
    rw [this]
    generalize hy : Fm.neg (B n) = y
    have hlt : y < 18446744073709551616 := by rw [← hy]; exact Fm.neg_lt (B_lt n)
    clear hy
    unfold isNum flt
    cases hn : Fm.nanB y
    · rw [if_neg (by decide), B_bi hlt, hn]; simp
    · rw [if_pos rfl]; simp

theorem nan_nan : Fm.nanB (B 9221120237041090561) = true := by decide +kernel

theorem add_flt (x : Nat) {y : Nat} (hy : y < 18446744073709551616) : Ieee.double.add x (B (flt (Fm.neg y))) = Ieee.double.sub x y := by
  have hl := Fm.neg_lt hy
  have hs := Fm.sub_neg x hy
  have hn := Fm.nan_neg hy
  generalize Fm.neg y = z at *
  unfold flt
  cases h : Fm.nanB z
  · rw [if_neg (by decide), B_bi hl]
    exact hs
  · rw [if_pos rfl, (add_nan x nan_nan).1, (add_nan x (hn ▸ h)).2]

theorem ofX_neg {n : Int} (hn : isNum 3 n = true) (x : Nat) : floatBits .add .f64 x (ofX 3 (ngN 3 n)) = floatBits .sub .f64 x (ofX 3 n) := by
  have o1 : ofX 3 (ngN 3 n) = B (flt (Fm.neg (B n))) := by simp [ofX, ngN, hn]
  have o2 : ofX 3 n = B n := by simp [ofX]
  rw [o1, o2]
  exact add_flt x (B_lt n)

/-- A difference of two of one type is the sum with the negative. -/
theorem diff_eq (s m n : Int) (hn : isNum s n = true) :
    opE 1 s m (ngT s n) (ngN s n) = opE 2 s m s n ∧ opT 1 s m (ngT s n) (ngN s n) = opT 2 s m s n ∧ opN 1 s m (ngT s n) (ngN s n) = opN 2 s m s n := by
  obtain ⟨k1, k2⟩ := ng_num hn
  have b1 : ¬ ((1 : Int) < 1 ∨ (6 : Int) < 1) := by omega
  have b2 : ¬ ((2 : Int) < 1 ∨ (6 : Int) < 2) := by omega
  rw [k2] at k1
  rw [k2]
  refine ⟨?_, ?_, ?_⟩
  · unfold opE; rw [if_neg b1, if_neg b2, k1, hn]; rfl
  · unfold opT; rw [if_neg b1, if_neg b2, k1, hn]
    have e1 : (s = 2 ∧ s = 2 ∧ (1 : Int) < 4) ↔ (s = 2 ∧ s = 2 ∧ (2 : Int) < 4) := by omega
    simp only [e1]; rfl
  · unfold opN; rw [if_neg b1, if_neg b2, k1, hn]
    cases hm : (isNum s m && true)
    · rfl
    · simp only [if_true]
      have e1 : (1 : Int) < 5 := by omega
      have e2 : (2 : Int) < 5 := by omega
      simp only [e1, e2, if_true]
      rcases num3 hn with rfl | rfl
      · have c1 : ((2 : Int) = 2 ∧ (2 : Int) = 2 ∧ (1 : Int) < 4) := by omega
        have c2 : ((2 : Int) = 2 ∧ (2 : Int) = 2 ∧ (2 : Int) < 4) := by omega
        rw [if_pos c1, if_pos c2]
        have e : ngN 2 n = wrap64 (-n) := by simp [ngN, hn]
        rw [e]
        unfold iOp
        simp
        unfold wrap64
        omega
      · have c1 : ¬ ((3 : Int) = 2 ∧ (3 : Int) = 2 ∧ (1 : Int) < 4) := by omega
        have c2 : ¬ ((3 : Int) = 2 ∧ (3 : Int) = 2 ∧ (2 : Int) < 4) := by omega
        rw [if_neg c1, if_neg c2]
        exact congrArg fltO (ofX_neg hn _)
end Go.Proofs.YtakpmefkddplhaaGreatDoor
