/- Read, whatever the cells are. -/
import Derived.Test.YtnmchcanijkggaaP6
import Derived.Test.YtnmchcanijkggaaP7
namespace Go.Proofs.Ytnmchcanijkggaa
open Go.RowKit Go.Lib
set_option linter.unusedVariables false

/-- The head that cells tell, and how many aux cells it says. -/
def headOf (zs : List Int) : Hd := hdOf (zs.getD 0 0) (zs.getD 1 0)
def auxN (zs : List Int) : Nat := (headOf zs).x.toNat
def slotN (zs : List Int) : Nat := (headOf zs).l.toNat
/-- The aux cells and the slots that cells tell. -/
def auxOf (zs : List Int) : List Int := (zs.drop 2).take (auxN zs)
def slotsOf (zs : List Int) : List (Int × Int) := pairsOf (zs.drop (2 + auxN zs)) (slotN zs)
/-- Have cells a head, and are there as many as it says? -/
def sizedB (zs : List Int) : Bool := decide (2 ≤ zs.length) && (unB (zs.getD 0 0) (zs.getD 1 0) && decide ((zs.length : Int) = sizeN (headOf zs)))
/-- Are cells an object's? -/
def readB (zs : List Int) : Bool := sizedB zs && allB (slotsOf zs)

/-- What Read gives. -/
def ReadOut (zs : List Int) (w w' : World) (e : Ending) : Prop :=
  (readB zs = true ∧ ∃ av sv, e = .returned (.tuple #[AO (headOf zs) av sv, .int .i64 0]) ∧ Row w' w.heap.size av (auxOf zs) ∧ PRow w' w.heap.size sv (slotsOf zs)) ∨
  (readB zs = false ∧ e = .returned (.tuple #[AO h0 (.slice none 0 0) (.slice none 0 0), .int .i64 6]))

theorem un_right {a b : Int} (h : unB a b = true) : rightE (hdOf a b) = 0 ∧ c1 (hdOf a b) = a ∧ c2 (hdOf a b) = b := by
  simpa [unB, Bool.and_eq_true, decide_eq_true_eq] using h

/-- The room of a slice is a number that there is. -/
def RoomOK (v : Value) : Prop := ∀ ao n c, v = .slice ao n c → n ≤ c ∧ c ≤ 9223372036854775807

theorem Read_any (v : Value) (zs : List Int) (w : World) (hv : SliceIs w v zs) (hr : RoomOK v) (hI : Iall zs) (hm : zs.length ≤ 100000) :
    Calls Try.prog 29 #[v] w fun e w' => ReadOut zs w w' e ∧ Below w.heap.size w w' := by
  by_cases h2 : zs.length < 2
  · have hb : readB zs = false := by simp [readB, sizedB, show ¬ 2 ≤ zs.length by omega]
    exact (Read_short v zs w hv h2).mono fun e w' ⟨he, hb'⟩ => ⟨Or.inr ⟨hb, he⟩, hb'⟩
  have hv' := hv
  rcases hv with ⟨_, _, rfl⟩ | ⟨b, off, cap, rfl, hc⟩
  · exact absurd h2 (by simp)
  have HC : Hid (∀ W, Below w.heap.size w W → W.cell? ⟨b, off, none⟩ = some (.int .i64 (zs.getD 0 0)) ∧ W.cell? ⟨b, off + 1, none⟩ = some (.int .i64 (zs.getD 1 0))) :=
    fun W hb => ⟨cell_later hb (hc 0 (by omega)), cell_later hb (hc 1 (by omega))⟩
  have hz : 2 ≤ zs.length := by omega
  obtain ⟨r1, r2⟩ := hr _ _ _ rfl
  cases hu : unB (zs.getD 0 0) (zs.getD 1 0)
  · have hb : readB zs = false := by simp only [readB, sizedB, hu, Bool.false_and, Bool.and_false]
    refine (Read_head b off zs.length cap _ _ w HC hz (fun W => ?_)).mono fun e w' ⟨he, hb'⟩ => ⟨Or.inr ⟨hb, he⟩, hb'⟩
    have := Unpack_any (zs.getD 0 0) (zs.getD 1 0) W
    rwa [show unH (zs.getD 0 0) (zs.getD 1 0) = h0 by simp only [unH, hu]; rfl, show unE (zs.getD 0 0) (zs.getD 1 0) = 6 by simp only [unE, hu]; rfl] at this
  have HU : Hid (∀ W, Calls Try.prog 20 #[.int .i64 (zs.getD 0 0), .int .i64 (zs.getD 1 0)] W fun e w' => e = .returned (.tuple #[AH (headOf zs), .int .i64 0]) ∧ Below W.heap.size W w') := fun W => by
    have := Unpack_any (zs.getD 0 0) (zs.getD 1 0) W
    rwa [show unH (zs.getD 0 0) (zs.getD 1 0) = headOf zs by simp only [unH, hu, if_true]; rfl, show unE (zs.getD 0 0) (zs.getD 1 0) = 0 by simp only [unE, hu, if_true]] at this
  have HZ : Hid (∀ W, Calls Try.prog 16 #[AH (headOf zs)] W fun e w' => e = .returned (.int .i64 (sizeN (headOf zs))) ∧ Below W.heap.size W w') := fun W => Size_any _ W
  by_cases hs : (zs.length : Int) = sizeN (headOf zs)
  · have hb : readB zs = allB (slotsOf zs) := by simp only [readB, sizedB, hu, decide_eq_true hs, decide_eq_true hz, Bool.true_and]
    have hright := un_right hu
    have hbd := right_bds hright.1
    have e1 : (headOf zs).x = (auxN zs : Int) := by unfold auxN; have := hbd.x; show _ = _; rw [Int.toNat_of_nonneg (show 0 ≤ (headOf zs).x from this.1)]
    have e2 : (headOf zs).l = (slotN zs : Int) := by unfold slotN; have := hbd.l; show _ = _; rw [Int.toNat_of_nonneg (show 0 ≤ (headOf zs).l from this.1)]
    have hL : zs.length = 2 + auxN zs + 2 * slotN zs := by
      have h3 := hs
      rw [sizeN, if_pos (show rightE (headOf zs) = 0 from hright.1), e1, e2] at h3
      omega
    have HZ' : Hid (∀ W, Calls Try.prog 16 #[AH (headOf zs)] W fun e w' => e = .returned (.int .i64 (zs.length : Int)) ∧ Below W.heap.size W w') := fun W => by rw [hs]; exact HZ.out W
    have fin : ∀ (e : Ending) (w' : World), (((allB (pairsOf (zs.drop (2 + auxN zs)) (slotN zs)) = true ∧ ∃ av sv, e = .returned (.tuple #[AO (headOf zs) av sv, .int .i64 0]) ∧ Row w' w.heap.size av ((zs.drop 2).take (auxN zs)) ∧ PRow w' w.heap.size sv (pairsOf (zs.drop (2 + auxN zs)) (slotN zs))) ∨
        (allB (pairsOf (zs.drop (2 + auxN zs)) (slotN zs)) = false ∧ e = .returned (.tuple #[AO h0 (.slice none 0 0) (.slice none 0 0), .int .i64 6]))) ∧ Below w.heap.size w w') → ReadOut zs w w' e ∧ Below w.heap.size w w' := by
      rintro e w' ⟨h, hb'⟩
      refine ⟨?_, hb'⟩
      unfold ReadOut
      rw [hb]
      exact h
    rcases (show 2 + auxN zs < cap ∨ (cap = 2 + auxN zs ∧ 0 < auxN zs) ∨ (cap = 2 ∧ auxN zs = 0) by omega) with hcx | ⟨hcx, hx0⟩ | ⟨hcx, hx0⟩
    · exact (Read_ok (headOf zs) (auxN zs) (slotN zs) zs b off zs.length cap _ _ w HC hz HU HZ' e1 hL r1 r2 rfl hv' hI hm hcx).mono fin
    · exact (Read_okB (headOf zs) (auxN zs) (slotN zs) zs b off zs.length cap _ _ w HC hz HU HZ' e1 hL r1 r2 rfl hv' hI hm hcx hx0).mono fin
    · exact (Read_okA (headOf zs) (auxN zs) (slotN zs) zs b off zs.length cap _ _ w HC hz HU HZ' e1 hL r1 r2 rfl hv' hI hm hcx hx0).mono fin
  · have hb : readB zs = false := by simp [readB, sizedB, hs]
    exact (Read_size (headOf zs) _ b off zs.length cap _ _ w HC hz HU HZ (by simpa using hs)).mono fun e w' ⟨he, hb'⟩ => ⟨Or.inr ⟨hb, he⟩, hb'⟩
end Go.Proofs.Ytnmchcanijkggaa
