/- Two lists of points compared; the document's Shrink; Shrink. -/
import Derived.Test.YtbhmgmbgplkkeaaDoorS1
import Derived.StillTail
namespace Go.Proofs.YtbhmgmbgplkkeaaDoor
open Go.RowKit
set_option linter.unusedSimpArgs false
set_option linter.unusedVariables false

theorem mixed : Tryd.prog.follows .mixedOrders = true := by kernel_rfl

set_option maxRecDepth 20000 in
set_option maxHeartbeats 2000000 in
/-- Are two lists the same? -/
theorem RPoints_any {w : World} {av bv : Value} {A B : List V} (hA : RdV w av A) (hB : RdV w bv B) (hn : A.length ≤ 1000000) (hm : B.length ≤ 1000000) :
    Calls Tryd.prog 17 #[av, bv] w fun e w' => e = .returned (.bool (decide (A = B))) ∧ Kept No w w' := by
  obtain ⟨ao, ac, rfl, ha, hA⟩ := hA
  obtain ⟨bo, bc, rfl, hb, hB⟩ := hB
  obtain ⟨R, HR⟩ : ∃ R, Hid (decide (A = B) = R) := ⟨_, rfl⟩
  rw [HR.out]
  by_cases hl : A.length = B.length
  case neg =>
    have hR : R = false := by rw [← HR.out, decide_eq_false_iff_not]; exact fun e => hl (by rw [e])
    subst hR
    have h1 : ((A.length : Int) == (B.length : Int)) = false := by rw [beq_eq_false_iff_ne]; omega
    clear hA hB
    go_enter Tryd.func17, Tryd.ntmps17
    go_wp2
    go_ret
    exact ⟨rfl, Kept.refl _ _⟩
  have h1 : ((A.length : Int) != (B.length : Int)) = false := by rw [bne_eq_false_iff_eq]; omega
  have HL : Hid (A.length = B.length) := hl
  clear hl
  go_enter Tryd.func17, Tryd.ntmps17
  go_wp2_with fail
  go_loopw [5] (fun i wr => ∃ j : Nat, j ≤ A.length ∧ i = .int .i64 j ∧ Hid (A.take j = B.take j ∧ Kept No w wr)) (fun i _ => A.length - (intOf i).toNat)
  case atStart => exact ⟨0, by omega, rfl, by simp, Kept.refl _ _⟩
  case round =>
    obtain ⟨j, hj, rfl, HJ⟩ := hrel
    by_cases hlt : j < A.length
    · obtain ⟨ab, aoff, rfl, a0, a1⟩ := hA j hlt
      obtain ⟨bb, boff, rfl, b0, b1⟩ := hB j (by have := HL.out; omega)
      have HX : Hid (∀ b o v, w.cell? ⟨b, o, none⟩ = some v → wr.cell? ⟨b, o, none⟩ = some v) := fun b o v h => by
        have hb : b < w.heap.size := by
          rcases Nat.lt_or_ge b w.heap.size with hb | hb
          · exact hb
          · simp [World.cell?, Array.getElem?_eq_none hb] at h
        rw [World.cell?_of_block (HJ.out.2.block b hb id)]; exact h
      have k0 := HX.out _ _ _ a0
      have k1 := HX.out _ _ _ a1
      have k2 := HX.out _ _ _ b0
      have k3 := HX.out _ _ _ b1
      clear a0 a1 b0 b1 hA hB
      have HAt : Hid (A[j]? = some A[j] ∧ B[j]? = some B[j]) := ⟨List.getElem?_eq_getElem hlt, List.getElem?_eq_getElem (by have := HL.out; omega)⟩
      have hjb : j < B.length := by have := HL.out; omega
      have HTk : Hid (A.take (j + 1) = A.take j ++ [A[j]] ∧ B.take (j + 1) = B.take j ++ [B[j]]) := ⟨List.take_succ_eq_append_getElem hlt, List.take_succ_eq_append_getElem hjb⟩
      have hlb : (j : Int) < (B.length : Int) := by omega
      generalize A[j] = p at k0 k1 HAt HTk
      generalize B[j] = q at k2 k3 HAt HTk
      obtain ⟨p1, p2⟩ := p
      obtain ⟨q1, q2⟩ := q
      by_cases hpq : p1 = q1 ∧ p2 = q2
      · obtain ⟨rfl, rfl⟩ := hpq
        go_wp2_with fail
        go_quiet (fail)
        go_wp2
        go_round
        case rel => exact ⟨j + 1, by omega, by go_num, by rw [HTk.out.1, HTk.out.2, HJ.out.1], HJ.out.2.drewN _⟩
        case measure => simp [intOf] <;> omega
      · have hR : Hid (R = false) := by
          show _ = _
          rw [← HR.out, decide_eq_false_iff_not]
          intro e
          subst e
          have := HAt.out.1.symm.trans HAt.out.2
          injection this with this
          injection this with e1 e2
          exact hpq ⟨e1, e2⟩
        by_cases h0 : p1 = q1
        · subst h0
          have h2 : (p2 == q2) = false := by rw [beq_eq_false_iff_ne]; exact fun e => hpq ⟨rfl, e⟩
          go_wp2_with fail
          go_quiet (fail)
          go_wp2
          go_ret
          exact ⟨by rw [hR.out]; rfl, HJ.out.2.drewN _⟩
        · have h2 : (p1 == q1) = false := by rw [beq_eq_false_iff_ne]; exact h0
          go_wp2_with fail
          go_quiet (fail)
          go_wp2
          go_ret
          exact ⟨by rw [hR.out]; rfl, HJ.out.2.drewN _⟩
    · obtain rfl : j = A.length := by omega
      have hR : Hid (R = true) := by
        show _ = _
        rw [← HR.out, decide_eq_true_eq]
        have := HJ.out.1
        rw [List.take_length, HL.out, List.take_length] at this
        exact this
      clear hA hB
      go_wp2
      go_ret
      exact ⟨by rw [hR.out]; rfl, HJ.out.2⟩
end Go.Proofs.YtbhmgmbgplkkeaaDoor
