/- Why a scene may not be; a point's line. -/
import Derived.Test.YtbhmgmbgplkkeaaDoorU1
namespace Go.Proofs.YtbhmgmbgplkkeaaDoor
open Go.RowKit
set_option linter.unusedSimpArgs false
set_option linter.unusedVariables false

/-- Why a scene may not be. -/
def faultF (x : Sc) : Nat :=
  if x.size < 1 ∨ 65536 < x.size ∨ x.steps < 0 ∨ 20000 < x.steps then 7
  else if 4000 < x.pts.length then 4
  else if x.pts.all fitsP = false then 6
  else if 8192 < x.src.length then 3
  else 0

set_option maxRecDepth 20000 in
set_option maxHeartbeats 4000000 in
theorem fault_any {w : World} {z n : Int} {pv : Value} {src : ByteArray} {L : List V} (hL : RdV w pv L) (hn : L.length ≤ 140737488355328) (hs : src.size ≤ 140737488355328) (hr : RowsIs w) :
    Calls Tryd.prog 26 #[.agg #[.int .i64 z, .int .i64 n, pv, .string src]] w fun e w' => e = .returned (.int .i64 (faultF ⟨z, n, L, bl src⟩ : Int)) ∧ Kept No w w' := by
  obtain ⟨ao, cap, rfl, hcap, hC⟩ := hL
  obtain ⟨W, HW⟩ : ∃ W, Hid (W = w.alloc (.cells #[.int .i64 z, .int .i64 n, .slice ao L.length cap, .string src] 25)) := ⟨_, rfl⟩
  have HK : Hid (Kept No w W) := by show Kept _ _ _; rw [HW.out]; exact (Kept.refl No w).alloc _
  have HB : Hid (W.heap[w.heap.size]? = some (.cells #[.int .i64 z, .int .i64 n, .slice ao L.length cap, .string src] 25 (0, 0))) := by show _ = _; rw [HW.out]; exact World.alloc_heap_new w _
  obtain ⟨b, hb⟩ : ∃ b, Hid (b = w.heap.size) := ⟨_, rfl⟩
  have HBx : Hid (∀ X, Kept No W X → X.heap[b]? = some (.cells #[.int .i64 z, .int .i64 n, .slice ao L.length cap, .string src] 25 (0, 0))) := fun X hX => by rw [hb.out]; exact hX.heap HB.out id
  have b0 : W.cell? ⟨b, 0, none⟩ = some (.int .i64 z) := by rw [cell_of (HBx.out W (Kept.refl _ _))]; rfl
  have b1 : W.cell? ⟨b, 1, none⟩ = some (.int .i64 n) := by rw [cell_of (HBx.out W (Kept.refl _ _))]; rfl
  have b2 : W.cell? ⟨b, 2, none⟩ = some (.slice ao L.length cap) := by rw [cell_of (HBx.out W (Kept.refl _ _))]; rfl
  have b3 : W.cell? ⟨b, 3, none⟩ = some (.string src) := by rw [cell_of (HBx.out W (Kept.refl _ _))]; rfl
  have HRo : Hid (∀ X, Kept No w X → ∀ p : V, Calls Tryd.prog 41 #[AV p] X fun e w' => e = .returned (.bool (fitsP p)) ∧ Kept No X w') := fun X hX p => mayBePoint_any p X (hr.no hX)
  obtain ⟨F, HF⟩ : ∃ F, Hid (faultF ⟨z, n, L, bl src⟩ = F) := ⟨_, rfl⟩
  rw [HF.out]
  clear hr
  by_cases hz : (decide ((1 : Int) ≤ z) && decide (z ≤ 65536)) = true
  case neg =>
    have hz' : (decide ((1 : Int) ≤ z) && decide (z ≤ 65536)) = false := by simpa using hz
    have hF : F = 7 := by
      rw [← HF.out]; unfold faultF
      rw [if_pos]
      rw [Bool.and_eq_false_iff, decide_eq_false_iff_not, decide_eq_false_iff_not] at hz'
      show z < 1 ∨ 65536 < z ∨ _; omega
    have HM : Hid (∀ X, Calls Tryd.prog 39 #[.int .i64 z] X fun e w' => e = .returned (.bool false) ∧ X = w') := fun X => by
      have := mayBeSize_any z X
      rwa [hz'] at this
    clear hz hz' HF
    go_enter Tryd.func26, Tryd.ntmps26
    go_wp2_with (first | rw [← HW.out, ← hb.out] | (go_at_call 39; refine Calls.mono (HM.out _) ?_; rintro e w' ⟨rfl, rfl⟩))
    go_ret
    exact ⟨by rw [hF]; rfl, HK.out⟩
  have HM1 : Hid (∀ X, Calls Tryd.prog 39 #[.int .i64 z] X fun e w' => e = .returned (.bool true) ∧ X = w') := fun X => by
    have := mayBeSize_any z X
    rwa [hz] at this
  by_cases hst : (decide ((0 : Int) ≤ n) && decide (n ≤ 20000)) = true
  case neg =>
    have hst' : (decide ((0 : Int) ≤ n) && decide (n ≤ 20000)) = false := by simpa using hst
    have hF : F = 7 := by
      rw [← HF.out]; unfold faultF
      rw [if_pos]
      rw [Bool.and_eq_false_iff, decide_eq_false_iff_not, decide_eq_false_iff_not] at hst'
      show z < 1 ∨ 65536 < z ∨ n < 0 ∨ 20000 < n; omega
    have HM : Hid (∀ X, Calls Tryd.prog 40 #[.int .i64 n] X fun e w' => e = .returned (.bool false) ∧ X = w') := fun X => by
      have := mayBeSteps_any n X
      rwa [hst'] at this
    clear hz hst hst' HF
    go_enter Tryd.func26, Tryd.ntmps26
    go_wp2_with (first | rw [← HW.out, ← hb.out] | (go_at_call 39; refine Calls.mono (HM1.out _) ?_; rintro e w' ⟨rfl, rfl⟩) | (go_at_call 40; refine Calls.mono (HM.out _) ?_; rintro e w' ⟨rfl, rfl⟩))
    go_ret
    exact ⟨by rw [hF]; rfl, HK.out⟩
  have HM2 : Hid (∀ X, Calls Tryd.prog 40 #[.int .i64 n] X fun e w' => e = .returned (.bool true) ∧ X = w') := fun X => by
    have := mayBeSteps_any n X
    rwa [hst] at this
  have HF1 : Hid (faultF ⟨z, n, L, bl src⟩ = if 4000 < L.length then 4 else if L.all fitsP = false then 6 else if 8192 < (bl src).length then 3 else 0) := by
    show _ = _
    unfold faultF
    rw [if_neg]
    rw [Bool.and_eq_true, decide_eq_true_eq, decide_eq_true_eq] at hz hst
    show ¬ (z < 1 ∨ 65536 < z ∨ n < 0 ∨ 20000 < n); omega
  clear hz hst
  by_cases hlong : 4000 < L.length
  · have hF : F = 4 := by rw [← HF.out, HF1.out, if_pos hlong]
    have i4 : (4000 : Int) < (L.length : Int) := by omega
    clear HF HF1
    go_enter Tryd.func26, Tryd.ntmps26
    go_wp2_with (first | rw [← HW.out, ← hb.out] | (go_at_call 39; refine Calls.mono (HM1.out _) ?_; rintro e w' ⟨rfl, rfl⟩) | (go_at_call 40; refine Calls.mono (HM2.out _) ?_; rintro e w' ⟨rfl, rfl⟩))
    go_ret
    exact ⟨by rw [hF]; rfl, HK.out⟩
  have i4 : ¬ (4000 : Int) < (L.length : Int) := by omega
  have HF2 : Hid ((if (L.drop 0).all fitsP = false then 6 else if 8192 < src.size then 3 else 0) = F) := by show _ = _; rw [← HF.out, HF1.out, if_neg hlong, List.drop_zero, bl_len]
  have HCx : Hid (∀ j (hj : j < L.length), ∃ b off, ao = some ⟨b, off, none⟩ ∧ w.cell? ⟨b, off + j * 2, none⟩ = some (.int .i64 L[j].1) ∧ w.cell? ⟨b, off + j * 2 + 1, none⟩ = some (.int .i64 L[j].2)) := hC
  clear HF HF1 hC
  go_enter Tryd.func26, Tryd.ntmps26
  go_wp2_with (first | rw [← HW.out, ← hb.out] | (go_at_call 39; refine Calls.mono (HM1.out _) ?_; rintro e w' ⟨rfl, rfl⟩) | (go_at_call 40; refine Calls.mono (HM2.out _) ?_; rintro e w' ⟨rfl, rfl⟩))
  go_loopw [22] (fun v22 wr => ∃ j : Nat, j ≤ L.length ∧ v22 = .int .i64 j ∧ Hid ((if (L.drop j).all fitsP = false then 6 else if 8192 < src.size then 3 else 0) = F ∧ Kept No W wr)) (fun v22 _ => L.length - (intOf v22).toNat)
  case atStart => exact ⟨0, by omega, rfl, HF2.out, Kept.refl _ _⟩
  case round =>
    clear HF2 b0 b1 b2 b3
    obtain ⟨j, hj, rfl, HJ⟩ := hrel
    by_cases hlt : j < L.length
    · obtain ⟨ab, aoff, hao, x0, x1⟩ := HCx.out j hlt
      subst hao
      have k0 := cell_kept x0 (HK.out.trans HJ.out.2)
      have k1 := cell_kept x1 (HK.out.trans HJ.out.2)
      have hd : L.drop j = L[j] :: L.drop (j + 1) := List.drop_eq_getElem_cons hlt
      have HE := HJ.out.1
      rw [hd, List.all_cons] at HE
      generalize L[j] = p at k0 k1 HE
      obtain ⟨p1, p2⟩ := p
      have HKr : Hid (Kept No W wr) := HJ.out.2
      have HKa : Hid (∀ o, Kept No w (wr.alloc o)) := fun o => (HK.out.trans HJ.out.2).alloc o
      have hjl : (j : Int) < (L.length : Int) := by omega
      clear HJ hd x0 x1
      have HP : Hid (∀ X, Kept No w X → Calls Tryd.prog 41 #[.agg #[.int .i64 p1, .int .i64 p2]] X fun e w' => e = .returned (.bool (fitsP (p1, p2))) ∧ Kept No X w') := fun X hX => HRo.out X hX (p1, p2)
      cases hfp : fitsP (p1, p2) with
      | false =>
        rw [hfp] at HE HP
        have hF : Hid (F = 6) := by show _ = _; rw [← HE, Bool.false_and, if_pos rfl]
        clear HE hfp
        go_wp2_with fail
        refine Calls.mono (HP.out _ (HKa.out _)) ?_
        rintro e w2 ⟨rfl, hk2⟩
        have HK2 : Hid (Kept No w w2) := (HKa.out _).trans hk2
        clear hk2
        go_wp2
        go_ret
        exact ⟨by rw [hF.out]; rfl, HK2.out⟩
      | true =>
        rw [hfp] at HE HP
        have HE2 : Hid ((if (L.drop (j + 1)).all fitsP = false then 6 else if 8192 < src.size then 3 else 0) = F) := by show _ = _; rw [← HE, Bool.true_and]
        clear HE hfp
        go_wp2_with fail
        refine Calls.mono (HP.out _ (HKa.out _)) ?_
        rintro e w2 ⟨rfl, hk2⟩
        have HK2 : Hid (Kept No W w2) := (HKr.out.alloc _).trans hk2
        clear hk2
        go_wp2
        go_roundw
        case rel => exact ⟨j + 1, by omega, by go_num, HE2.out, HK2.out⟩
        case measure => simp [intOf] <;> omega
    · obtain rfl : j = L.length := by omega
      have hF0 : (if 8192 < src.size then 3 else 0) = F := by rw [← HJ.out.1, List.drop_length]; rfl
      have c3 : wr.cell? ⟨b, 3, none⟩ = some (.string src) := by rw [cell_of (HBx.out wr HJ.out.2)]; rfl
      have HKw : Hid (Kept No w wr) := HK.out.trans HJ.out.2
      clear HJ
      by_cases h8 : 8192 < src.size
      · have hF : Hid (F = 3) := by show _ = _; rw [← hF0, if_pos h8]
        have i8 : (8192 : Int) < (src.size : Int) := by omega
        clear hF0
        go_wp2
        go_ret
        exact ⟨by rw [hF.out]; rfl, HKw.out⟩
      · have hF : Hid (F = 0) := by show _ = _; rw [← hF0, if_neg h8]
        have i8 : ¬ (8192 : Int) < (src.size : Int) := by omega
        clear hF0
        go_wp2
        go_ret
        exact ⟨by rw [hF.out]; rfl, HKw.out⟩
end Go.Proofs.YtbhmgmbgplkkeaaDoor
