/- goOn. -/
import Derived.Test.YtnofmpbdfcolfaaAC
namespace Go.Proofs.Ytnofmpbdfcolfaa
open Go.RowKit Go.Shelf
set_option linter.unusedSimpArgs false
set_option linter.unusedVariables false

set_option maxRecDepth 20000 in
set_option maxHeartbeats 8000000 in
theorem goOn_any {E : Ev} (hE : E.Ok) {c nb wb kb : Nat} {w : World} {s : St} (h : Wk E c nb wb kb w s) (hq : wtB s 0) (F : Nat) (hF : mu s < F) (hF2 : F ≤ 400) :
    Calls Try.prog 30 #[PT c] w (Does E c nb wb kb TS w (goG E.T F s)) := by
  have HE : Hid E.Ok := hE
  have HW : Hid (Wk E c nb wb kb w s) := h
  have c4 := h.cells.2.2.2.2
  have hsm := hE.sm
  obtain ⟨sF, HSF⟩ : ∃ sF, Hid (goG E.T F s = sF) := ⟨_, rfl⟩
  rw [HSF.out]
  have HQ : Hid (wtB s 0) := hq
  clear h hq
  go_enter Try.func30, Try.ntmps30
  go_wp2_with fail
  go_at_call 55
  refine (pop_any HE.out HW.out).mono ?_
  rintro e W1 ⟨hv, mv, rfl, hP, hT⟩
  have HP : Hid (PopIs E c nb wb kb s hv mv W1 ∧ Tn TS E.B w W1) := ⟨hP, hT⟩
  clear hP hT c4 HW
  go_wp2_with fail
  go_loopw [2, 3] (fun hv mv wr => ∃ (s0 : St) (f : Nat), f ≤ F ∧ mu s0 < f ∧ Hid (goG E.T f s0 = sF) ∧ Hid (wtB s0 (1000 * (F - f))) ∧ Hid (PopIs E c nb wb kb s0 hv mv wr ∧ Tn TS E.B w wr)) (fun _ mv wr => meas nb kb mv wr)
  case atStart => exact ⟨s, F, Nat.le_refl _, hF, HSF.out, by rw [Nat.sub_self]; exact HQ.out, HP.out⟩
  case round =>
    obtain ⟨s0, f, hfF, hmu, HGo, HWt, HPI⟩ := hrel
    obtain ⟨f', rfl⟩ : ∃ f', f = f' + 1 := ⟨f - 1, by omega⟩
    have hme := HPI.out.1.mea
    rcases HPI.out.1 with ⟨h0, rfl, rfl, hw⟩ | ⟨h0, rfl, rfl, hw, hr1, hr2⟩
    · have HX : Hid (Wk E c nb wb kb wr sF ∧ Tn TS E.B w wr) := by
        refine ⟨?_, HPI.out.2⟩
        rw [← HGo.out]; unfold goG; rw [if_pos h0]; exact hw
      clear hw HPI h0 hme
      go_wp2
      go_end0
      exact ⟨⟨_, rfl⟩, HX.out⟩
    · have HG2 : Hid (goG E.T f' (stepG E.T s0) = sF) := by
        show _ = _
        rw [← HGo.out]; conv => rhs; unfold goG
        rw [if_neg h0]
      have hmu2 := stepG_mu E.T s0 h0
      have HWt2 : Hid (wtB (stepG E.T s0) (1000 * (F - f'))) := by
        have := stepG_wt E.T HE.out.sl s0 _ HWt.out
        intro l hl
        exact Nat.le_trans (this l hl) (by omega)
      have HSt : Hid (stepG E.T s0 = thro E.T ((s0.wt.getD ((s0.sk.getLastD 0).toNat - 1) []).foldl (need E.T) (popS s0)) (thAt E.T ((s0.sk.getLastD 0).toNat - 1))) := by show _ = _; rfl
      have HT : Hid (Tn TS E.B w wr) := HPI.out.2
      have HW : Hid (Wk E c nb wb kb wr (popS s0)) := hw
      have hz0 : 1000 * (F - (f' + 1)) ≤ 400000 := by omega
      have HB0 : Hid (wtB s0 (1000 * (F - (f' + 1)))) := HWt.out
      generalize s0.sk.getLastD 0 = hh at hr1 hr2 HSt ⊢
      obtain ⟨i, rfl⟩ : ∃ i : Nat, hh = (i : Int) + 1 := ⟨(hh - 1).toNat, by omega⟩
      rw [show ((i : Int) + 1).toNat - 1 = i by omega] at HSt
      have hi : i < E.T.length := by omega
      have hii : (i : Int) < (E.T.length : Int) := by omega
      have e1 : (i : Int) + 1 - 1 = (i : Int) := by omega
      have e2 : IntKind.i64.wrap (i : Int) = (i : Int) := by rw [IntKind.wrap_i64]; omega
      obtain ⟨vs, hv⟩ := hw.ww
      obtain ⟨ao3, cp3, hsv⟩ := (hv.row i hi).form
      have hc2 := hw.cells.2.2.1
      have hrc : wr.cell? ⟨wb, i, none⟩ = some (.slice ao3 (s0.wt.getD i []).length cp3) := by
        rw [cell_of hv.hp]
        have hml : i < vs.length := by rw [hv.vl]; exact hi
        have e : vs.getD i undef = vs[i] := by simp [List.getD, hml]
        rw [e] at hsv
        simp [hml, hsv]; rfl
      have hlenL : (s0.wt.getD i []).length ≤ 400000 := by
        by_cases hil : i < s0.wt.length
        · have : (s0.wt.getD i []).length ≤ 1000 * (F - (f' + 1)) := by
            refine HB0.out _ ?_
            simp only [List.getD, List.getElem?_eq_getElem hil, Option.getD_some]
            exact List.getElem_mem hil
          omega
        · simp only [List.getD, List.getElem?_eq_none (Nat.le_of_not_lt hil), Option.getD_none]; simp
      have HR : Hid (VRow wr E.B (.slice ao3 (s0.wt.getD i []).length cp3) (s0.wt.getD i [])) := by
        have := hv.row i hi
        rw [hsv] at this
        exact this
      obtain ⟨tb, toff, tsv, ⟨tcap, htv⟩, hth⟩ := HE.out.th i hi
      have HTh : Hid _ := hth
      have hthAt : thAt E.T i = E.T[i] := by unfold thAt; simp only [List.getD, List.getElem?_eq_getElem hi, Option.getD_some]
      rw [hthAt] at HSt
      clear hw hv hsv HPI HWt HGo h0 hth hthAt
      generalize hLL : s0.wt.getD i [] = L at hrc hlenL HR HSt ⊢
      clear hLL
      obtain ⟨ln3, hln3⟩ : ∃ ln3, L.length = ln3 := ⟨_, rfl⟩
      rw [hln3] at hrc HR
      go_wp2_with fail
      go_at_call 42
      refine (each_any HE.out HW.out (L := L) (by omega) (fun W' ht => (HR.out.tn ht (by simp)).rd)).mono ?_
      rintro e W2 ⟨⟨v, rfl⟩, h2, h3⟩
      obtain ⟨q0, q1, q2, q3, q4, hrd⟩ := HTh.out W2 h2.bl
      obtain ⟨tao, tcp, rfl, hrd2⟩ := hrd
      have d0 := h2.cells.1
      rw [htv] at d0
      have HW2 : Hid (Wk E c nb wb kb W2 (L.foldl (need E.T) (popS s0))) := h2
      have HT2 : Hid (Tn TS E.B w W2) := HT.out.trans (h3.mono (by simp))
      have HSl : Hid (∀ W, Below E.B E.w W → RdV W (.slice tao E.T[i].sl.length tcp) E.T[i].sl) := fun W hW => (HTh.out W hW).2.2.2.2.2
      have hn1 := HE.out.sl E.T[i] (List.getElem_mem hi)
      have HQ2 : Hid (wtB (L.foldl (need E.T) (popS s0)) (1000 * (F - (f' + 1)))) := by
        show wtB _ _
        unfold wtB; rw [fold_wt (need_wt E.T)]; exact HB0.out
      clear h2 h3 HTh hrd2 HR hrc hc2 HW HT htv HP HB0
      generalize E.T[i] = tt at q0 q1 q2 q3 q4 HSl HSt hn1 ⊢
      obtain ⟨lnt, hlnt⟩ : ∃ lnt, tt.sl.length = lnt := ⟨_, rfl⟩
      rw [hlnt] at q3 HSl
      go_wp2_with fail
      go_at_call 43
      refine (goThrough_any HE.out HW2.out (t := tt) hn1 HSl.out (1000 * (F - (f' + 1))) HQ2.out (by omega)).mono ?_
      rintro e W3 ⟨⟨v, rfl⟩, h2, h3⟩
      rw [← HSt.out] at h2
      have HW3 : Hid (Wk E c nb wb kb W3 (stepG E.T s0) ∧ Tn TS E.B w W3) := ⟨h2, HT2.out.trans h3⟩
      have d4 := h2.cells.2.2.2.2
      clear h2 h3 HW2 HT2 HSl q0 q1 q2 q3 q4 d0 HQ2
      go_wp2_with fail
      go_at_call 55
      refine (pop_any HE.out HW3.out.1).mono ?_
      rintro e W4 ⟨hv', mv', rfl, hP, hT⟩
      have hme2 := hP.mea
      have HP : Hid (PopIs E c nb wb kb (stepG E.T s0) hv' mv' W4 ∧ Tn TS E.B w W4) := ⟨hP, HW3.out.2.trans hT⟩
      clear hP hT d4 HW3
      go_wp2
      go_roundw
      case rel => exact ⟨stepG E.T s0, f', by omega, by omega, HG2.out, HWt2.out, HP.out⟩
      case measure =>
        show meas nb kb mv' W4 < meas nb kb (.bool true) wr
        omega
end Go.Proofs.Ytnofmpbdfcolfaa
