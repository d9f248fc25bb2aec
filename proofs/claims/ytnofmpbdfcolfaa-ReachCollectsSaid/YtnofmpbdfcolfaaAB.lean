/- goThrough. -/
import Derived.Test.YtnofmpbdfcolfaaAA
namespace Go.Proofs.Ytnofmpbdfcolfaa
open Go.RowKit Go.Shelf
set_option linter.unusedSimpArgs false
set_option linter.unusedVariables false

/-- A table's metatable. -/
def need0 (T : List Th) (s : St) (t : Th) : St := if h : 0 < t.sl.length then need T s t.sl[0] else s
/-- How a weak table's pairs are taken. -/
def modeF (T : List Th) (k : Int) : St → V → V → St := if k = 1 then needP T else if k = 2 then needK T else needTT T
/-- A thing is gone through. -/
def thro (T : List Th) (s : St) (t : Th) : St := if isWk t then pairF (modeF T t.weak) t (need0 T s t) (vals t).length else t.sl.foldl (need T) s

theorem need0_wt (T : List Th) (s : St) (t : Th) : (need0 T s t).wt = s.wt := by unfold need0; split; exact need_wt _ _ _; rfl
abbrev TS : List Nat := [3, 4, 23, 26, 40]

theorem th_cells {W : World} {b : Nat} {t : Th} {sv : Value} (hb : W.heap[b]? = some (.cells #[.int .i64 t.kind, .int .i64 t.weak, .int .i64 t.arr, sv, .int .i64 t.fin] 43 (0, 0))) :
    W.cell? ⟨b, 0, none⟩ = some (.int .i64 t.kind) ∧ W.cell? ⟨b, 1, none⟩ = some (.int .i64 t.weak) ∧ W.cell? ⟨b, 2, none⟩ = some (.int .i64 t.arr) ∧ W.cell? ⟨b, 3, none⟩ = some sv ∧ W.cell? ⟨b, 4, none⟩ = some (.int .i64 t.fin) :=
  ⟨by rw [cell_of hb]; rfl, by rw [cell_of hb]; rfl, by rw [cell_of hb]; rfl, by rw [cell_of hb]; rfl, by rw [cell_of hb]; rfl⟩

set_option maxRecDepth 20000 in
set_option maxHeartbeats 1000000 in
theorem goThrough_any {E : Ev} (hE : E.Ok) {c nb wb kb : Nat} {w : World} {s : St} (h : Wk E c nb wb kb w s) {t : Th} {sv : Value} (hn : t.sl.length ≤ 1000) (hsl : ∀ W, Below E.B E.w W → RdV W sv t.sl) (q : Nat) (hq : wtB s q) (hq2 : q ≤ 900000) :
    Calls Try.prog 43 #[PT c, AT t sv] w (Does E c nb wb kb TS w (thro E.T s t)) := by
  have HE : Hid E.Ok := hE
  have HSl : Hid (∀ W, Below E.B E.w W → RdV W sv t.sl) := hsl
  have HQ : Hid (wtB s q) := hq
  have HQ0 : Hid (wtB (need0 E.T s t) q) := by
    show wtB _ _
    unfold wtB; rw [need0_wt]; exact hq
  obtain ⟨ao, cap, hsv, hrd0⟩ := hsl w h.bl
  subst hsv
  clear hrd0 hsl hq
  obtain ⟨W, HWd⟩ : ∃ W, Hid (W = w.alloc (.cells #[.int .i64 t.kind, .int .i64 t.weak, .int .i64 t.arr, .slice ao t.sl.length cap, .int .i64 t.fin] 43)) := ⟨_, rfl⟩
  have HK : Hid (Kept No w W) := by show Kept _ _ _; rw [HWd.out]; exact (Kept.refl _ _).alloc _
  have hb : W.heap[w.heap.size]? = some (.cells #[.int .i64 t.kind, .int .i64 t.weak, .int .i64 t.arr, .slice ao t.sl.length cap, .int .i64 t.fin] 43 (0, 0)) := by rw [HWd.out]; exact World.alloc_heap_new w _
  have HW : Hid (Wk E c nb wb kb W s) := h.no hE HK.out
  obtain ⟨r0, r1, r2, r3, r4⟩ := th_cells hb
  have HB : Hid _ := hb
  clear h hb
  obtain ⟨sF, HSF⟩ : ∃ sF, Hid (thro E.T s t = sF) := ⟨_, rfl⟩
  rw [HSF.out]
  obtain ⟨wk, HWk⟩ : ∃ wk, Hid (isWk t = wk) := ⟨_, rfl⟩
  have HIs : Hid (Calls Try.prog 51 #[AT t (.slice ao t.sl.length cap)] W fun e w' => e = .returned (.bool wk) ∧ Kept No W w') := by
    have := isWeak_any t (.slice ao t.sl.length cap) rfl W
    rw [HWk.out] at this
    exact this
  go_enter Try.func43, Try.ntmps43
  go_wp2_with (first | rw [← HWd.out])
  refine Calls.mono HIs.out ?_
  rintro e W1 ⟨rfl, hk1⟩
  have HW1 : Hid (Wk E c nb wb kb W1 s) := HW.out.no HE.out hk1
  have HT1 : Hid (Tn TS E.B w W1) := Tn.no (HK.out.trans hk1)
  have HB1 : Hid (W1.heap[w.heap.size]? = some (.cells #[.int .i64 t.kind, .int .i64 t.weak, .int .i64 t.arr, .slice ao t.sl.length cap, .int .i64 t.fin] 43 (0, 0))) := hk1.heap HB.out id
  clear hk1 HIs r0 r1 r2 r3 r4 HWd HK HB HW
  obtain ⟨r0, r1, r2, r3, r4⟩ := th_cells HB1.out
  cases wk
  case false =>
    go_wp2_with fail
    go_at_call 42
    refine (each_any HE.out HW1.out (L := t.sl) (by omega) (fun W' ht => HSl.out W' (ht.below HW1.out.bl HE.out.le))).mono ?_
    rintro e W2 ⟨⟨v, rfl⟩, h2, h3⟩
    have HX : Hid (Wk E c nb wb kb W2 sF ∧ Tn TS E.B w W2) := ⟨by rw [← HSF.out]; unfold thro; rw [HWk.out]; exact h2, HT1.out.trans (h3.mono (by simp))⟩
    clear h2 h3 HW1 HT1 HB1
    go_wp2
    refine bodyPost_ret (results_none rfl _ _ _) rfl ⟨⟨_, rfl⟩, HX.out⟩
  case true =>
    have hw3 : 1 ≤ t.weak ∧ t.weak ≤ 3 := by
      have := HWk.out
      unfold isWk at this
      simp only [Bool.and_eq_true, decide_eq_true_eq] at this
      exact this.2
    have HF : Hid (sF = pairF (modeF E.T t.weak) t (need0 E.T s t) (vals t).length) := by
      show _ = _
      rw [← HSF.out]; unfold thro; rw [HWk.out]; rfl
    clear HSF HWk
    by_cases hl : 0 < t.sl.length
    · have hl' : (0 : Int) < (t.sl.length : Int) := by omega
      have hl2 : (t.sl.length : Int) > 0 := by omega
      obtain ⟨b, off, hao, x0, x1⟩ : ∃ b off, ao = some ⟨b, off, none⟩ ∧ W1.cell? ⟨b, off + 0 * 2, none⟩ = some (.int .i64 (t.sl[0]).1) ∧ W1.cell? ⟨b, off + 0 * 2 + 1, none⟩ = some (.int .i64 (t.sl[0]).2) := by
        obtain ⟨ao', cap', e, h⟩ := HSl.out W1 HW1.out.bl
        injection e with e1 e2 e3
        subst e1
        exact h 0 hl
      subst hao
      have HN0 : Hid (need0 E.T s t = need E.T s t.sl[0]) := by
        show _ = _
        unfold need0; rw [dif_pos hl]
      obtain ⟨x, hx⟩ : ∃ x, t.sl[0] = x := ⟨_, rfl⟩
      rw [hx] at x0 x1 HN0
      obtain ⟨y1, y2⟩ := x
      simp only [Nat.zero_mul, Nat.add_zero] at x0 x1
      clear hx
      go_wp2_with fail
      go_at_call 28
      refine (need_any HE.out HW1.out (y1, y2)).mono ?_
      rintro e W2 ⟨⟨v, rfl⟩, h2, h3⟩
      have HW2 : Hid (Wk E c nb wb kb W2 (need0 E.T s t)) := by show Wk _ _ _ _ _ _ _; rw [HN0.out]; exact h2
      have HT2 : Hid (Tn TS E.B w W2) := HT1.out.trans (h3.mono (by simp))
      have hb2 := h3.cells HB1.out (by simp)
      obtain ⟨r0', r1', r2', r3', r4'⟩ := th_cells hb2
      clear h2 h3 hb2 HW1 HT1 HB1 r0 r1 r2 r3 r4 x0 x1
      rcases (by omega : t.weak = 1 ∨ t.weak = 2 ∨ t.weak = 3) with hk | hk | hk
      · have HM : Hid (modeF E.T t.weak = needP E.T) := by
          show _ = _
          unfold modeF; rw [if_pos hk]
        have b1 : (t.weak == 1) = true := by simp [hk]
        clear hk hw3
        go_wp2_with fail
        go_at_call 56
        refine (eachPair57_any HE.out HW2.out hn HSl.out q HQ0.out hq2).mono ?_
        rintro e W3 ⟨⟨v, rfl⟩, h2, h3⟩
        have HX : Hid (Wk E c nb wb kb W3 sF ∧ Tn TS E.B w W3) := ⟨by rw [HF.out, HM.out]; exact h2, HT2.out.trans h3⟩
        clear h2 h3 HM
        go_wp2
        go_end0
        exact ⟨⟨_, rfl⟩, HX.out⟩
      · have n1 : ¬ t.weak = 1 := by omega
        have HM : Hid (modeF E.T t.weak = needK E.T) := by
          show _ = _
          unfold modeF; rw [if_neg n1, if_pos hk]
        have b1 : (t.weak == 1) = false := by simp [hk]
        have b2 : (t.weak == 2) = true := by simp [hk]
        clear hk hw3 n1
        go_wp2_with fail
        go_at_call 56
        refine (eachPair58_any HE.out HW2.out hn HSl.out q HQ0.out hq2).mono ?_
        rintro e W3 ⟨⟨v, rfl⟩, h2, h3⟩
        have HX : Hid (Wk E c nb wb kb W3 sF ∧ Tn TS E.B w W3) := ⟨by rw [HF.out, HM.out]; exact h2, HT2.out.trans h3⟩
        clear h2 h3 HM
        go_wp2
        go_end0
        exact ⟨⟨_, rfl⟩, HX.out⟩
      · have n1 : ¬ t.weak = 1 := by omega
        have n2 : ¬ t.weak = 2 := by omega
        have HM : Hid (modeF E.T t.weak = needTT E.T) := by
          show _ = _
          unfold modeF; rw [if_neg n1, if_neg n2]
        have b1 : (t.weak == 1) = false := by simp [hk]
        have b2 : (t.weak == 2) = false := by simp [hk]
        have b3 : (t.weak == 3) = true := by simp [hk]
        clear hk hw3 n1 n2
        go_wp2_with fail
        go_at_call 56
        refine (eachPair59_any HE.out HW2.out hn HSl.out q HQ0.out hq2).mono ?_
        rintro e W3 ⟨⟨v, rfl⟩, h2, h3⟩
        have HX : Hid (Wk E c nb wb kb W3 sF ∧ Tn TS E.B w W3) := ⟨by rw [HF.out, HM.out]; exact h2, HT2.out.trans h3⟩
        clear h2 h3 HM
        go_wp2
        go_end0
        exact ⟨⟨_, rfl⟩, HX.out⟩
    · have hl0 : t.sl.length = 0 := by omega
      have HW2 : Hid (Wk E c nb wb kb W1 (need0 E.T s t)) := by
        show Wk _ _ _ _ _ _ _
        unfold need0; rw [dif_neg hl]; exact HW1.out
      rw [hl0] at HSl r3 HB1
      rw [show AT t (.slice ao t.sl.length cap) = AT t (.slice ao 0 cap) by rw [hl0]]
      clear hl hl0
      rcases (by omega : t.weak = 1 ∨ t.weak = 2 ∨ t.weak = 3) with hk | hk | hk
      · have HM : Hid (modeF E.T t.weak = needP E.T) := by
          show _ = _
          unfold modeF; rw [if_pos hk]
        have b1 : (t.weak == 1) = true := by simp [hk]
        clear hk hw3
        go_wp2_with fail
        go_at_call 56
        refine (eachPair57_any HE.out HW2.out hn HSl.out q HQ0.out hq2).mono ?_
        rintro e W3 ⟨⟨v, rfl⟩, h2, h3⟩
        have HX : Hid (Wk E c nb wb kb W3 sF ∧ Tn TS E.B w W3) := ⟨by rw [HF.out, HM.out]; exact h2, HT1.out.trans h3⟩
        clear h2 h3 HM
        go_wp2
        go_end0
        exact ⟨⟨_, rfl⟩, HX.out⟩
      · have n1 : ¬ t.weak = 1 := by omega
        have HM : Hid (modeF E.T t.weak = needK E.T) := by
          show _ = _
          unfold modeF; rw [if_neg n1, if_pos hk]
        have b1 : (t.weak == 1) = false := by simp [hk]
        have b2 : (t.weak == 2) = true := by simp [hk]
        clear hk hw3 n1
        go_wp2_with fail
        go_at_call 56
        refine (eachPair58_any HE.out HW2.out hn HSl.out q HQ0.out hq2).mono ?_
        rintro e W3 ⟨⟨v, rfl⟩, h2, h3⟩
        have HX : Hid (Wk E c nb wb kb W3 sF ∧ Tn TS E.B w W3) := ⟨by rw [HF.out, HM.out]; exact h2, HT1.out.trans h3⟩
        clear h2 h3 HM
        go_wp2
        go_end0
        exact ⟨⟨_, rfl⟩, HX.out⟩
      · have n1 : ¬ t.weak = 1 := by omega
        have n2 : ¬ t.weak = 2 := by omega
        have HM : Hid (modeF E.T t.weak = needTT E.T) := by
          show _ = _
          unfold modeF; rw [if_neg n1, if_neg n2]
        have b1 : (t.weak == 1) = false := by simp [hk]
        have b2 : (t.weak == 2) = false := by simp [hk]
        have b3 : (t.weak == 3) = true := by simp [hk]
        clear hk hw3 n1 n2
        go_wp2_with fail
        go_at_call 56
        refine (eachPair59_any HE.out HW2.out hn HSl.out q HQ0.out hq2).mono ?_
        rintro e W3 ⟨⟨v, rfl⟩, h2, h3⟩
        have HX : Hid (Wk E c nb wb kb W3 sF ∧ Tn TS E.B w W3) := ⟨by rw [HF.out, HM.out]; exact h2, HT1.out.trans h3⟩
        clear h2 h3 HM
        go_wp2
        go_end0
        exact ⟨⟨_, rfl⟩, HX.out⟩
end Go.Proofs.Ytnofmpbdfcolfaa
