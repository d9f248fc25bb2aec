/- ObjectCells: the walk. -/
import Derived.Test.YtnmchcanijkggaaT1
namespace Go.Proofs.Ytnmchcanijkggaa
open Go.RowKit Go.Lib
set_option linter.unusedVariables false

/-- The document's Cells, whatever the object is. -/
theorem RCells_any (h : Hd) (av sv : Value) (zs : List Int) (ps : List (Int × Int)) (w : World) (ha : SliceIs w av zs) (hp : PairsIs w sv ps) (hq : Pall ps) (h1 : zs.length ≤ 100000) (h2 : ps.length ≤ 100000) :
    Calls Try.prog 27 #[AO h av sv] w fun e w' => ((wrongE h zs.length ps = 0 ∧ ∃ v, e = .returned (.tuple #[v, .int .i64 0]) ∧ Row w' w.heap.size v (cellsL h zs ps)) ∨ (wrongE h zs.length ps ≠ 0 ∧ e = .returned (.tuple #[.slice none 0 0, .int .i64 (wrongE h zs.length ps)]))) ∧ Below w.heap.size w w' := by
  obtain ⟨ao, ca, rfl⟩ := ha.form
  obtain ⟨so, cs, rfl⟩ := hp.form
  by_cases hr : rightE h = 0
  · by_cases hn : h.x = zs.length ∧ h.l = ps.length
    · have e : wrongE h zs.length ps = slotE ps := by simp only [wrongE, hr, if_true, if_pos hn]
      refine (RCells_ok h ao so zs.length ca ps.length cs zs ps w ha hp rfl rfl hq h1 h2 hr hn.1 hn.2).mono ?_
      rintro e' w' ⟨h3, hb⟩
      refine ⟨?_, hb⟩
      rcases h3 with ⟨h4, h5⟩ | ⟨h4, h5⟩
      · exact Or.inl ⟨by rw [e, slotE, h4]; rfl, h5⟩
      · have e6 : wrongE h zs.length ps = 6 := by rw [e, slotE, h4]; rfl
        exact Or.inr ⟨by rw [e6]; decide, by rw [e6]; exact h5⟩
    · have e6 : wrongE h zs.length ps = 1 := by simp only [wrongE, hr, if_true, if_neg hn]
      refine (RCells_num h ao so zs.length ca ps.length cs w hr hn).mono ?_
      rintro e' w' ⟨h3, hb⟩
      exact ⟨Or.inr ⟨by rw [e6]; decide, by rw [e6]; exact h3⟩, hb⟩
  · have e6 : wrongE h zs.length ps = rightE h := by simp only [wrongE, if_neg hr]
    refine (RCells_right h ao so zs.length ca ps.length cs w hr).mono ?_
    rintro e' w' ⟨h3, hb⟩
    exact ⟨Or.inr ⟨by rw [e6]; exact hr, by rw [e6]; exact h3⟩, hb⟩

set_option maxHeartbeats 2000000 in
theorem ObjectCells_any (h : Hd) (av sv : Value) (zs : List Int) (ps : List (Int × Int)) (w : World) (ha : SliceIs w av zs) (hI : Iall zs) (hR : RoomOK av) (hp : PairsIs w sv ps) (hq : Pall ps) :
    Calls Try.prog 5 #[AO h av sv] w fun e w' => e = .returned (.bool true) ∧ Below w.heap.size w w' := by
  have HSm : Hid (∀ W, Calls Try.prog 25 #[AO h av sv] W fun e w' => e = .returned (.bool (decide (zs.length ≤ 300 ∧ ps.length ≤ 300))) ∧ Below W.heap.size W w') := by
    obtain ⟨ao, ca, rfl⟩ := ha.form
    obtain ⟨so, cs, rfl⟩ := hp.form
    exact fun W => small_any h ao so _ ca _ cs W
  obtain ⟨ao, na, ca, hav⟩ : ∃ ao na ca, av = .slice ao na ca := by obtain ⟨a, c, e⟩ := ha.form; exact ⟨a, _, c, e⟩
  obtain ⟨so, ns, cs, hsv⟩ : ∃ so ns cs, sv = .slice so ns cs := by obtain ⟨a, c, e⟩ := hp.form; exact ⟨a, _, c, e⟩
  by_cases hs : zs.length ≤ 300 ∧ ps.length ≤ 300
  · rw [show decide (zs.length ≤ 300 ∧ ps.length ≤ 300) = true by simp [hs]] at HSm
    obtain ⟨L, hL⟩ : ∃ L, L = (if wrongE h zs.length ps = 0 then cellsL h zs ps else []) := ⟨_, rfl⟩
    have hLn : L.length ≤ 100000 := by
      rw [hL]; split
      · rw [cells_len]; omega
      · decide
    have HC : Hid (∀ W, Below w.heap.size w W → Calls Try.prog 26 #[AO h av sv] W fun e w' => (∃ xo nx cx, e = .returned (.tuple #[.slice xo nx cx, .int .i64 (wrongE h zs.length ps)]) ∧ SliceIs w' (.slice xo nx cx) L) ∧ Below W.heap.size W w') := by
      intro W hb
      by_cases hw : wrongE h zs.length ps = 0
      · rw [if_pos hw] at hL
        refine (Cells_ok h av sv zs ps W (ha.later hb) (hp.later hb) hq (by omega) (by omega) hw).mono ?_
        rintro e w' ⟨⟨v, he, hrow⟩, hb'⟩
        obtain ⟨xo, cx, hv⟩ := hrow.slice.form
        have h1 := hrow.slice
        rw [hv] at he h1
        rw [hw, hL]
        exact ⟨⟨xo, _, cx, he, h1⟩, hb'⟩
      · rw [if_neg hw] at hL
        refine (Cells_bad h av sv zs ps W (ha.later hb) (hp.later hb) hq (by omega) (by omega) hw).mono ?_
        rintro e w' ⟨he, hb'⟩
        rw [hL]
        exact ⟨⟨none, 0, 0, he, Or.inl ⟨none, rfl, rfl⟩⟩, hb'⟩
    have HD : Hid (∀ W, Below w.heap.size w W → Calls Try.prog 27 #[AO h av sv] W fun e w' => (∃ xo nx cx, e = .returned (.tuple #[.slice xo nx cx, .int .i64 (wrongE h zs.length ps)]) ∧ SliceIs w' (.slice xo nx cx) L) ∧ Below W.heap.size W w') := by
      intro W hb
      refine (RCells_any h av sv zs ps W (ha.later hb) (hp.later hb) hq (by omega) (by omega)).mono ?_
      rintro e w' ⟨hout, hb'⟩
      refine ⟨?_, hb'⟩
      rcases hout with ⟨hw, v, he, hrow⟩ | ⟨hw, he⟩
      · rw [if_pos hw] at hL
        obtain ⟨xo, cx, hv⟩ := hrow.slice.form
        have h1 := hrow.slice
        rw [hv] at he h1
        rw [hw, hL]
        exact ⟨xo, _, cx, he, h1⟩
      · rw [if_neg hw] at hL
        rw [hL]
        exact ⟨none, 0, 0, he, Or.inl ⟨none, rfl, rfl⟩⟩
    have HSa : Hid (∀ (W : World) (a b : Value), SliceIs W a L → SliceIs W b L → Calls Try.prog 28 #[a, b] W fun e w' => e = .returned (.bool true) ∧ Below W.heap.size W w') := by
      intro W a b h1 h2
      have := Same_any a b L L W h1 h2 hLn
      rwa [show decide (L = L) = true by simp] at this
    generalize wrongE h zs.length ps = E at HC HD
    clear ha hI hR hp hq hs hL hLn
    subst hav
    subst hsv
    go_enter Try.func5, Try.ntmps5
    go_wp2_with fail
    refine (HSm.out _).mono ?_
    rintro e w1 ⟨rfl, hb1⟩
    have HS1 : Hid (SeenO w.heap.size h (.slice ao na ca) (.slice so ns cs) w1) := seenO_keep (seenO_new h _ _ w) hb1
    have HB1 : Hid (Below w.heap.size w w1) := ((Below.refl _ _).alloc (Nat.le_refl _) _).trans (hb1.mono (by simp))
    clear hb1 HSm
    obtain ⟨q0, q1, q2, q3, q4, q5, q6, q7, q8, q9⟩ := HS1.out
    go_wp2_with fail
    refine (HC.out _ HB1.out).mono ?_
    rintro e w2 ⟨⟨xo, nx, cx, rfl, s1⟩, hb2⟩
    have HS2 : Hid (SeenO w.heap.size h (.slice ao na ca) (.slice so ns cs) w2) := seenO_keep HS1.out hb2
    have HB2 : Hid (Below w.heap.size w w2) := HB1.out.trans (hb2.mono HB1.out.size)
    have HX : Hid (SliceIs w2 (.slice xo nx cx) L) := s1
    clear hb2 HC HS1 HB1 s1 q0 q1 q2 q3 q4 q5 q6 q7 q8 q9
    obtain ⟨q0, q1, q2, q3, q4, q5, q6, q7, q8, q9⟩ := HS2.out
    go_wp2_with fail
    refine (HD.out _ HB2.out).mono ?_
    rintro e w3 ⟨⟨yo, ny, cy, rfl, s2⟩, hb3⟩
    have HB3 : Hid (Below w.heap.size w w3) := HB2.out.trans (hb3.mono HB2.out.size)
    have HY : Hid (SliceIs w3 (.slice xo nx cx) L ∧ SliceIs w3 (.slice yo ny cy) L) := ⟨HX.out.later hb3, s2⟩
    clear hb3 HD HS2 HB2 HX s2 q0 q1 q2 q3 q4 q5 q6 q7 q8 q9
    go_wp2_with fail
    refine (HSa.out _ _ _ HY.out.1 HY.out.2).mono ?_
    rintro e w4 ⟨rfl, hb4⟩
    have HB4 : Hid (Below w.heap.size w w4) := HB3.out.trans (hb4.mono HB3.out.size)
    clear hb4 HSa HY HB3
    go_wp2_with (first | (go_at_call 14; refine (no_any _ _).mono ?_; rintro e w' ⟨rfl, rfl⟩))
    refine (alive_any _).mono ?_
    rintro e w6 ⟨rfl, hb6⟩
    have HB6 : Hid (Below w.heap.size w w6) := HB4.out.trans (hb6.mono HB4.out.size)
    clear hb6
    go_wp2
    go_ret
    exact ⟨rfl, HB6.out⟩
  · rw [show decide (zs.length ≤ 300 ∧ ps.length ≤ 300) = false by simp only [decide_eq_false hs]] at HSm
    clear ha hI hR hp hq hs
    subst hav
    subst hsv
    go_enter Try.func5, Try.ntmps5
    go_wp2_with fail
    refine (HSm.out _).mono ?_
    rintro e w1 ⟨rfl, hb1⟩
    have HB1 : Hid (Below w.heap.size w w1) := ((Below.refl _ _).alloc (Nat.le_refl _) _).trans (hb1.mono (by simp))
    clear hb1 HSm
    go_wp2_with fail
    refine (alive_any _).mono ?_
    rintro e w6 ⟨rfl, hb6⟩
    have HB6 : Hid (Below w.heap.size w w6) := HB1.out.trans (hb6.mono HB1.out.size)
    clear hb6
    go_wp2
    go_ret
    exact ⟨rfl, HB6.out⟩
end Go.Proofs.Ytnmchcanijkggaa
