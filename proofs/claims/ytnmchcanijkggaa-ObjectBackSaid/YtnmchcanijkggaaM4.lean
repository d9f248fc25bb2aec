/- ObjectBack: the walk. -/
import Derived.Test.YtnmchcanijkggaaN1
namespace Go.Proofs.Ytnmchcanijkggaa
open Go.RowKit Go.Lib
set_option linter.unusedVariables false

set_option maxHeartbeats 2000000 in
theorem ObjectBack_any (h : Hd) (av sv : Value) (zs : List Int) (ps : List (Int × Int)) (w : World) (ha : SliceIs w av zs) (hI : Iall zs) (hR : RoomOK av) (hp : PairsIs w sv ps) (hq : Pall ps) :
    Calls Try.prog 9 #[AO h av sv] w fun e w' => e = .returned (.bool true) ∧ Below w.heap.size w w' := by
  have HQ : Hid (∀ W, Below w.heap.size w W → SliceIs W av zs ∧ PairsIs W sv ps) := fun W hb => ⟨ha.later hb, hp.later hb⟩
  have HSm : Hid (∀ W, Calls Try.prog 25 #[AO h av sv] W fun e w' => e = .returned (.bool (decide (zs.length ≤ 300 ∧ ps.length ≤ 300))) ∧ Below W.heap.size W w') := by
    obtain ⟨ao, ca, rfl⟩ := ha.form
    obtain ⟨so, cs, rfl⟩ := hp.form
    exact fun W => small_any h ao so _ ca _ cs W
  obtain ⟨ao, na, ca, hav⟩ : ∃ ao na ca, av = .slice ao na ca := by obtain ⟨a, c, e⟩ := ha.form; exact ⟨a, _, c, e⟩
  obtain ⟨so, ns, cs, hsv⟩ : ∃ so ns cs, sv = .slice so ns cs := by obtain ⟨a, c, e⟩ := hp.form; exact ⟨a, _, c, e⟩
  by_cases hs : zs.length ≤ 300 ∧ ps.length ≤ 300
  · rw [show decide (zs.length ≤ 300 ∧ ps.length ≤ 300) = true by simp [hs]] at HSm
    by_cases hw : wrongE h zs.length ps = 0
    · obtain ⟨b1, b2, b3, b4, b5⟩ := back hw
      have hright := (wrong_zero hw).1
      have hLn : (cellsL h zs ps).length ≤ 100000 := by rw [cells_len]; omega
      have HC : Hid (∀ W, Below w.heap.size w W → Calls Try.prog 26 #[AO h av sv] W fun e w' => (∃ xo nx cx, e = .returned (.tuple #[.slice xo nx cx, .int .i64 0]) ∧ SliceIs w' (.slice xo nx cx) (cellsL h zs ps) ∧ RoomOK (.slice xo nx cx) ∧ (nx : Int) = sizeN h) ∧ Below W.heap.size W w') := by
        intro W hb
        refine (Cells_ok h av sv zs ps W (ha.later hb) (hp.later hb) hq (by omega) (by omega) hw).mono ?_
        rintro e w' ⟨⟨v, he, hrow⟩, hb'⟩
        obtain ⟨xo, cx, hv⟩ := hrow.slice.form
        have h1 := hrow.slice
        have h2 := hrow.room
        rw [hv] at he h1 h2
        exact ⟨⟨xo, _, cx, he, h1, h2, b5⟩, hb'⟩
      have HRd : Hid (∀ (W : World) (xo : Option Addr) (nx cx : Nat), SliceIs W (.slice xo nx cx) (cellsL h zs ps) → RoomOK (.slice xo nx cx) → Calls Try.prog 29 #[.slice xo nx cx] W fun e w' => (∃ uo nu cu yo ny cy, e = .returned (.tuple #[AO h (.slice uo nu cu) (.slice yo ny cy), .int .i64 0]) ∧ SliceIs w' (.slice uo nu cu) zs ∧ PairsIs w' (.slice yo ny cy) ps) ∧ Below W.heap.size W w') := by
        intro W xo nx cx h1 h2
        refine (Read_any _ _ W h1 h2 (cells_i64 hright hI hq) hLn).mono ?_
        rintro e w' ⟨hout, hb'⟩
        refine ⟨?_, hb'⟩
        rcases hout with ⟨_, av', sv', he, ha', hp'⟩ | ⟨hf, _⟩
        · rw [b3] at ha'
          rw [b4] at hp'
          rw [b2] at he
          obtain ⟨uo, cu, hx⟩ := ha'.slice.form
          obtain ⟨yo, cy, hy⟩ := hp'.pairs.form
          have h3 := ha'.slice
          have h4 := hp'.pairs
          rw [hx] at he h3
          rw [hy] at he h4
          exact ⟨uo, _, cu, yo, _, cy, he, h3, h4⟩
        · rw [b1] at hf; cases hf
      have HSa : Hid (∀ (W : World) (uo : Option Addr) (nu cu : Nat) (yo : Option Addr) (ny cy : Nat), SliceIs W av zs → PairsIs W sv ps → SliceIs W (.slice uo nu cu) zs → PairsIs W (.slice yo ny cy) ps → Calls Try.prog 31 #[AO h av sv, AO h (.slice uo nu cu) (.slice yo ny cy)] W fun e w' => e = .returned (.bool true) ∧ Below W.heap.size W w') := by
        intro W uo nu cu yo ny cy h1 h2 h3 h4
        have := RSame_any h h _ _ _ _ zs zs ps ps W h1 h2 h3 h4 (by omega) (by omega)
        rwa [show decide (h = h ∧ zs = zs ∧ ps = ps) = true by simp] at this
      have HZ : Hid (∀ W, Calls Try.prog 16 #[AH h] W fun e w' => e = .returned (.int .i64 (sizeN h)) ∧ Below W.heap.size W w') := Size_any h
      generalize cellsL h zs ps = L at HC HRd
      generalize sizeN h = S at HC HZ
      clear ha hI hR hp hq hs hw b1 b2 b3 b4 b5 hright hLn
      subst hav
      subst hsv
      go_enter Try.func9, Try.ntmps9
      go_wp2_with fail
      refine (HSm.out _).mono ?_
      rintro e w1 ⟨rfl, hb1⟩
      have HS1 : Hid (SeenO w.heap.size h (.slice ao na ca) (.slice so ns cs) w1) := seenO_keep (seenO_new h _ _ w) hb1
      have HB1 : Hid (Below w.heap.size w w1) := ((Below.refl _ _).alloc (Nat.le_refl _) _).trans (hb1.mono (by simp))
      clear hb1 HSm
      obtain ⟨q0, q1, q2, q3, q4, q5, q6, q7, q8, q9⟩ := HS1.out
      go_wp2_with fail
      refine (HC.out _ HB1.out).mono ?_
      rintro e w2 ⟨⟨xo, nx, cx, rfl, s1, s2, s3⟩, hb2⟩
      have HS2 : Hid (SeenO w.heap.size h (.slice ao na ca) (.slice so ns cs) w2) := seenO_keep HS1.out hb2
      have HB2 : Hid (Below w.heap.size w w2) := HB1.out.trans (hb2.mono HB1.out.size)
      have HX : Hid (SliceIs w2 (.slice xo nx cx) L ∧ RoomOK (.slice xo nx cx)) := ⟨s1, s2⟩
      clear hb2 HC HS1 HB1 s1 s2 q0 q1 q2 q3 q4 q5 q6 q7 q8 q9
      go_wp2_with (first | (go_at_call 14; refine (no_any _ _).mono ?_; rintro e w' ⟨rfl, rfl⟩))
      refine (HRd.out _ xo nx cx HX.out.1 HX.out.2).mono ?_
      rintro e w3 ⟨⟨uo, nu, cu, yo, ny, cy, rfl, u1, u2⟩, hb3⟩
      have HS3 : Hid (SeenO w.heap.size h (.slice ao na ca) (.slice so ns cs) w3) := seenO_keep HS2.out hb3
      have HB3 : Hid (Below w.heap.size w w3) := HB2.out.trans (hb3.mono HB2.out.size)
      have HU3 : Hid (SliceIs w3 (.slice uo nu cu) zs ∧ PairsIs w3 (.slice yo ny cy) ps) := ⟨u1, u2⟩
      clear hb3 HRd HS2 HB2 HX u1 u2
      obtain ⟨q0, q1, q2, q3, q4, q5, q6, q7, q8, q9⟩ := HS3.out
      have hz3 : w.heap.size < w3.heap.size := by
        have := HS3.out.1
        rcases Nat.lt_or_ge w.heap.size w3.heap.size with h | h
        · exact h
        · rw [show w3.cell? ⟨w.heap.size, 0, none⟩ = none by simp [World.cell?, Array.getElem?_eq_none h]] at this; cases this
      have HN : Hid (SeenO w3.heap.size h (.slice uo nu cu) (.slice yo ny cy) (w3.alloc (.cells #[.int .i64 h.k, .int .i64 h.c, .int .i64 h.a, .int .i64 h.w, .int .i64 h.s, .int .i64 h.f, .int .i64 h.x, .int .i64 h.l, .slice uo nu cu, .slice yo ny cy] 43)) ∧ Below w3.heap.size w3 (w3.alloc (.cells #[.int .i64 h.k, .int .i64 h.c, .int .i64 h.a, .int .i64 h.w, .int .i64 h.s, .int .i64 h.f, .int .i64 h.x, .int .i64 h.l, .slice uo nu cu, .slice yo ny cy] 43))) := ⟨seenO_new h _ _ w3, (Below.refl _ _).alloc (Nat.le_refl _) _⟩
      go_wp2_with fail
      refine (HZ.out _).mono ?_
      rintro e w4 ⟨rfl, hb4⟩
      have HN4 : Hid (SeenO w3.heap.size h (.slice uo nu cu) (.slice yo ny cy) w4) := seenO_keep HN.out.1 hb4
      have HB34 : Hid (Below w3.heap.size w3 w4) := HN.out.2.trans (hb4.mono HN.out.2.size)
      have HS4 : Hid (SeenO w.heap.size h (.slice ao na ca) (.slice so ns cs) w4) := seenO_keep HS3.out HB34.out
      have HB4 : Hid (Below w.heap.size w w4) := HB3.out.trans (HB34.out.mono HB3.out.size)
      clear hb4 HN HZ q0 q1 q2 q3 q4 q5 q6 q7 q8 q9
      obtain ⟨q0, q1, q2, q3, q4, q5, q6, q7, q8, q9⟩ := HS4.out
      obtain ⟨p0, p1, p2, p3, p4, p5, p6, p7, p8, p9⟩ := HN4.out
      go_wp2_with (first | (go_at_call 14; refine (no_any _ _).mono ?_; rintro e w' ⟨rfl, rfl⟩))
      refine (HSa.out _ uo nu cu yo ny cy (HQ.out _ HB4.out).1 (HQ.out _ HB4.out).2 (HU3.out.1.later HB34.out) (HU3.out.2.later HB34.out)).mono ?_
      rintro e w5 ⟨rfl, hb5⟩
      have HB5 : Hid (Below w.heap.size w w5) := HB4.out.trans (hb5.mono HB4.out.size)
      clear hb5 HSa HN4 HS4 HB34 q0 q1 q2 q3 q4 q5 q6 q7 q8 q9 p0 p1 p2 p3 p4 p5 p6 p7 p8 p9
      go_wp2_with fail
      refine (alive_any _).mono ?_
      rintro e w6 ⟨rfl, hb6⟩
      have HB6 : Hid (Below w.heap.size w w6) := HB5.out.trans (hb6.mono HB5.out.size)
      clear hb6
      go_wp2
      go_ret
      exact ⟨rfl, HB6.out⟩
    · have HC : Hid (∀ W, Below w.heap.size w W → Calls Try.prog 26 #[AO h av sv] W fun e w' => e = .returned (.tuple #[.slice none 0 0, .int .i64 (wrongE h zs.length ps)]) ∧ Below W.heap.size W w') := fun W hb => Cells_bad h av sv zs ps W (ha.later hb) (hp.later hb) hq (by omega) (by omega) hw
      have hE : (wrongE h zs.length ps != 0) = true := by simp [hw]
      generalize wrongE h zs.length ps = E at HC hE
      clear ha hI hR hp hq hs hw
      subst hav
      subst hsv
      go_enter Try.func9, Try.ntmps9
      go_wp2_with fail
      refine (HSm.out _).mono ?_
      rintro e w1 ⟨rfl, hb1⟩
      have HS1 : Hid (SeenO w.heap.size h (.slice ao na ca) (.slice so ns cs) w1) := seenO_keep (seenO_new h _ _ w) hb1
      have HB1 : Hid (Below w.heap.size w w1) := ((Below.refl _ _).alloc (Nat.le_refl _) _).trans (hb1.mono (by simp))
      clear hb1 HSm
      obtain ⟨q0, q1, q2, q3, q4, q5, q6, q7, q8, q9⟩ := HS1.out
      go_wp2_with fail
      refine (HC.out _ HB1.out).mono ?_
      rintro e w2 ⟨rfl, hb2⟩
      have HB2 : Hid (Below w.heap.size w w2) := HB1.out.trans (hb2.mono HB1.out.size)
      clear hb2 HC HS1 HB1 q0 q1 q2 q3 q4 q5 q6 q7 q8 q9
      go_wp2_with (first | (go_at_call 14; refine (no_any _ _).mono ?_; rintro e w' ⟨rfl, rfl⟩))
      refine (alive_any _).mono ?_
      rintro e w6 ⟨rfl, hb6⟩
      have HB6 : Hid (Below w.heap.size w w6) := HB2.out.trans (hb6.mono HB2.out.size)
      clear hb6
      go_wp2
      go_ret
      exact ⟨rfl, HB6.out⟩
  · rw [show decide (zs.length ≤ 300 ∧ ps.length ≤ 300) = false by simp only [decide_eq_false hs]] at HSm
    clear ha hI hR hp hq hs
    subst hav
    subst hsv
    go_enter Try.func9, Try.ntmps9
    go_wp2_with fail
    refine (HSm.out _).mono ?_
    rintro e w1 ⟨rfl, hb1⟩
    have HB1 : Hid (Below w.heap.size w w1) := ((Below.refl _ _).alloc (Nat.le_refl _) _).trans (hb1.mono (by simp))
    clear hb1 HSm
    go_wp2_with fail
    refine (alive_any _).mono ?_
    rintro e w6 ⟨rfl, hb6⟩
    have HB6 : Hid (Below w.heap.size w w6) := HB1.out.trans (hb6.mono HB1.out.size)
    clear hb6
    go_wp2
    go_ret
    exact ⟨rfl, HB6.out⟩
end Go.Proofs.Ytnmchcanijkggaa
