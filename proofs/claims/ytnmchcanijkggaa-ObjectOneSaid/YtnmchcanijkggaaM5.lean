/- ObjectOne: the walk. -/
import Derived.Test.YtnmchcanijkggaaN1
namespace Go.Proofs.Ytnmchcanijkggaa
open Go.RowKit Go.Lib
set_option linter.unusedVariables false

set_option maxHeartbeats 2000000 in
theorem ObjectOne_any (v : Value) (zs : List Int) (w : World) (hv : SliceIs w v zs) (hI : Iall zs) (hR : RoomOK v) :
    Calls Try.prog 10 #[v] w fun e w' => e = .returned (.bool true) ∧ Below w.heap.size w w' := by
  have HQ : Hid (∀ W, Below w.heap.size w W → SliceIs W v zs) := fun W hb => hv.later hb
  obtain ⟨xo, cx, hx⟩ := hv.form
  by_cases hs : zs.length ≤ 1000
  · cases hb : readB zs
    · have HRd : Hid (Calls Try.prog 29 #[v] w fun e w' => e = .returned (.tuple #[AO h0 (.slice none 0 0) (.slice none 0 0), .int .i64 6]) ∧ Below w.heap.size w w') := by
        refine (Read_any v zs w hv hR hI (by omega)).mono ?_
        rintro e w' ⟨hout, hb'⟩
        refine ⟨?_, hb'⟩
        rcases hout with ⟨hf, _⟩ | ⟨_, he⟩
        · rw [hb] at hf; cases hf
        · exact he
      have HSa : Hid (∀ W, Calls Try.prog 31 #[AO h0 (.slice none 0 0) (.slice none 0 0), AO h0 (.slice none 0 0) (.slice none 0 0)] W fun e w' => e = .returned (.bool true) ∧ Below W.heap.size W w') := by
        intro W
        have := RSame_any h0 h0 (.slice none 0 0) (.slice none 0 0) (.slice none 0 0) (.slice none 0 0) [] [] [] [] W (Or.inl ⟨none, rfl, rfl⟩) (Or.inl ⟨none, rfl, rfl⟩) (Or.inl ⟨none, rfl, rfl⟩) (Or.inl ⟨none, rfl, rfl⟩) (by decide) (by decide)
        rwa [show decide (h0 = h0 ∧ ([] : List Int) = [] ∧ ([] : List (Int × Int)) = []) = true by decide] at this
      have hl : ¬ ((zs.length : Int) > 1000) := by omega
      generalize zs.length = L at *
      clear hv hI hR hb hs HQ
      subst hx
      go_enter Try.func10, Try.ntmps10
      go_wp2_with fail
      refine (HRd.out).mono ?_
      rintro e w1 ⟨rfl, hb1⟩
      have HB1 : Hid (Below w.heap.size w w1) := hb1
      have HW1 : Hid (∀ o, Below w.heap.size w (w1.alloc o)) := fun o => hb1.alloc hb1.size o
      clear hb1 HRd
      have HN : Hid (SeenO w1.heap.size h0 (.slice none 0 0) (.slice none 0 0) (w1.alloc (.cells #[.int .i64 h0.k, .int .i64 h0.c, .int .i64 h0.a, .int .i64 h0.w, .int .i64 h0.s, .int .i64 h0.f, .int .i64 h0.x, .int .i64 h0.l, .slice none 0 0, .slice none 0 0] 43))) := seenO_new h0 _ _ w1
      go_wp2_with (first | (go_at_call 14; refine (no_any _ _).mono ?_; rintro e w' ⟨rfl, rfl⟩))
      refine (HSa.out _).mono ?_
      rintro e w2 ⟨rfl, hb2⟩
      have HB2 : Hid (Below w.heap.size w w2) := (HW1.out _).trans (hb2.mono (HW1.out _).size)
      clear hb2
      go_wp2_with fail
      refine (alive_any _).mono ?_
      rintro e w6 ⟨rfl, hb6⟩
      have HB6 : Hid (Below w.heap.size w w6) := HB2.out.trans (hb6.mono HB2.out.size)
      clear hb6
      go_wp2
      go_ret
      exact ⟨rfl, HB6.out⟩
    · obtain ⟨o1, o2⟩ := one hb
      have hp := slots_i64 hI hb
      have HRd : Hid (Calls Try.prog 29 #[v] w fun e w' => (∃ uo nu cu yo ny cy, e = .returned (.tuple #[AO (headOf zs) (.slice uo nu cu) (.slice yo ny cy), .int .i64 0]) ∧ SliceIs w' (.slice uo nu cu) (auxOf zs) ∧ PairsIs w' (.slice yo ny cy) (slotsOf zs)) ∧ Below w.heap.size w w') := by
        refine (Read_any v zs w hv hR hI (by omega)).mono ?_
        rintro e w' ⟨hout, hb'⟩
        refine ⟨?_, hb'⟩
        rcases hout with ⟨_, av', sv', he, ha', hp'⟩ | ⟨hf, _⟩
        · obtain ⟨uo, cu, hx⟩ := ha'.slice.form
          obtain ⟨yo, cy, hy⟩ := hp'.pairs.form
          have h3 := ha'.slice
          have h4 := hp'.pairs
          rw [hx] at he h3
          rw [hy] at he h4
          exact ⟨uo, _, cu, yo, _, cy, he, h3, h4⟩
        · rw [hb] at hf; cases hf
      have hlen : (auxOf zs).length ≤ 1000 ∧ (slotsOf zs).length ≤ 1000 := by
        have := congrArg List.length o2
        rw [cells_len] at this
        omega
      have HC : Hid (∀ (W : World) (uo : Option Addr) (nu cu : Nat) (yo : Option Addr) (ny cy : Nat), SliceIs W (.slice uo nu cu) (auxOf zs) → PairsIs W (.slice yo ny cy) (slotsOf zs) → Calls Try.prog 26 #[AO (headOf zs) (.slice uo nu cu) (.slice yo ny cy)] W fun e w' => (∃ mo nm cm, e = .returned (.tuple #[.slice mo nm cm, .int .i64 0]) ∧ SliceIs w' (.slice mo nm cm) zs) ∧ Below W.heap.size W w') := by
        intro W uo nu cu yo ny cy h1 h2
        refine (Cells_ok (headOf zs) _ _ (auxOf zs) (slotsOf zs) W h1 h2 hp (by omega) (by omega) o1).mono ?_
        rintro e w' ⟨⟨v, he, hrow⟩, hb'⟩
        rw [o2] at hrow
        obtain ⟨mo, cm, hv⟩ := hrow.slice.form
        have h3 := hrow.slice
        rw [hv] at he h3
        exact ⟨⟨mo, _, cm, he, h3⟩, hb'⟩
      have HSa : Hid (∀ (W : World) (mo : Option Addr) (nm cm : Nat), SliceIs W v zs → SliceIs W (.slice mo nm cm) zs → Calls Try.prog 28 #[v, .slice mo nm cm] W fun e w' => e = .returned (.bool true) ∧ Below W.heap.size W w') := by
        intro W mo nm cm h1 h2
        have := Same_any v (.slice mo nm cm) zs zs W h1 h2 (by omega)
        rwa [show decide (zs = zs) = true by simp] at this
      have hl : ¬ ((zs.length : Int) > 1000) := by omega
      generalize headOf zs = g at HRd HC
      generalize auxOf zs = za at HRd HC
      generalize slotsOf zs = pa at HRd HC
      clear hv hI hR hb hs o1 o2 hp hlen
      subst hx
      generalize zs.length = L at *
      go_enter Try.func10, Try.ntmps10
      go_wp2_with fail
      refine (HRd.out).mono ?_
      rintro e w1 ⟨⟨uo, nu, cu, yo, ny, cy, rfl, u1, u2⟩, hb1⟩
      have HB1 : Hid (Below w.heap.size w w1) := hb1
      have HW1 : Hid (∀ o, Below w.heap.size w (w1.alloc o) ∧ SliceIs (w1.alloc o) (.slice uo nu cu) za ∧ PairsIs (w1.alloc o) (.slice yo ny cy) pa) := fun o => ⟨hb1.alloc hb1.size o, u1.later ((Below.refl _ _).alloc (Nat.le_refl _) _), u2.later ((Below.refl _ _).alloc (Nat.le_refl _) _)⟩
      clear hb1 HRd u1 u2
      go_wp2_with (first | (go_at_call 14; refine (no_any _ _).mono ?_; rintro e w' ⟨rfl, rfl⟩))
      refine (HC.out _ uo nu cu yo ny cy (HW1.out _).2.1 (HW1.out _).2.2).mono ?_
      rintro e w2 ⟨⟨mo, nm, cm, rfl, m1⟩, hb2⟩
      have HB2 : Hid (Below w.heap.size w w2) := (HW1.out _).1.trans (hb2.mono (HW1.out _).1.size)
      have HM : Hid (SliceIs w2 (.slice mo nm cm) zs) := m1
      clear hb2 m1 HC
      go_wp2_with (first | (go_at_call 14; refine (no_any _ _).mono ?_; rintro e w' ⟨rfl, rfl⟩))
      refine (HSa.out _ mo nm cm (HQ.out _ HB2.out) HM.out).mono ?_
      rintro e w3 ⟨rfl, hb3⟩
      have HB3 : Hid (Below w.heap.size w w3) := HB2.out.trans (hb3.mono HB2.out.size)
      clear hb3 HSa
      go_wp2_with fail
      refine (alive_any _).mono ?_
      rintro e w6 ⟨rfl, hb6⟩
      have HB6 : Hid (Below w.heap.size w w6) := HB3.out.trans (hb6.mono HB3.out.size)
      clear hb6
      go_wp2
      go_ret
      exact ⟨rfl, HB6.out⟩
  · have hl : (zs.length : Int) > 1000 := by omega
    generalize zs.length = L at *
    clear hv hI hR hs HQ
    subst hx
    go_enter Try.func10, Try.ntmps10
    go_wp2_with fail
    refine (alive_any _).mono ?_
    rintro e w6 ⟨rfl, hb6⟩
    have HB6 : Hid (Below w.heap.size w w6) := hb6
    clear hb6
    go_wp2
    go_ret
    exact ⟨rfl, HB6.out⟩
end Go.Proofs.Ytnmchcanijkggaa
