/- ObjectReads: the walk. -/
import Derived.Test.YtnmchcanijkggaaU1
namespace Go.Proofs.Ytnmchcanijkggaa
open Go.RowKit Go.Lib
set_option linter.unusedVariables false

/-- What either Read gives, in one form. -/
def RdOut (g : Hd) (za : List Int) (pa : List (Int × Int)) (E : Int) (w' : World) (e : Ending) : Prop :=
  ∃ uo nu cu yo ny cy, e = .returned (.tuple #[AO g (.slice uo nu cu) (.slice yo ny cy), .int .i64 E]) ∧ SliceIs w' (.slice uo nu cu) za ∧ PairsIs w' (.slice yo ny cy) pa

theorem rd_out {zs : List Int} {w w' : World} {e : Ending} (h : ReadOut zs w w' e) :
    RdOut (if readB zs then headOf zs else h0) (if readB zs then auxOf zs else []) (if readB zs then slotsOf zs else []) (if readB zs then 0 else 6) w' e := by
  rcases h with ⟨hr, av', sv', he, ha', hp'⟩ | ⟨hr, he⟩
  · simp only [hr, if_true]
    obtain ⟨uo, cu, hx⟩ := ha'.slice.form
    obtain ⟨yo, cy, hy⟩ := hp'.pairs.form
    have h3 := ha'.slice
    have h4 := hp'.pairs
    rw [hx] at he h3
    rw [hy] at he h4
    exact ⟨uo, _, cu, yo, _, cy, he, h3, h4⟩
  · simp only [hr, Bool.false_eq_true, if_false]
    exact ⟨none, 0, 0, none, 0, 0, he, Or.inl ⟨none, rfl, rfl⟩, Or.inl ⟨none, rfl, rfl⟩⟩

set_option maxHeartbeats 2000000 in
theorem ObjectReads_any (v : Value) (zs : List Int) (w : World) (hv : SliceIs w v zs) (hI : Iall zs) (hR : RoomOK v) :
    Calls Try.prog 6 #[v] w fun e w' => e = .returned (.bool true) ∧ Below w.heap.size w w' := by
  obtain ⟨xo, cx, hx⟩ := hv.form
  by_cases hs : zs.length ≤ 1000
  · obtain ⟨g, hg⟩ : ∃ g, g = (if readB zs then headOf zs else h0) := ⟨_, rfl⟩
    obtain ⟨za, hza⟩ : ∃ za, za = (if readB zs then auxOf zs else []) := ⟨_, rfl⟩
    obtain ⟨pa, hpa⟩ : ∃ pa, pa = (if readB zs then slotsOf zs else []) := ⟨_, rfl⟩
    obtain ⟨E, hE⟩ : ∃ E : Int, E = (if readB zs then 0 else 6) := ⟨_, rfl⟩
    have hlen : za.length ≤ 100000 ∧ pa.length ≤ 100000 := by
      rw [hza, hpa]
      cases hb : readB zs
      · exact ⟨by simp, by simp⟩
      · have := congrArg List.length (one hb).2
        rw [cells_len] at this
        simp only [if_true]
        omega
    have HRd : Hid (∀ W, Below w.heap.size w W → Calls Try.prog 29 #[v] W fun e w' => RdOut g za pa E w' e ∧ Below W.heap.size W w') := by
      intro W hb
      rw [hg, hza, hpa, hE]
      exact (Read_any v zs W (hv.later hb) hR hI (by omega)).mono fun e w' ⟨h1, h2⟩ => ⟨rd_out h1, h2⟩
    have HRr : Hid (∀ W, Below w.heap.size w W → Calls Try.prog 30 #[v] W fun e w' => RdOut g za pa E w' e ∧ Below W.heap.size W w') := by
      intro W hb
      rw [hg, hza, hpa, hE]
      exact (RRead_any v zs W (hv.later hb) hR hI (by omega)).mono fun e w' ⟨h1, h2⟩ => ⟨rd_out h1, h2⟩
    have HSa : Hid (∀ (W : World) (a1 s1 a2 s2 : Value), SliceIs W a1 za → PairsIs W s1 pa → SliceIs W a2 za → PairsIs W s2 pa → Calls Try.prog 31 #[AO g a1 s1, AO g a2 s2] W fun e w' => e = .returned (.bool true) ∧ Below W.heap.size W w') := by
      intro W a1 s1 a2 s2 q1 q2 q3 q4
      have := RSame_any g g a1 s1 a2 s2 za za pa pa W q1 q2 q3 q4 hlen.1 hlen.2
      rwa [show decide (g = g ∧ za = za ∧ pa = pa) = true by simp] at this
    have hl : ¬ ((zs.length : Int) > 1000) := by omega
    clear hv hI hR hs hlen hg hza hpa hE
    generalize zs.length = L at *
    subst hx
    go_enter Try.func6, Try.ntmps6
    go_wp2_with fail
    refine (HRd.out _ (Below.refl _ _)).mono ?_
    rintro e w1 ⟨⟨uo, nu, cu, yo, ny, cy, rfl, u1, u2⟩, hb1⟩
    have HB1 : Hid (Below w.heap.size w w1) := hb1
    have HW1 : Hid (∀ o, Below w.heap.size w (w1.alloc o) ∧ SliceIs (w1.alloc o) (.slice uo nu cu) za ∧ PairsIs (w1.alloc o) (.slice yo ny cy) pa) := fun o => ⟨hb1.alloc hb1.size o, u1.later ((Below.refl _ _).alloc (Nat.le_refl _) _), u2.later ((Below.refl _ _).alloc (Nat.le_refl _) _)⟩
    have HN1 : Hid (SeenO w1.heap.size g (.slice uo nu cu) (.slice yo ny cy) (w1.alloc (.cells #[.int .i64 g.k, .int .i64 g.c, .int .i64 g.a, .int .i64 g.w, .int .i64 g.s, .int .i64 g.f, .int .i64 g.x, .int .i64 g.l, .slice uo nu cu, .slice yo ny cy] 43))) := seenO_new g _ _ w1
    clear hb1 HRd u1 u2
    go_wp2_with fail
    refine (HRr.out _ (HW1.out _).1).mono ?_
    rintro e w2 ⟨⟨uo', nu', cu', yo', ny', cy', rfl, u1, u2⟩, hb2⟩
    have HB2 : Hid (Below w.heap.size w w2) := (HW1.out _).1.trans (hb2.mono (HW1.out _).1.size)
    have HN2 : Hid (SeenO w1.heap.size g (.slice uo nu cu) (.slice yo ny cy) w2) := seenO_keep HN1.out hb2
    have HU2 : Hid (SliceIs w2 (.slice uo nu cu) za ∧ PairsIs w2 (.slice yo ny cy) pa) := ⟨(HW1.out _).2.1.later hb2, (HW1.out _).2.2.later hb2⟩
    have HW2 : Hid (∀ o, Below w.heap.size w (w2.alloc o) ∧ SliceIs (w2.alloc o) (.slice uo nu cu) za ∧ PairsIs (w2.alloc o) (.slice yo ny cy) pa ∧ SliceIs (w2.alloc o) (.slice uo' nu' cu') za ∧ PairsIs (w2.alloc o) (.slice yo' ny' cy') pa ∧ SeenO w1.heap.size g (.slice uo nu cu) (.slice yo ny cy) (w2.alloc o)) :=
      fun o => ⟨HB2.out.alloc HB2.out.size o, HU2.out.1.later ((Below.refl _ _).alloc (Nat.le_refl _) _), HU2.out.2.later ((Below.refl _ _).alloc (Nat.le_refl _) _), u1.later ((Below.refl _ _).alloc (Nat.le_refl _) _), u2.later ((Below.refl _ _).alloc (Nat.le_refl _) _), seenO_keep HN2.out ((Below.refl _ _).alloc (Nat.le_refl _) _)⟩
    clear hb2 HRr u1 u2 HN1 HN2 HW1 HU2
    obtain ⟨q0, q1, q2, q3, q4, q5, q6, q7, q8, q9⟩ := (HW2.out (.cells #[.int .i64 g.k, .int .i64 g.c, .int .i64 g.a, .int .i64 g.w, .int .i64 g.s, .int .i64 g.f, .int .i64 g.x, .int .i64 g.l, .slice uo' nu' cu', .slice yo' ny' cy'] 43)).2.2.2.2.2
    go_wp2_with fail
    refine (HSa.out _ _ _ _ _ (HW2.out _).2.1 (HW2.out _).2.2.1 (HW2.out _).2.2.2.1 (HW2.out _).2.2.2.2.1).mono ?_
    rintro e w3 ⟨rfl, hb3⟩
    have HB3 : Hid (Below w.heap.size w w3) := (HW2.out _).1.trans (hb3.mono (HW2.out _).1.size)
    clear hb3 HSa HW2 q0 q1 q2 q3 q4 q5 q6 q7 q8 q9
    go_wp2_with (first | (go_at_call 14; refine (no_any _ _).mono ?_; rintro e w' ⟨rfl, rfl⟩))
    refine (alive_any _).mono ?_
    rintro e w6 ⟨rfl, hb6⟩
    have HB6 : Hid (Below w.heap.size w w6) := HB3.out.trans (hb6.mono HB3.out.size)
    clear hb6
    go_wp2
    go_ret
    exact ⟨rfl, HB6.out⟩
  · have hl : (zs.length : Int) > 1000 := by omega
    generalize zs.length = L at *
    clear hv hI hR hs
    subst hx
    go_enter Try.func6, Try.ntmps6
    go_wp2_with fail
    refine (alive_any _).mono ?_
    rintro e w6 ⟨rfl, hb6⟩
    have HB6 : Hid (Below w.heap.size w w6) := hb6
    clear hb6
    go_wp2
    go_ret
    exact ⟨rfl, HB6.out⟩
end Go.Proofs.Ytnmchcanijkggaa
