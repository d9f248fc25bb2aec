import Derived.Test.YtmoiikpjegbokaaGreatDoorFD
import Derived.Test.YtmoiikpjegbokaaGreatDoorGU
/- ParseGroups. -/
namespace Go.Proofs.YtmoiikpjegbokaaGreatDoor
open Go.RowKit
set_option linter.unusedSimpArgs false
set_option linter.unusedVariables false

def gU (s : ByteArray) : ByteArray := ⟨#[120, 32, 61, 32]⟩ ++ s
def gV (s : ByteArray) : ByteArray := ⟨#[120, 32, 61, 32, 40]⟩ ++ s ++ ⟨#[10, 41]⟩
theorem groups_P (s : ByteArray) {R1 R2 : Except (Int × Int) Tr} (h1 : PsR (gU s) R1) (h2 : PsR (gV s) R2) (c1 : cdOf R1 = 0) (c2 : cdOf R2 = 0) {k k' : Int} {t t' : ByteArray} {vt vt' vn vn' c c' : Int} {l l' : List Tr} {a a' : Int}
  (e1 : trOf R1 = .mk k t vt vn c l a) (e2 : trOf R2 = .mk k' t' vt' vn' c' l' a') {xk xk' : Int} {xt xt' : ByteArray} {xvt xvt' xvn xvn' xc xc' : Int} {xl xl' : List Tr} {xa xa' : Int} (q1 : l = [.mk xk xt xvt xvn xc xl xa]) (q2 : l' = [.mk xk' xt' xvt' xvn' xc' xl' xa'])
  (m1 : xl.length = 2) (m2 : xl'.length = 2) : smB (.mk k t vt vn c l a) (.mk k' t' vt' vn' c' l' a') = true := by
 obtain ⟨l1, a1, rfl⟩ := h1.zero c1
 obtain ⟨l2, a2, rfl⟩ := h2.zero c2
 simp only [trOf, nd, Tr.mk.injEq] at e1 e2
 obtain ⟨rfl, rfl, rfl, rfl, rfl, rfl, rfl⟩ := e1
 obtain ⟨rfl, rfl, rfl, rfl, rfl, rfl, rfl⟩ := e2
 refine (smB_iff _ _).2 ?_
 exact (groups_R (s := s) (by unfold gU; rw [bl_add]; rfl) (by unfold gV; rw [bl_add, bl_add]; rfl) h1 h2 rfl rfl q1 q2 m1 m2).symm

set_option maxRecDepth 20000 in
set_option maxHeartbeats 8000000 in
theorem ParseGroups_any (s : ByteArray) (w : World) (hz : s.size ≤ 140737488351232) (he : ErrIs w) (hg : SgIs w) (ht : Tab10 w) :
  Calls Tryz.prog 6 #[.string s] w fun r w' => r = .returned (.bool true) ∧ Kept No w w' := by
 have HA : Hid (∀ W, Kept No w W → Calls Tryz.prog 10 #[] W fun r w' => r = .returned (.bool true) ∧ Kept No W w') := fun W hk => alive_any (he.no hk) (hg.no hk) (tab10_below ht hk.below)
 obtain ⟨R1, hR1⟩ := PsR.all (gU s)
 obtain ⟨R2, hR2⟩ := PsR.all (gV s)
 have HP1 : Hid _ := Parse_u (gU s) w he hg hR1
 have HP2 : Hid (∀ W, Kept No w W → _) := fun W hk => Parse_u (gV s) W (he.no hk) (hg.no hk) hR2
 have HS : Hid (SameIs (trOf R1)) := Same_u hR1
 have HG : Hid (PsR (gU s) R1 ∧ PsR (gV s) R2) := ⟨hR1, hR2⟩
 unfold gU at HP1
 unfold gV at HP2
 clear hR1 hR2 he hg ht
 have y1 : ¬ 9223372036854775807 < 4 + s.size := by omega
 have y2 : ¬ 9223372036854775807 < 5 + s.size := by omega
 have y3 : ¬ 9223372036854775807 < (⟨#[120, 32, 61, 32, 40]⟩ ++ s : ByteArray).size + 2 := by rw [ByteArray.size_append]; show ¬ 9223372036854775807 < 5 + s.size + 2; omega
 have y4 : ¬ 9223372036854775807 < 5 + s.size + 2 := by omega
 go_enter Tryz.func6, Tryz.ntmps6
 go_wp2_with fail
 refine Calls.mono HP1.out ?_
 rintro r W2 ⟨hk2, cs, rfl, hX⟩
 generalize atOf R1 = at0
 obtain ⟨cd1, HC1⟩ : ∃ c, Hid (cdOf R1 = c) := ⟨_, show _ = _ from rfl⟩
 rw [HC1.out]
 obtain ⟨k, t, vt, vn, n, l, a, hx0⟩ : ∃ k t vt vn n l a, trOf R1 = .mk k t vt vn n l a := Tr.ex _
 have HX0 : Hid _ := hx0
 rw [hx0] at hX HS
 obtain ⟨sv, rfl, hl⟩ := NodeIs.cs.1 hX
 obtain ⟨ao1, ln, cp, rfl⟩ := slice_of hl
 obtain ⟨W3, HW3⟩ : ∃ W3, Hid (W2.alloc (nb (ncs k t vt vn n (.slice ao1 ln cp) a)) = W3) := ⟨_, show _ = _ from rfl⟩
 have HK3 : Hid (Kept No w W3) := by show Kept _ _ _; rw [← HW3.out]; exact hk2.alloc _
 have hB3 : W3.heap[W2.heap.size]? = some (nb (ncs k t vt vn n (.slice ao1 ln cp) a)) := by rw [← HW3.out]; exact World.alloc_heap_new W2 _
 have hX3 : NodeIs (fun b => b < w.heap.size) W3 (.mk k t vt vn n l a) (ncs k t vt vn n (.slice ao1 ln cp) a) := by rw [← HW3.out]; exact NodeIs.kept ((Kept.refl _ W2).alloc _) _ _ hX
 have HB3 : Hid (W3.heap[W2.heap.size]? = some (nb (ncs k t vt vn n (.slice ao1 ln cp) a)) ∧ NodeIs (fun b => b < w.heap.size) W3 (.mk k t vt vn n l a) (ncs k t vt vn n (.slice ao1 ln cp) a)) := ⟨hB3, hX3⟩
 clear hX hl hk2 hB3 hX3 HP1 hx0
 unfold nb ncs at HW3
 unfold ncs
 go_wp2_with (first | rw [HW3.out])
 refine Calls.mono (HP2.out _ HK3.out) ?_
 rintro r W4 ⟨hk4, ds, rfl, hY⟩
 generalize atOf R2 = at2
 obtain ⟨cd2, HC2⟩ : ∃ c, Hid (cdOf R2 = c) := ⟨_, show _ = _ from rfl⟩
 rw [HC2.out]
 obtain ⟨k', t', vt', vn', n', l', a', hy0⟩ : ∃ k t vt vn n l a, trOf R2 = .mk k t vt vn n l a := Tr.ex _
 have HY0 : Hid _ := hy0
 rw [hy0] at hY
 obtain ⟨sv', rfl, hl'⟩ := NodeIs.cs.1 hY
 obtain ⟨ao2, ln', cp', rfl⟩ := slice_of hl'
 obtain ⟨W5, HW5⟩ : ∃ W5, Hid (W4.alloc (nb (ncs k' t' vt' vn' n' (.slice ao2 ln' cp') a')) = W5) := ⟨_, show _ = _ from rfl⟩
 have hk5 : Kept No W3 W5 := by rw [← HW5.out]; exact hk4.alloc _
 have hB5 : W5.heap[W4.heap.size]? = some (nb (ncs k' t' vt' vn' n' (.slice ao2 ln' cp') a')) := by rw [← HW5.out]; exact World.alloc_heap_new W4 _
 have hB1 : W5.heap[W2.heap.size]? = some (nb (ncs k t vt vn n (.slice ao1 ln cp) a)) := hk5.heap HB3.out.1 id
 have hY5 : NodeIs (fun b => b < W3.heap.size) W5 (.mk k' t' vt' vn' n' l' a') (ncs k' t' vt' vn' n' (.slice ao2 ln' cp') a') := by rw [← HW5.out]; exact NodeIs.kept ((Kept.refl _ W4).alloc _) _ _ hY
 have HK5 : Hid (Kept No w W5) := HK3.out.trans hk5
 have HN : Hid (NodeIs (fun b => b < w.heap.size) W5 (.mk k t vt vn n l a) (ncs k t vt vn n (.slice ao1 ln cp) a) ∧ NodeIs (fun b => b < W3.heap.size) W5 (.mk k' t' vt' vn' n' l' a') (ncs k' t' vt' vn' n' (.slice ao2 ln' cp') a')) := ⟨NodeIs.kept hk5.no _ _ HB3.out.2, hY5⟩
 have hL1 : Hid _ := (slice_ln (NodeIs.list HN.out.1)).1
 have hL2 : Hid _ := (slice_ln (NodeIs.list HN.out.2)).1
 obtain ⟨r0, r1, r2, r3, r4, r5, r6⟩ := nb_cells hB1
 obtain ⟨p0, p1, p2, p3, p4, p5, p6⟩ := nb_cells hB5
 clear hY hl' hk4 hk5 hB5 hB1 hY5 HB3 HP2 HK3 hy0 y1 y2 y3 y4
 unfold nb ncs at HW5
 unfold ncs
 have HF : Hid (cdOf R1 = 0 → cdOf R2 = 0 → ∀ {xk xk' : Int} {xt xt' : ByteArray} {xvt xvt' xvn xvn' xc xc' : Int} {xl xl' : List Tr} {xa xa' : Int}, l = [.mk xk xt xvt xvn xc xl xa] → l' = [.mk xk' xt' xvt' xvn' xc' xl' xa'] → xl.length = 2 → xl'.length = 2 → smB (.mk k t vt vn n l a) (.mk k' t' vt' vn' n' l' a') = true) :=
  fun c1 c2 {_ _ _ _ _ _ _ _ _ _ _ _ _ _} q1 q2 m1 m2 => groups_P s HG.out.1 HG.out.2 c1 c2 HX0.out HY0.out q1 q2 m1 m2
 rw [HC1.out, HC2.out] at HF
 clear HG HX0 HY0 HC1 HC2
 go_wp2_with fail
 rw [HW5.out]
 refine Calls.mono (no_any _ _) ?_
 rintro e w' ⟨rfl, rfl⟩
 clear HW5
 by_cases c1 : cd1 = 0
 case neg =>
  have d1 : (cd1 == 0) = false := by simpa using c1
  clear r0 r1 r2 r3 r4 r5 r6 p0 p1 p2 p3 p4 p5 p6 HN HS HF
  go_wp2_with (first | (go_at_call 18; refine Calls.mono (no_any _ _) ?_; rintro e w' ⟨rfl, rfl⟩))
  refine Calls.mono (HA.out _ HK5.out) ?_
  rintro r W9 ⟨rfl, hk9⟩
  have HK9 : Hid (Kept No w W9) := (HK5.out).trans hk9
  clear hk9
  go_wp2_with fail
  go_ret
  exact ⟨rfl, HK9.out⟩
 subst c1
 by_cases c2 : cd2 = 0
 case neg =>
  have d1 : (cd2 == 0) = false := by simpa using c2
  clear r0 r1 r2 r3 r4 r5 r6 p0 p1 p2 p3 p4 p5 p6 HN HS HF
  go_wp2_with (first | (go_at_call 18; refine Calls.mono (no_any _ _) ?_; rintro e w' ⟨rfl, rfl⟩))
  refine Calls.mono (HA.out _ HK5.out) ?_
  rintro r W9 ⟨rfl, hk9⟩
  have HK9 : Hid (Kept No w W9) := (HK5.out).trans hk9
  clear hk9
  go_wp2_with fail
  go_ret
  exact ⟨rfl, HK9.out⟩
 subst c2
 by_cases n1 : l.length = 1
 case neg =>
  have d1 : ((ln : Int) == 1) = false := by
   have : ¬ (ln : Int) = 1 := by have := hL1.out; omega
   simpa using this
  have d2 : ¬ (ln : Int) = 1 := by have := hL1.out; omega
  have d3 : ¬ ln = 1 := by omega
  clear p0 p1 p2 p3 p4 p5 p6 HN HS HF
  go_wp2_with (first | (go_at_call 18; refine Calls.mono (no_any _ _) ?_; rintro e w' ⟨rfl, rfl⟩))
  refine Calls.mono (HA.out _ HK5.out) ?_
  rintro r W9 ⟨rfl, hk9⟩
  have HK9 : Hid (Kept No w W9) := (HK5.out).trans hk9
  clear hk9
  go_wp2_with fail
  go_ret
  exact ⟨rfl, HK9.out⟩
 obtain ⟨x, rfl⟩ := List.length_eq_one_iff.1 n1
 obtain ⟨xk, xt, xvt, xvn, xc, xl, xa⟩ := x
 obtain rfl : ln = 1 := hL1.out
 obtain ⟨b1, o1, ao3, cp3, rfl, x5⟩ := first_at HN.out.1 rfl
 by_cases n2 : xl.length = 2
 case neg =>
  have d1 : ((xl.length : Int) == 2) = false := by
   have : ¬ (xl.length : Int) = 2 := by omega
   simpa using this
  have d2 : ¬ (xl.length : Int) = 2 := by omega
  generalize xl.length = ml at x5 d1 d2 n2
  clear p0 p1 p2 p3 p4 p5 p6 HN HS HF
  go_wp2_with (first | (go_at_call 18; refine Calls.mono (no_any _ _) ?_; rintro e w' ⟨rfl, rfl⟩))
  refine Calls.mono (HA.out _ HK5.out) ?_
  rintro r W9 ⟨rfl, hk9⟩
  have HK9 : Hid (Kept No w W9) := (HK5.out).trans hk9
  clear hk9
  go_wp2_with fail
  go_ret
  exact ⟨rfl, HK9.out⟩
 rw [n2] at x5
 by_cases n3 : l'.length = 1
 case neg =>
  have d1 : ((ln' : Int) == 1) = false := by
   have : ¬ (ln' : Int) = 1 := by have := hL2.out; omega
   simpa using this
  have d2 : ¬ (ln' : Int) = 1 := by have := hL2.out; omega
  have d3 : ¬ ln' = 1 := by omega
  clear HN HS HF
  go_wp2_with (first | (go_at_call 18; refine Calls.mono (no_any _ _) ?_; rintro e w' ⟨rfl, rfl⟩))
  refine Calls.mono (HA.out _ HK5.out) ?_
  rintro r W9 ⟨rfl, hk9⟩
  have HK9 : Hid (Kept No w W9) := (HK5.out).trans hk9
  clear hk9
  go_wp2_with fail
  go_ret
  exact ⟨rfl, HK9.out⟩
 obtain ⟨y, rfl⟩ := List.length_eq_one_iff.1 n3
 obtain ⟨yk, yt, yvt, yvn, yc, yl, ya⟩ := y
 obtain rfl : ln' = 1 := hL2.out
 obtain ⟨b2, o2, ao4, cp4, rfl, y5⟩ := first_at HN.out.2 rfl
 by_cases n4 : yl.length = 2
 case neg =>
  have d1 : ((yl.length : Int) == 2) = false := by
   have : ¬ (yl.length : Int) = 2 := by omega
   simpa using this
  have d2 : ¬ (yl.length : Int) = 2 := by omega
  generalize yl.length = ml at y5 d1 d2 n4
  clear HN HS HF
  go_wp2_with (first | (go_at_call 18; refine Calls.mono (no_any _ _) ?_; rintro e w' ⟨rfl, rfl⟩))
  refine Calls.mono (HA.out _ HK5.out) ?_
  rintro r W9 ⟨rfl, hk9⟩
  have HK9 : Hid (Kept No w W9) := (HK5.out).trans hk9
  clear hk9
  go_wp2_with fail
  go_ret
  exact ⟨rfl, HK9.out⟩
 rw [n4] at y5
 have hsm := HF.out rfl rfl rfl rfl n2 n4
 have HC : Hid (Calls Tryz.prog 15 _ W5 _) := HS.out _ _ _ W5 _ _ HN.out.1 HN.out.2
 rw [hsm] at HC
 unfold ncs at HC
 clear hsm HF HS HN
 go_wp2_with (first | (go_at_call 18; refine Calls.mono (no_any _ _) ?_; rintro e w' ⟨rfl, rfl⟩))
 refine Calls.mono HC.out ?_
 rintro r W6 ⟨rfl, hk6⟩
 have HK6 : Hid (Kept No w W6) := HK5.out.trans hk6
 clear hk6 HC HK5 r0 r1 r2 r3 r4 r5 r6 p0 p1 p2 p3 p4 p5 p6 x5 y5
 go_wp2_with fail
 refine Calls.mono (HA.out _ HK6.out) ?_
 rintro r W9 ⟨rfl, hk9⟩
 have HK9 : Hid (Kept No w W9) := (HK6.out).trans hk9
 clear hk9
 go_wp2_with fail
 go_ret
 exact ⟨rfl, HK9.out⟩
end Go.Proofs.YtmoiikpjegbokaaGreatDoor
