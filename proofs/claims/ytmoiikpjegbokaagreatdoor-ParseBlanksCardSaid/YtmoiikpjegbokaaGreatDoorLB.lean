import Derived.Test.YtmoiikpjegbokaaGreatDoorFD
/- ParseBlanks. -/
namespace Go.Proofs.YtmoiikpjegbokaaGreatDoor
open Go.RowKit
set_option linter.unusedSimpArgs false
set_option linter.unusedVariables false

set_option maxRecDepth 20000 in
set_option maxHeartbeats 2000000 in
theorem blanks_err (s : ByteArray) (w : World) (he : ErrIs w) (hg : SgIs w) (ht : Tab10 w) (at' x : Int) (hx : x ≠ 0)
  (hL : Calls Tryz.prog 20 #[.string s] w fun r w' => r = .returned (.tuple #[.slice none 0 0, .int .i64 at', .int .i64 x]) ∧ Kept No w w') :
  Calls Tryz.prog 5 #[.string s] w fun r w' => r = .returned (.bool true) ∧ Kept No w w' := by
 have HL : Hid (Calls Tryz.prog 20 #[.string s] w _) := hL
 have HA : Hid (∀ W, Kept No w W → Calls Tryz.prog 10 #[] W fun r w' => r = .returned (.bool true) ∧ Kept No W w') := fun W hk => alive_any (he.no hk) (hg.no hk) (tab10_below ht hk.below)
 clear hL he hg ht
 have q1 : (x == 0) = false := by simpa using hx
 go_enter Tryz.func5, Tryz.ntmps5
 go_wp2_with fail
 refine Calls.mono HL.out ?_
 rintro e W1 ⟨rfl, hk1⟩
 have HK : Hid (Kept No w W1) := hk1
 clear hk1 HL
 go_wp2_with (first | (go_at_call 18; refine Calls.mono (no_any _ _) ?_; rintro e w' ⟨rfl, rfl⟩))
 refine Calls.mono (HA.out _ HK.out) ?_
 rintro e W2 ⟨rfl, hk2⟩
 have HK2 : Hid (Kept No w W2) := HK.out.trans hk2
 clear hk2 HK HA
 go_wp2_with fail
 go_ret
 exact ⟨rfl, HK2.out⟩

set_option maxRecDepth 20000 in
set_option maxHeartbeats 8000000 in
theorem blanks_ok (s : ByteArray) (w : World) (he : ErrIs w) (hg : SgIs w) (ht : Tab10 w) (hs : s.size ≤ 8192) {L : List Tk} (hL : Lx s hs (skipB false (bl s)) none L) :
  Calls Tryz.prog 5 #[.string s] w fun r w' => r = .returned (.bool true) ∧ Kept No w w' := by
 have HL : Hid (Calls Tryz.prog 20 #[.string s] w _) := Lex_is s w he hg hs hL
 have HA : Hid (∀ W, Kept No w W → Calls Tryz.prog 10 #[] W fun r w' => r = .returned (.bool true) ∧ Kept No W w') := fun W hk => alive_any (he.no hk) (hg.no hk) (tab10_below ht hk.below)
 have HE : Hid (∀ W, Kept No w W → ErrIs W ∧ SgIs W) := fun W hk => ⟨he.no hk, hg.no hk⟩
 have hlen : L.length ≤ 8192 := by have := hL.len; omega
 have htot : tot L ≤ 10000000 := by have := hL.tot; omega
 have HX : Hid (Lx s hs (skipB false (bl s)) none L) := hL
 clear hL he hg ht
 go_enter Tryz.func5, Tryz.ntmps5
 go_wp2_with fail
 refine Calls.mono HL.out ?_
 rintro e W1 ⟨⟨v, rfl, hr⟩, hk1⟩
 obtain ⟨ao, cap, rfl, hs0⟩ := hr.srow
 have HK : Hid (Kept No w W1 ∧ SRow W1 ao L) := ⟨hk1, hs0⟩
 clear hk1 hs0 hr HL
 go_wp2_with (first | (go_at_call 18; refine Calls.mono (no_any _ _) ?_; rintro e w' ⟨rfl, rfl⟩))
 go_loopw [6, 7] (fun t i wr => ∃ j : Nat, j ≤ L.length ∧ i = .int .i64 j ∧ t = .string (tx L j) ∧ Hid (Kept No W1 wr)) (fun _ i _ => L.length - (intOf i).toNat)
 case atStart => exact ⟨0, by omega, rfl, by rw [tx_zero], Kept.refl _ _⟩
 case round =>
  obtain ⟨j, hj, rfl, rfl, HR⟩ := hrel
  by_cases hlt : j < L.length
  ·have lt : (j : Int) < (L.length : Int) := by omega
   obtain ⟨g, o, rfl, hc⟩ := HK.out.2 j hlt
   have a1 := hc wr HR.out 1 (by omega)
   have HT : Hid (tx L j ++ L[j].t ++ gT = tx L (j + 1)) := tx_succ L j hlt
   clear hc
   simp only [tc, List.getElem?_cons_zero, List.getElem?_cons_succ, Nat.add_zero] at a1
   have hxt : L[j].t.size ≤ 100000000 := by have := tot_at L j hlt; omega
   generalize L[j].t = xt at a1 HT hxt
   have z0 := tx_le L j
   have z1 : (tx L j).size + xt.size ≤ 200000000 := by omega
   clear z0
   generalize tx L j = Tj at z1 HT ⊢
   have z2 : (Tj ++ xt).size + 8 ≤ 300000000 := by rw [ByteArray.size_append]; omega
   have y1 : ¬ 9223372036854775807 < Tj.size + xt.size := by omega
   have y2 : ¬ 9223372036854775807 < (Tj ++ xt).size + 8 := by omega
   have y3 : ¬ 9223372036854775807 < Tj.size + xt.size + 8 := by omega
   unfold gT at HT
   go_wp2_with fail
   rw [HT.out]
   clear a1 y1 y2 y3 z1 z2 hxt HT
   go_roundw
   case rel => exact ⟨j + 1, by omega, by go_num, rfl, HR⟩
   case measure => simp [intOf] <;> omega
  ·have lt : ¬ (j : Int) < (L.length : Int) := by omega
   have hje : j = L.length := by omega
   obtain ⟨J, HJ⟩ : ∃ J, Hid (tx L j = J) := ⟨_, show _ = _ from rfl⟩
   have hJ : bl J = eB L := by rw [← HJ.out, tx_bl, hje, List.take_length]
   rw [HJ.out]
   obtain ⟨R, hR⟩ := PsR.all J
   have hR0 : PsR s (whole ⟨L, (s.size : Int)⟩) := .inr ⟨hs, none, L, HX.out, rfl⟩
   obtain ⟨E1, E2⟩ := ends_R HX.out hJ hR
   have HK2 : Hid (Kept No w wr) := HK.out.1.trans HR.out
   have HP1 : Hid _ := Parse_u s wr (HE.out _ HK2.out).1 (HE.out _ HK2.out).2 hR0
   have HP2 : Hid (∀ W, Kept No wr W → _) := fun W hk => Parse_u J W (HE.out _ (HK2.out.trans hk)).1 (HE.out _ (HK2.out.trans hk)).2 hR
   have HS : Hid (SameIs (trOf (whole ⟨L, (s.size : Int)⟩))) := Same_u hR0
   have HE1 : Hid (J.size ≤ 8192 → cdOf R = cdOf (whole ⟨L, (s.size : Int)⟩) ∧ tz (trOf R) = tz (trOf (whole ⟨L, (s.size : Int)⟩))) := E1
   have HE2 : Hid (¬ J.size ≤ 8192 → cdOf R = 3) := E2
   generalize whole ⟨L, (s.size : Int)⟩ = R0 at HP1 HS HE1
   clear hR hR0 E1 E2 hJ HJ HR HK HX HE
   go_wp2_with fail
   refine Calls.mono HP1.out ?_
   rintro r W2 ⟨hk2, cs, rfl, hX⟩
   generalize atOf R0 = at0
   generalize cdOf R0 = cd0 at HE1 ⊢
   obtain ⟨k, t, vt, vn, n, l, a, hx0⟩ : ∃ k t vt vn n l a, trOf R0 = .mk k t vt vn n l a := Tr.ex _
   rw [hx0] at hX HS HE1
   obtain ⟨sv, rfl, hl⟩ := NodeIs.cs.1 hX
   obtain ⟨ao1, ln, cp, rfl⟩ := slice_of hl
   obtain ⟨W3, HW3⟩ : ∃ W3, Hid (W2.alloc (nb (ncs k t vt vn n (.slice ao1 ln cp) a)) = W3) := ⟨_, show _ = _ from rfl⟩
   have HK3 : Hid (Kept No wr W3) := by show Kept _ _ _; rw [← HW3.out]; exact hk2.alloc _
   have hB3 : W3.heap[W2.heap.size]? = some (nb (ncs k t vt vn n (.slice ao1 ln cp) a)) := by rw [← HW3.out]; exact World.alloc_heap_new W2 _
   have hX3 : NodeIs (fun b => b < wr.heap.size) W3 (.mk k t vt vn n l a) (ncs k t vt vn n (.slice ao1 ln cp) a) := by rw [← HW3.out]; exact NodeIs.kept ((Kept.refl _ W2).alloc _) _ _ hX
   have HB3 : Hid (W3.heap[W2.heap.size]? = some (nb (ncs k t vt vn n (.slice ao1 ln cp) a)) ∧ NodeIs (fun b => b < wr.heap.size) W3 (.mk k t vt vn n l a) (ncs k t vt vn n (.slice ao1 ln cp) a)) := ⟨hB3, hX3⟩
   clear hX hl hk2 hB3 hX3 HP1
   unfold nb ncs at HW3
   unfold ncs
   go_wp2_with (first | rw [HW3.out])
   refine Calls.mono (HP2.out _ HK3.out) ?_
   rintro r W4 ⟨hk4, ds, rfl, hY⟩
   generalize atOf R = at2
   generalize cdOf R = cd2 at HE1 HE2 ⊢
   obtain ⟨k', t', vt', vn', n', l', a', hy0⟩ : ∃ k t vt vn n l a, trOf R = .mk k t vt vn n l a := Tr.ex _
   rw [hy0] at hY HE1
   obtain ⟨sv', rfl, hl'⟩ := NodeIs.cs.1 hY
   obtain ⟨ao2, ln', cp', rfl⟩ := slice_of hl'
   obtain ⟨W5, HW5⟩ : ∃ W5, Hid (W4.alloc (nb (ncs k' t' vt' vn' n' (.slice ao2 ln' cp') a')) = W5) := ⟨_, show _ = _ from rfl⟩
   have hk5 : Kept No W3 W5 := by rw [← HW5.out]; exact hk4.alloc _
   have hB5 : W5.heap[W4.heap.size]? = some (nb (ncs k' t' vt' vn' n' (.slice ao2 ln' cp') a')) := by rw [← HW5.out]; exact World.alloc_heap_new W4 _
   have hB1 : W5.heap[W2.heap.size]? = some (nb (ncs k t vt vn n (.slice ao1 ln cp) a)) := hk5.heap HB3.out.1 id
   have hY5 : NodeIs (fun b => b < W3.heap.size) W5 (.mk k' t' vt' vn' n' l' a') (ncs k' t' vt' vn' n' (.slice ao2 ln' cp') a') := by rw [← HW5.out]; exact NodeIs.kept ((Kept.refl _ W4).alloc _) _ _ hY
   have HK5 : Hid (Kept No w W5) := (HK2.out.trans HK3.out).trans hk5
   have HN : Hid (NodeIs (fun b => b < wr.heap.size) W5 (.mk k t vt vn n l a) (ncs k t vt vn n (.slice ao1 ln cp) a) ∧ NodeIs (fun b => b < W3.heap.size) W5 (.mk k' t' vt' vn' n' l' a') (ncs k' t' vt' vn' n' (.slice ao2 ln' cp') a')) := ⟨NodeIs.kept hk5.no _ _ HB3.out.2, hY5⟩
   obtain ⟨r0, r1, r2, r3, r4, r5, r6⟩ := nb_cells hB1
   obtain ⟨p0, p1, p2, p3, p4, p5, p6⟩ := nb_cells hB5
   clear hY hl' hk4 hk5 hB5 hB1 hY5 HB3 HP2 HK2 HK3
   unfold nb ncs at HW5
   unfold ncs
   by_cases hz : J.size ≤ 8192
   ·have d1 : ¬ (8192 : Int) < (J.size : Int) := by omega
    obtain ⟨f1, f2⟩ := HE1.out hz
    have HC : Hid (Calls Tryz.prog 15 _ W5 _) := HS.out _ _ _ W5 _ _ HN.out.1 HN.out.2
    have hsm : smB (.mk k t vt vn n l a) (.mk k' t' vt' vn' n' l' a') = true := (smB_iff _ _).2 f2.symm
    rw [hsm] at HC
    unfold ncs at HC
    subst f1
    clear f2 hsm HE1 HE2 HS HN
    rw [← HW5.out] at r0 r1 r2 r3 r4 r5 r6 p0 p1 p2 p3 p4 p5 p6
    go_wp2_with fail
    rw [HW5.out]
    refine Calls.mono HC.out ?_
    rintro r W6 ⟨rfl, hk6⟩
    have HK6 : Hid (Kept No w W6) := HK5.out.trans hk6
    clear hk6 HC HK5 r0 r1 r2 r3 r4 r5 r6 p0 p1 p2 p3 p4 p5 p6
    go_wp2_with fail
    refine Calls.mono (HA.out _ HK6.out) ?_
    rintro r W9 ⟨rfl, hk9⟩
    have HK9 : Hid (Kept No w W9) := (HK6.out).trans hk9
    clear hk9
    go_wp2_with fail
    go_ret
    exact ⟨rfl, HK9.out⟩
   ·have d1 : (8192 : Int) < (J.size : Int) := by omega
    obtain rfl := HE2.out hz
    clear HE1 HE2 HS HN r0 r1 r2 r3 r4 r5 r6 p0 p1 p2 p3 p4 p5 p6
    go_wp2_with fail
    rw [HW5.out]
    refine Calls.mono (no_any _ _) ?_
    rintro e w' ⟨rfl, rfl⟩
    go_wp2_with fail
    refine Calls.mono (HA.out _ HK5.out) ?_
    rintro r W9 ⟨rfl, hk9⟩
    have HK9 : Hid (Kept No w W9) := (HK5.out).trans hk9
    clear hk9
    go_wp2_with fail
    go_ret
    exact ⟨rfl, HK9.out⟩

theorem ParseBlanks_any (s : ByteArray) (w : World) (hz : s.size ≤ 140737488351232) (he : ErrIs w) (hg : SgIs w) (ht : Tab10 w) :
  Calls Tryz.prog 5 #[.string s] w fun r w' => r = .returned (.bool true) ∧ Kept No w w' := by
 by_cases hs : s.size ≤ 8192
 ·obtain ⟨e, L, hL⟩ := Lx.all s hs (s.size - skipB false (bl s)) (skipB false (bl s)) (Nat.le_refl _)
  cases e with
  | none => exact blanks_ok s w he hg ht hs hL
  | some e =>
   obtain ⟨k, x⟩ := e
   exact blanks_err s w he hg ht k x (hL.err k x rfl).1 (Lex_is s w he hg hs hL)
 ·exact blanks_err s w he hg ht 0 3 (by decide) (Lex_long s w hs)
end Go.Proofs.YtmoiikpjegbokaaGreatDoor
