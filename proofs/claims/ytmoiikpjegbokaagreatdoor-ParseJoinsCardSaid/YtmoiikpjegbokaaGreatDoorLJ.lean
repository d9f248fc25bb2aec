import Derived.Test.YtmoiikpjegbokaaGreatDoorFD
import Derived.Test.YtmoiikpjegbokaaGreatDoorGU
/- ParseJoins. -/
namespace Go.Proofs.YtmoiikpjegbokaaGreatDoor
open Go.RowKit
set_option linter.unusedSimpArgs false
set_option linter.unusedVariables false

def jU (s t : ByteArray) : ByteArray := s ++ ⟨#[10, 59]⟩ ++ t
theorem jU_size (s t : ByteArray) : (jU s t).size = s.size + 2 + t.size := by unfold jU; rw [ByteArray.size_append, ByteArray.size_append]; rfl
theorem joins_P (s t : ByteArray) {R1 R2 R : Except (Int × Int) Tr} (h1 : PsR s R1) (h2 : PsR t R2) (hR : PsR (jU s t) R) (c1 : cdOf R1 = 0) (c2 : cdOf R2 = 0) {k k' : Int} {t1 t' : ByteArray} {vt vt' vn vn' c c' : Int} {l l' : List Tr} {a a' : Int}
  (e1 : trOf R1 = .mk k t1 vt vn c l a) (e2 : trOf R2 = .mk k' t' vt' vn' c' l' a') (hr : ∀ x, l.getLast? = some x → x.k ≠ 27) :
  (¬ s.size + 2 + t.size ≤ 8192 → cdOf R = 3) ∧ (s.size + 2 + t.size ≤ 8192 → cdOf R = 0 ∧ ∃ m b, trOf R = nd 20 m b ∧ m.map tz = (l ++ l').map tz) := by
 obtain ⟨l1, a1, rfl⟩ := h1.zero c1
 obtain ⟨l2, a2, rfl⟩ := h2.zero c2
 simp only [trOf, nd, Tr.mk.injEq] at e1 e2
 obtain ⟨rfl, rfl, rfl, rfl, rfl, rfl, rfl⟩ := e1
 obtain ⟨rfl, rfl, rfl, rfl, rfl, rfl, rfl⟩ := e2
 obtain ⟨q1, q2⟩ := joins_R (s := s) (t := t) (u := jU s t) (by unfold jU; rw [bl_add, bl_add, List.append_assoc]; rfl) h1 h2 hR rfl rfl hr
 rw [jU_size] at q1 q2
 refine ⟨q1, fun h => ?_⟩
 obtain ⟨m, b, rfl, h3⟩ := q2 h
 exact ⟨rfl, m, b, rfl, h3⟩
theorem nd_bd {R : Except (Int × Int) Tr} {s : ByteArray} (h : PsR s R) {k : Int} {t : ByteArray} {vt vn c : Int} {l : List Tr} {a : Int} (e : trOf R = .mk k t vt vn c l a) : l.length ≤ 20000 ∧ ∀ x ∈ l, SameIs x := by
 have hb := h.bd
 rw [e] at hb
 unfold Bd at hb
 exact ⟨hb.1, fun x hx => Same_any (Nat.le_refl _) _ _ (Nat.lt_succ_self _) (Bds_iff.1 hb.2 x hx)⟩
/-- A tree in its box. -/
structure Bx (w : World) (T : Nat) (k : Int) (t : ByteArray) (vt vn n : Int) (l : List Tr) (a : Int) (ao : Option Addr) (cp : Nat) : Prop where
 box : w.heap[T]? = some (nb (ncs k t vt vn n (.slice ao l.length cp) a))
 node : NodeIs No w (.mk k t vt vn n l a) (ncs k t vt vn n (.slice ao l.length cp) a)
theorem Bx.no {w w' : World} {T : Nat} {k : Int} {t : ByteArray} {vt vn n : Int} {l : List Tr} {a : Int} {ao : Option Addr} {cp : Nat} (h : Bx w T k t vt vn n l a ao cp) (hk : Kept No w w') : Bx w' T k t vt vn n l a ao cp := ⟨hk.heap h.box id, NodeIs.kept hk _ _ h.node⟩

set_option maxRecDepth 20000 in
set_option maxHeartbeats 8000000 in
theorem ParseJoins_any (s t : ByteArray) (w : World) (hz : s.size ≤ 140737488351232) (hzt : t.size ≤ 140737488351232) (he : ErrIs w) (hg : SgIs w) (ht : Tab10 w) :
  Calls Tryz.prog 8 #[.string s, .string t] w fun r w' => r = .returned (.bool true) ∧ Kept No w w' := by
 have HA : Hid (∀ W, Kept No w W → Calls Tryz.prog 10 #[] W fun r w' => r = .returned (.bool true) ∧ Kept No W w') := fun W hk => alive_any (he.no hk) (hg.no hk) (tab10_below ht hk.below)
 obtain ⟨R1, hR1⟩ := PsR.all s
 obtain ⟨R2, hR2⟩ := PsR.all t
 obtain ⟨R3, hR3⟩ := PsR.all (jU s t)
 have HP1 : Hid _ := Parse_u s w he hg hR1
 have HP2 : Hid (∀ W, Kept No w W → _) := fun W hk => Parse_u t W (he.no hk) (hg.no hk) hR2
 have HP3 : Hid (∀ W, Kept No w W → _) := fun W hk => Parse_u (jU s t) W (he.no hk) (hg.no hk) hR3
 have HG : Hid (PsR s R1 ∧ PsR t R2 ∧ PsR (jU s t) R3) := ⟨hR1, hR2, hR3⟩
 unfold jU at HP3
 clear hR1 hR2 hR3 he hg ht
 go_enter Tryz.func8, Tryz.ntmps8
 go_wp2_with fail
 refine Calls.mono HP1.out ?_
 rintro r W2 ⟨hk1, cs1, rfl, hX⟩
 generalize atOf R1 = at1
 obtain ⟨cd1, HC1⟩ : ∃ c, Hid (cdOf R1 = c) := ⟨_, show _ = _ from rfl⟩
 rw [HC1.out]
 obtain ⟨k1, t1, vt1, vn1, n1, l1, a1, hx0⟩ : ∃ k t vt vn n l a, trOf R1 = .mk k t vt vn n l a := Tr.ex _
 have HXx1 : Hid (trOf R1 = .mk k1 t1 vt1 vn1 n1 l1 a1) := hx0
 rw [hx0] at hX
 obtain ⟨sv, rfl, hl⟩ := NodeIs.cs.1 hX
 obtain ⟨ao1, ln1, cp1, rfl⟩ := slice_of hl
 have hL1 := (slice_ln hl).1
 obtain ⟨W3, HW1⟩ : ∃ W, Hid (W2.alloc (nb (ncs k1 t1 vt1 vn1 n1 (.slice ao1 ln1 cp1) a1)) = W) := ⟨_, show _ = _ from rfl⟩
 have hkk : Kept No w W3 := by rw [← HW1.out]; exact hk1.alloc _
 have hB1 : W3.heap[W2.heap.size]? = some (nb (ncs k1 t1 vt1 vn1 n1 (.slice ao1 ln1 cp1) a1)) := by rw [← HW1.out]; exact World.alloc_heap_new W2 _
 have hX1 : NodeIs No W3 (.mk k1 t1 vt1 vn1 n1 l1 a1) (ncs k1 t1 vt1 vn1 n1 (.slice ao1 ln1 cp1) a1) := by rw [← HW1.out]; exact NodeIs.kept ((Kept.refl _ W2).alloc _) _ _ (NodeIs.mono (fun b hb => hb.elim) _ _ hX)
 have HK3 : Hid (Kept No w W3) := hkk
 subst hL1
 have HB1 : Hid (Bx W3 W2.heap.size k1 t1 vt1 vn1 n1 l1 a1 ao1 cp1) := ⟨hB1, hX1⟩
 clear hX hl hk1 hB1 hX1 HP1 hx0 hkk
 unfold nb ncs at HW1
 unfold ncs
 go_wp2_with (first | rw [HW1.out])
 refine Calls.mono (HP2.out _ HK3.out) ?_
 rintro r W4 ⟨hk2, cs2, rfl, hX⟩
 generalize atOf R2 = at2
 obtain ⟨cd2, HC2⟩ : ∃ c, Hid (cdOf R2 = c) := ⟨_, show _ = _ from rfl⟩
 rw [HC2.out]
 obtain ⟨k2, t2, vt2, vn2, n2, l2, a2, hx0⟩ : ∃ k t vt vn n l a, trOf R2 = .mk k t vt vn n l a := Tr.ex _
 have HXx2 : Hid (trOf R2 = .mk k2 t2 vt2 vn2 n2 l2 a2) := hx0
 rw [hx0] at hX
 obtain ⟨sv, rfl, hl⟩ := NodeIs.cs.1 hX
 obtain ⟨ao2, ln2, cp2, rfl⟩ := slice_of hl
 have hL2 := (slice_ln hl).1
 obtain ⟨W5, HW2⟩ : ∃ W, Hid (W4.alloc (nb (ncs k2 t2 vt2 vn2 n2 (.slice ao2 ln2 cp2) a2)) = W) := ⟨_, show _ = _ from rfl⟩
 have hkk : Kept No W3 W5 := by rw [← HW2.out]; exact hk2.alloc _
 have hB2 : W5.heap[W4.heap.size]? = some (nb (ncs k2 t2 vt2 vn2 n2 (.slice ao2 ln2 cp2) a2)) := by rw [← HW2.out]; exact World.alloc_heap_new W4 _
 have hX2 : NodeIs No W5 (.mk k2 t2 vt2 vn2 n2 l2 a2) (ncs k2 t2 vt2 vn2 n2 (.slice ao2 ln2 cp2) a2) := by rw [← HW2.out]; exact NodeIs.kept ((Kept.refl _ W4).alloc _) _ _ (NodeIs.mono (fun b hb => hb.elim) _ _ hX)
 have HK5 : Hid (Kept No w W5) := HK3.out.trans hkk
 subst hL2
 have HB2 : Hid (Bx W5 W2.heap.size k1 t1 vt1 vn1 n1 l1 a1 ao1 cp1 ∧ Bx W5 W4.heap.size k2 t2 vt2 vn2 n2 l2 a2 ao2 cp2) := ⟨HB1.out.no hkk, ⟨hB2, hX2⟩⟩
 clear hX hl hk2 hB2 hX2 HP2 hx0 hkk HB1 HK3 HW1
 unfold nb ncs at HW2
 unfold ncs
 have hb1 := HB2.out.1.box
 obtain ⟨r0, r1, r2, r3, r4, r5, r6⟩ := nb_cells hb1
 clear hb1
 have HF : Hid (cd1 = 0 → cd2 = 0 → (∀ x, l1.getLast? = some x → x.k ≠ 27) → (¬ s.size + 2 + t.size ≤ 8192 → cdOf R3 = 3) ∧ (s.size + 2 + t.size ≤ 8192 → cdOf R3 = 0 ∧ ∃ m b, trOf R3 = nd 20 m b ∧ m.map tz = (l1 ++ l2).map tz)) :=
  fun c1 c2 hr => joins_P s t HG.out.1 HG.out.2.1 HG.out.2.2 (HC1.out.trans c1) (HC2.out.trans c2) HXx1.out HXx2.out hr
 have HN : Hid (l1.length ≤ 20000 ∧ l2.length ≤ 20000) := ⟨(nd_bd HG.out.1 HXx1.out).1, (nd_bd HG.out.2.1 HXx2.out).1⟩
 have HS3 : Hid (∀ {k : Int} {t : ByteArray} {vt vn c : Int} {l : List Tr} {a : Int}, trOf R3 = .mk k t vt vn c l a → ∀ x ∈ l, SameIs x) := fun {_ _ _ _ _ _ _} e => (nd_bd HG.out.2.2 e).2
 clear HG HXx1 HXx2 HC1 HC2
 go_upto_region 3 with fail
 rw [HW2.out]
 clear HW2
 go_cut [53] (fun c wx => ∃ bb : Bool, c = .bool bb ∧ wx = W5 ∧ Hid (bb = false → cd1 = 0 ∧ cd2 = 0 ∧ ∀ x, l1.getLast? = some x → x.k ≠ 27))
 case first =>
  clear HF HS3 HP3
  by_cases c1 : cd1 = 0
  case neg =>
   have d1 : (cd1 == 0) = false := by simpa using c1
   clear r0 r1 r2 r3 r4 r5 r6
   go_wp2_with (first | (go_at_call 18; refine Calls.mono (no_any _ _) ?_; rintro e w' ⟨rfl, rfl⟩))
   go_meet
   exact ⟨true, rfl, rfl, fun h => by cases h⟩
  subst c1
  by_cases c2 : cd2 = 0
  case neg =>
   have d1 : (cd2 == 0) = false := by simpa using c2
   clear r0 r1 r2 r3 r4 r5 r6
   go_wp2_with (first | (go_at_call 18; refine Calls.mono (no_any _ _) ?_; rintro e w' ⟨rfl, rfl⟩))
   go_meet
   exact ⟨true, rfl, rfl, fun h => by cases h⟩
  subst c2
  by_cases h0 : l1.length = 0
  ·have d1 : ¬ (0 : Int) < (l1.length : Int) := by omega
   have d2 : ¬ 0 < l1.length := by omega
   have HZ : Hid (∀ x, l1.getLast? = some x → x.k ≠ 27) := fun x hx => by
    rw [List.length_eq_zero_iff.1 h0] at hx; cases hx
   clear h0
   generalize l1.length = n0 at r5 d1 d2
   go_wp2_with (first | (go_at_call 18; refine Calls.mono (no_any _ _) ?_; rintro e w' ⟨rfl, rfl⟩))
   go_meet
   exact ⟨false, rfl, rfl, fun _ => ⟨by trivial, by trivial, HZ.out⟩⟩
  obtain ⟨m, hm⟩ : ∃ m, l1.length = m + 1 := ⟨l1.length - 1, by omega⟩
  obtain ⟨b, o, xk, xt, xvt, xvn, xn, xl, xa, aox, lnx, cpx, rfl, xe, xd, z0, z1, z2, z3, z4, z5, z6⟩ := part_at HB2.out.1.node m (by omega)
  have hla : ∀ x, l1.getLast? = some x → x.k = xk := fun x hx => by
   have h1 : l1[m]? = some x := by rw [← hx, List.getLast?_eq_getElem?, hm]; rfl
   rw [List.getElem?_eq_getElem (by omega)] at h1
   rw [← Option.some.inj h1, xe]; rfl
  have HLA : Hid (∀ x, l1.getLast? = some x → x.k = xk) := hla
  have hm2 : m ≤ 20000 := by have := HN.out.1; omega
  rw [hm] at r5
  have u1 : IntKind.i64.wrap (((m + 1 : Nat) : Int) - 1) = (m : Int) := by rw [IntKind.wrap_i64]; omega
  have u2 : ((m + 1 : Nat) : Int) - 1 = (m : Int) := by omega
  have u3 : (0 : Int) < ((m + 1 : Nat) : Int) := by omega
  have u4 : (m : Int) < ((m + 1 : Nat) : Int) := by omega
  clear xe xd z1 z2 z3 z4 z5 z6 r0 r1 r2 r3 r4 r6 hm hla h0
  by_cases hx : xk = 27
  ·subst hx
   go_wp2_with (first | (go_at_call 18; refine Calls.mono (no_any _ _) ?_; rintro e w' ⟨rfl, rfl⟩))
   go_meet
   exact ⟨true, rfl, rfl, fun h => by cases h⟩
  ·have d1 : (xk == 27) = false := by simpa using hx
   have HX9 : Hid (xk ≠ 27) := hx
   clear hx
   go_wp2_with (first | (go_at_call 18; refine Calls.mono (no_any _ _) ?_; rintro e w' ⟨rfl, rfl⟩))
   go_meet
   exact ⟨false, rfl, rfl, fun _ => ⟨by trivial, by trivial, fun x hx => by rw [HLA.out x hx]; exact HX9.out⟩⟩
 case rest =>
 obtain ⟨bb, rfl, hwc, HBB⟩ := hcut
 obtain rfl : W5 = _ := hwc.symm
 cases bb with
 | true =>
  clear HF HS3 HP3 r0 r1 r2 r3 r4 r5 r6 HN
  go_wp2_with fail
  refine Calls.mono (HA.out _ HK5.out) ?_
  rintro r W9 ⟨rfl, hk9⟩
  have HK9 : Hid (Kept No w W9) := (HK5.out).trans hk9
  clear hk9
  go_wp2_with fail
  go_ret
  exact ⟨rfl, HK9.out⟩
 | false =>
 obtain ⟨rfl, rfl, hrr⟩ := HBB.out rfl
 have HF2 : Hid _ := HF.out rfl rfl hrr
 clear HF HBB hrr
 have hU1 : IntKind.i64.wrap ((s.size : Int) + 2) = (s.size : Int) + 2 := by rw [IntKind.wrap_i64]; omega
 have hU2 : IntKind.i64.wrap ((s.size : Int) + 2 + (t.size : Int)) = (s.size : Int) + 2 + (t.size : Int) := by rw [IntKind.wrap_i64]; omega
 have y1 : ¬ 9223372036854775807 < s.size + 2 := by omega
 have y2 : ¬ 9223372036854775807 < s.size + 2 + t.size := by omega
 have y3 : ¬ 9223372036854775807 < (s ++ ⟨#[10, 59]⟩ : ByteArray).size + t.size := by rw [ByteArray.size_append]; show ¬ 9223372036854775807 < s.size + 2 + t.size; omega
 go_wp2_with fail
 refine Calls.mono (HP3.out _ HK5.out) ?_
 rintro r W6 ⟨hk3, cs3, rfl, hX⟩
 generalize atOf R3 = at3
 obtain ⟨cd3, HC3⟩ : ∃ c, Hid (cdOf R3 = c) := ⟨_, show _ = _ from rfl⟩
 rw [HC3.out]
 obtain ⟨k3, t3, vt3, vn3, n3, l3, a3, hx0⟩ : ∃ k t vt vn n l a, trOf R3 = .mk k t vt vn n l a := Tr.ex _
 have HXx3 : Hid (trOf R3 = .mk k3 t3 vt3 vn3 n3 l3 a3) := hx0
 rw [hx0] at hX
 obtain ⟨sv, rfl, hl⟩ := NodeIs.cs.1 hX
 obtain ⟨ao3, ln3, cp3, rfl⟩ := slice_of hl
 have hL3 := (slice_ln hl).1
 obtain ⟨W7, HW3⟩ : ∃ W, Hid (W6.alloc (nb (ncs k3 t3 vt3 vn3 n3 (.slice ao3 ln3 cp3) a3)) = W) := ⟨_, show _ = _ from rfl⟩
 have hkk : Kept No W5 W7 := by rw [← HW3.out]; exact hk3.alloc _
 have hB3 : W7.heap[W6.heap.size]? = some (nb (ncs k3 t3 vt3 vn3 n3 (.slice ao3 ln3 cp3) a3)) := by rw [← HW3.out]; exact World.alloc_heap_new W6 _
 have hX3 : NodeIs No W7 (.mk k3 t3 vt3 vn3 n3 l3 a3) (ncs k3 t3 vt3 vn3 n3 (.slice ao3 ln3 cp3) a3) := by rw [← HW3.out]; exact NodeIs.kept ((Kept.refl _ W6).alloc _) _ _ (NodeIs.mono (fun b hb => hb.elim) _ _ hX)
 have HK7 : Hid (Kept No w W7) := HK5.out.trans hkk
 subst hL3
 have HB3 : Hid (Bx W7 W2.heap.size k1 t1 vt1 vn1 n1 l1 a1 ao1 cp1 ∧ Bx W7 W4.heap.size k2 t2 vt2 vn2 n2 l2 a2 ao2 cp2 ∧ Bx W7 W6.heap.size k3 t3 vt3 vn3 n3 l3 a3 ao3 cp3) := ⟨HB2.out.1.no hkk, HB2.out.2.no hkk, ⟨hB3, hX3⟩⟩
 have HS4 : Hid (∀ x ∈ l3, SameIs x) := HS3.out HXx3.out
 have HF3 : Hid ((¬ s.size + 2 + t.size ≤ 8192 → cd3 = 3) ∧ (s.size + 2 + t.size ≤ 8192 → cd3 = 0 ∧ l3.map tz = (l1 ++ l2).map tz)) := by
  obtain ⟨f1, f2⟩ := HF2.out
  refine ⟨fun h => HC3.out.symm.trans (f1 h), fun h => ?_⟩
  obtain ⟨g1, m, b, g2, g3⟩ := f2 h
  refine ⟨HC3.out.symm.trans g1, ?_⟩
  have := HXx3.out.symm.trans g2
  simp only [nd, Tr.mk.injEq] at this
  rw [this.2.2.2.2.2.1]; exact g3
 clear hX hl hk3 hB3 hX3 HP3 hx0 hkk HB2 HK5 HF2 HS3 HXx3 HC3 r0 r1 r2 r3 r4 r5 r6
 unfold nb ncs at HW3
 unfold ncs
 by_cases hsz : s.size + 2 + t.size ≤ 8192
 case neg =>
  have v1 : (8192 : Int) < (s.size : Int) + 2 + (t.size : Int) := by omega
  obtain rfl := HF3.out.1 hsz
  clear HF3 HS4 HB3 HN
  go_wp2_with fail
  rw [HW3.out]
  refine Calls.mono (no_any _ _) ?_
  rintro e w' ⟨rfl, rfl⟩
  go_wp2_with fail
  refine Calls.mono (HA.out _ HK7.out) ?_
  rintro r W9 ⟨rfl, hk9⟩
  have HK9 : Hid (Kept No w W9) := (HK7.out).trans hk9
  clear hk9
  go_wp2_with fail
  go_ret
  exact ⟨rfl, HK9.out⟩
 have v1 : ¬ (8192 : Int) < (s.size : Int) + 2 + (t.size : Int) := by omega
 obtain ⟨rfl, hmm⟩ := HF3.out.2 hsz
 have hlen : l3.length = l1.length + l2.length := by simpa using congrArg List.length hmm
 have HM : Hid (l3.map tz = (l1 ++ l2).map tz ∧ l3.length = l1.length + l2.length) := ⟨hmm, hlen⟩
 have hb1 := HB3.out.1.box
 have hb2 := HB3.out.2.1.box
 have hb3 := HB3.out.2.2.box
 have p5 := (nb_cells hb1).2.2.2.2.2.1
 have q5 := (nb_cells hb2).2.2.2.2.2.1
 have r5 := (nb_cells hb3).2.2.2.2.2.1
 rw [hlen] at r5
 have hn1 := HN.out.1
 have hn2 := HN.out.2
 have u1 : IntKind.i64.wrap ((l1.length : Int) + (l2.length : Int)) = (l1.length : Int) + (l2.length : Int) := by rw [IntKind.wrap_i64]; omega
 have u2 : (((l1.length + l2.length : Nat) : Int) == (l1.length : Int) + (l2.length : Int)) = true := by simp
 have u3 : ((l1.length + l2.length : Nat) : Int) = (l1.length : Int) + (l2.length : Int) := by omega
 clear hmm hlen hb1 hb2 hb3 HF3 hsz
 obtain ⟨N1, HN1⟩ : ∃ n, Hid (l1.length = n) := ⟨_, show _ = _ from rfl⟩
 obtain ⟨N2, HN2⟩ : ∃ n, Hid (l2.length = n) := ⟨_, show _ = _ from rfl⟩
 rw [HN1.out] at p5 r5 u1 u2 u3 hn1
 rw [HN2.out] at q5 r5 u1 u2 u3 hn2
 rw [HN1.out, HN2.out] at HM
 go_wp2_with fail
 rw [HW3.out]
 refine Calls.mono (no_any _ _) ?_
 rintro e w' ⟨rfl, rfl⟩
 go_wp2_with fail
 go_loopw [14] (fun i wr => ∃ j : Nat, j ≤ N1 + N2 ∧ i = .int .i64 j ∧ Hid (Kept No W7 wr)) (fun i _ => N1 + N2 - (intOf i).toNat)
 case atStart => exact ⟨0, by omega, rfl, Kept.refl _ _⟩
 case round =>
  clear p5 q5 r5 u1 u2
  obtain ⟨j, hj, rfl, HR⟩ := hrel
  have HBr : Hid (Bx wr W2.heap.size k1 t1 vt1 vn1 n1 l1 a1 ao1 cp1 ∧ Bx wr W4.heap.size k2 t2 vt2 vn2 n2 l2 a2 ao2 cp2 ∧ Bx wr W6.heap.size k3 t3 vt3 vn3 n3 l3 a3 ao3 cp3) := ⟨HB3.out.1.no HR.out, HB3.out.2.1.no HR.out, HB3.out.2.2.no HR.out⟩
  have b1 := (nb_cells HBr.out.1.box).2.2.2.2.2.1
  have b2 := (nb_cells HBr.out.2.1.box).2.2.2.2.2.1
  have b3 := (nb_cells HBr.out.2.2.box).2.2.2.2.2.1
  rw [HN1.out] at b1
  rw [HN2.out] at b2
  rw [HM.out.2] at b3
  by_cases hlt : j < N1 + N2
  case neg =>
   have k1 : ¬ (j : Int) < ((N1 + N2 : Nat) : Int) := by omega
   have HK8 : Hid (Kept No w wr) := HK7.out.trans HR.out
   clear b1 b2 HBr
   go_wp2_with fail
   refine Calls.mono (HA.out _ HK8.out) ?_
   rintro r W9 ⟨rfl, hk9⟩
   have HK9 : Hid (Kept No w W9) := (HK8.out).trans hk9
   clear hk9
   go_wp2_with fail
   go_ret
   exact ⟨rfl, HK9.out⟩
  have k1 : (j : Int) < ((N1 + N2 : Nat) : Int) := by omega
  have al : ∀ {qb qo : Nat} {v : Value}, wr.cell? ⟨qb, qo, none⟩ = some v → (wr.alloc (nb nz)).cell? ⟨qb, qo, none⟩ = some v := fun h1 => kept_cell ((Kept.refl No wr).alloc _) id h1
  unfold nb nz ncs at al
  have d1 := al b1
  have d2 := al b2
  by_cases hl1 : j < N1
  ·have k2 : (j : Int) < (N1 : Int) := by omega
   have jx : j < l1.length := by rw [HN1.out]; omega
   obtain ⟨b, o, xk, xt, xvt, xvn, xn, xl, xa, aox, lnx, cpx, eao, xe, xd, z0, z1, z2, z3, z4, z5, z6⟩ := part_at HBr.out.1.node j jx
   have e0 := al z0
   have e1 := al z1
   have e2 := al z2
   have e3 := al z3
   have e4 := al z4
   have e5 := al z5
   have e6 := al z6
   rw [eao] at d1
   clear eao
   have HXE : Hid (l1[j]? = some (.mk xk xt xvt xvn xn xl xa)) := by show _ = _; rw [List.getElem?_eq_getElem jx, xe]
   have HXD : Hid (NodeIs No wr (.mk xk xt xvt xvn xn xl xa) (ncs xk xt xvt xvn xn (.slice aox lnx cpx) xa)) := xd
   
   clear al z0 z1 z2 z3 z4 z5 z6 xe xd jx
   clear b1 b2
   go_wp2_with fail
   obtain ⟨WY, HWY⟩ : ∃ WY, Hid (wr.alloc (nb (ncs xk xt xvt xvn xn (.slice aox lnx cpx) xa)) = WY) := ⟨_, show _ = _ from rfl⟩
   have hkw : Kept No wr WY := by rw [← HWY.out]; exact (Kept.refl No wr).alloc _
   have hby : WY.heap[wr.heap.size]? = some (nb (ncs xk xt xvt xvn xn (.slice aox lnx cpx) xa)) := by rw [← HWY.out]; exact World.alloc_heap_new wr _
   unfold nb ncs at HWY
   rw [HWY.out]
   have hBy := HBr.out.2.2.no hkw
   have hyd := NodeIs.kept hkw _ _ HXD.out
   have h5 := (nb_cells hBy.box).2.2.2.2.2.1
   rw [HM.out.2] at h5
   obtain ⟨f0, f1, f2, f3, f4, f5, f6⟩ := nb_cells hby
   obtain ⟨b', o', yk, yt, yvt, yvn, yn, yl, ya, aoy, lny, cpy, eao', ye, yd, c0, c1, c2, c3, c4, c5, c6⟩ := part_at hBy.node j (by rw [HM.out.2]; exact hlt)
   rw [eao'] at h5
   clear eao'
   have hsm : smB (.mk yk yt yvt yvn yn yl ya) (.mk xk xt xvt xvn xn xl xa) = true := by
    rw [smB_iff, ← ye]
    have := congrArg (fun z => z[j]?) HM.out.1
    simp only [List.getElem?_map, List.getElem?_eq_getElem (show j < l3.length by rw [HM.out.2]; exact hlt), Option.map_some] at this
    rw [List.getElem?_append_left (by rw [HN1.out]; exact hl1), HXE.out] at this
    exact Option.some.inj this
   have HC : Hid (∀ m, Calls Tryz.prog 15 #[.agg (ncs yk yt yvt yvn yn (.slice aoy lny cpy) ya).toArray, .agg (ncs xk xt xvt xvn xn (.slice aox lnx cpx) xa).toArray] (WY.drewN m) fun r w' => r = .returned (.bool true) ∧ Kept No (WY.drewN m) w') := fun m => by
    have h := HS4.out _ (List.getElem_mem (show j < l3.length by rw [HM.out.2]; exact hlt))
    rw [ye] at h
    have := h No No (.mk xk xt xvt xvn xn xl xa) (WY.drewN m) _ _ (NodeIs.kept ((Kept.refl No WY).drewN m) _ _ yd) (NodeIs.kept ((Kept.refl No WY).drewN m) _ _ hyd)
    rw [hsm] at this
    exact this
   have HR8 : Hid (Kept No W7 WY) := HR.out.trans hkw
   have c0' : ∀ m, (WY.drewN m).cell? ⟨b', o' + j * 7, none⟩ = some (.int .i64 yk) := fun m => c0
   have c1' : ∀ m, (WY.drewN m).cell? ⟨b', o' + j * 7 + 1, none⟩ = some (.string yt) := fun m => c1
   have c2' : ∀ m, (WY.drewN m).cell? ⟨b', o' + j * 7 + 2, none⟩ = some (.int .i64 yvt) := fun m => c2
   have c3' : ∀ m, (WY.drewN m).cell? ⟨b', o' + j * 7 + 3, none⟩ = some (.int .i64 yvn) := fun m => c3
   have c4' : ∀ m, (WY.drewN m).cell? ⟨b', o' + j * 7 + 4, none⟩ = some (.int .i64 yn) := fun m => c4
   have c5' : ∀ m, (WY.drewN m).cell? ⟨b', o' + j * 7 + 5, none⟩ = some (.slice aoy lny cpy) := fun m => c5
   have c6' : ∀ m, (WY.drewN m).cell? ⟨b', o' + j * 7 + 6, none⟩ = some (.int .i64 ya) := fun m => c6
   have h5' : ∀ m, (WY.drewN m).cell? ⟨W6.heap.size, 5, none⟩ = _ := fun m => h5
   have g0 : ∀ m, (WY.drewN m).cell? ⟨wr.heap.size, 0, none⟩ = some (.int .i64 xk) := fun m => f0
   have g1 : ∀ m, (WY.drewN m).cell? ⟨wr.heap.size, 1, none⟩ = some (.string xt) := fun m => f1
   have g2 : ∀ m, (WY.drewN m).cell? ⟨wr.heap.size, 2, none⟩ = some (.int .i64 xvt) := fun m => f2
   have g3 : ∀ m, (WY.drewN m).cell? ⟨wr.heap.size, 3, none⟩ = some (.int .i64 xvn) := fun m => f3
   have g4 : ∀ m, (WY.drewN m).cell? ⟨wr.heap.size, 4, none⟩ = some (.int .i64 xn) := fun m => f4
   have g5 : ∀ m, (WY.drewN m).cell? ⟨wr.heap.size, 5, none⟩ = some (.slice aox lnx cpx) := fun m => f5
   have g6 : ∀ m, (WY.drewN m).cell? ⟨wr.heap.size, 6, none⟩ = some (.int .i64 xa) := fun m => f6
   clear hby hkw hBy hyd h5 f0 f1 f2 f3 f4 f5 f6 ye yd c0 c1 c2 c3 c4 c5 c6 hsm e0 e1 e2 e3 e4 e5 e6 d1 d2 HXE HXD HWY
   unfold ncs at HC
   refine region_quiet_tail 6 (by kernel_rfl) (by kernel_rfl) ?_
   simp only [List.take_succ_cons, List.take_zero, List.drop_succ_cons, List.drop_zero]
   repeat (go_big_quiet_step (fail))
   refine wpQuiet_nil ?_
   rintro _ ⟨nq, rfl⟩
   go_wp2_with fail
   refine Calls.mono (HC.out nq) ?_
   rintro r W8 ⟨rfl, hk8⟩
   have HR9 : Hid (Kept No W7 W8) := (HR8.out.drewN nq).trans hk8
   clear hk8 HC HR8 c0' c1' c2' c3' c4' c5' c6' h5' g0 g1 g2 g3 g4 g5 g6
   go_wp2_with fail
   go_roundw
   case rel => exact ⟨j + 1, by omega, by go_num, HR9.out⟩
   case measure => simp [intOf] <;> omega
  ·have k2 : ¬ (j : Int) < (N1 : Int) := by omega
   have k3 : IntKind.i64.wrap ((j : Int) - (N1 : Int)) = ((j - N1 : Nat) : Int) := by rw [IntKind.wrap_i64]; omega
   have k4 : (j : Int) - (N1 : Int) = ((j - N1 : Nat) : Int) := by omega
   have k5 : ((j - N1 : Nat) : Int) < (N2 : Int) := by omega
   have jx : (j - N1) < l2.length := by rw [HN2.out]; omega
   obtain ⟨b, o, xk, xt, xvt, xvn, xn, xl, xa, aox, lnx, cpx, eao, xe, xd, z0, z1, z2, z3, z4, z5, z6⟩ := part_at HBr.out.2.1.node (j - N1) jx
   have e0 := al z0
   have e1 := al z1
   have e2 := al z2
   have e3 := al z3
   have e4 := al z4
   have e5 := al z5
   have e6 := al z6
   rw [eao] at d2
   clear eao
   have HXE : Hid (l2[(j - N1)]? = some (.mk xk xt xvt xvn xn xl xa)) := by show _ = _; rw [List.getElem?_eq_getElem jx, xe]
   have HXD : Hid (NodeIs No wr (.mk xk xt xvt xvn xn xl xa) (ncs xk xt xvt xvn xn (.slice aox lnx cpx) xa)) := xd
   generalize hjx : j - N1 = jj at k3 k4 k5 e0 e1 e2 e3 e4 e5 e6 HXE
   clear al z0 z1 z2 z3 z4 z5 z6 xe xd jx
   clear b1 b2
   go_wp2_with fail
   obtain ⟨WY, HWY⟩ : ∃ WY, Hid (wr.alloc (nb (ncs xk xt xvt xvn xn (.slice aox lnx cpx) xa)) = WY) := ⟨_, show _ = _ from rfl⟩
   have hkw : Kept No wr WY := by rw [← HWY.out]; exact (Kept.refl No wr).alloc _
   have hby : WY.heap[wr.heap.size]? = some (nb (ncs xk xt xvt xvn xn (.slice aox lnx cpx) xa)) := by rw [← HWY.out]; exact World.alloc_heap_new wr _
   unfold nb ncs at HWY
   rw [HWY.out]
   have hBy := HBr.out.2.2.no hkw
   have hyd := NodeIs.kept hkw _ _ HXD.out
   have h5 := (nb_cells hBy.box).2.2.2.2.2.1
   rw [HM.out.2] at h5
   obtain ⟨f0, f1, f2, f3, f4, f5, f6⟩ := nb_cells hby
   obtain ⟨b', o', yk, yt, yvt, yvn, yn, yl, ya, aoy, lny, cpy, eao', ye, yd, c0, c1, c2, c3, c4, c5, c6⟩ := part_at hBy.node j (by rw [HM.out.2]; exact hlt)
   rw [eao'] at h5
   clear eao'
   have hsm : smB (.mk yk yt yvt yvn yn yl ya) (.mk xk xt xvt xvn xn xl xa) = true := by
    rw [smB_iff, ← ye]
    have := congrArg (fun z => z[j]?) HM.out.1
    simp only [List.getElem?_map, List.getElem?_eq_getElem (show j < l3.length by rw [HM.out.2]; exact hlt), Option.map_some] at this
    rw [List.getElem?_append_right (by rw [HN1.out]; omega), HN1.out, hjx, HXE.out] at this
    exact Option.some.inj this
   have HC : Hid (∀ m, Calls Tryz.prog 15 #[.agg (ncs yk yt yvt yvn yn (.slice aoy lny cpy) ya).toArray, .agg (ncs xk xt xvt xvn xn (.slice aox lnx cpx) xa).toArray] (WY.drewN m) fun r w' => r = .returned (.bool true) ∧ Kept No (WY.drewN m) w') := fun m => by
    have h := HS4.out _ (List.getElem_mem (show j < l3.length by rw [HM.out.2]; exact hlt))
    rw [ye] at h
    have := h No No (.mk xk xt xvt xvn xn xl xa) (WY.drewN m) _ _ (NodeIs.kept ((Kept.refl No WY).drewN m) _ _ yd) (NodeIs.kept ((Kept.refl No WY).drewN m) _ _ hyd)
    rw [hsm] at this
    exact this
   have HR8 : Hid (Kept No W7 WY) := HR.out.trans hkw
   have c0' : ∀ m, (WY.drewN m).cell? ⟨b', o' + j * 7, none⟩ = some (.int .i64 yk) := fun m => c0
   have c1' : ∀ m, (WY.drewN m).cell? ⟨b', o' + j * 7 + 1, none⟩ = some (.string yt) := fun m => c1
   have c2' : ∀ m, (WY.drewN m).cell? ⟨b', o' + j * 7 + 2, none⟩ = some (.int .i64 yvt) := fun m => c2
   have c3' : ∀ m, (WY.drewN m).cell? ⟨b', o' + j * 7 + 3, none⟩ = some (.int .i64 yvn) := fun m => c3
   have c4' : ∀ m, (WY.drewN m).cell? ⟨b', o' + j * 7 + 4, none⟩ = some (.int .i64 yn) := fun m => c4
   have c5' : ∀ m, (WY.drewN m).cell? ⟨b', o' + j * 7 + 5, none⟩ = some (.slice aoy lny cpy) := fun m => c5
   have c6' : ∀ m, (WY.drewN m).cell? ⟨b', o' + j * 7 + 6, none⟩ = some (.int .i64 ya) := fun m => c6
   have h5' : ∀ m, (WY.drewN m).cell? ⟨W6.heap.size, 5, none⟩ = _ := fun m => h5
   have g0 : ∀ m, (WY.drewN m).cell? ⟨wr.heap.size, 0, none⟩ = some (.int .i64 xk) := fun m => f0
   have g1 : ∀ m, (WY.drewN m).cell? ⟨wr.heap.size, 1, none⟩ = some (.string xt) := fun m => f1
   have g2 : ∀ m, (WY.drewN m).cell? ⟨wr.heap.size, 2, none⟩ = some (.int .i64 xvt) := fun m => f2
   have g3 : ∀ m, (WY.drewN m).cell? ⟨wr.heap.size, 3, none⟩ = some (.int .i64 xvn) := fun m => f3
   have g4 : ∀ m, (WY.drewN m).cell? ⟨wr.heap.size, 4, none⟩ = some (.int .i64 xn) := fun m => f4
   have g5 : ∀ m, (WY.drewN m).cell? ⟨wr.heap.size, 5, none⟩ = some (.slice aox lnx cpx) := fun m => f5
   have g6 : ∀ m, (WY.drewN m).cell? ⟨wr.heap.size, 6, none⟩ = some (.int .i64 xa) := fun m => f6
   clear hby hkw hBy hyd h5 f0 f1 f2 f3 f4 f5 f6 ye yd c0 c1 c2 c3 c4 c5 c6 hsm e0 e1 e2 e3 e4 e5 e6 d1 d2 HXE HXD HWY
   unfold ncs at HC
   refine region_quiet_tail 6 (by kernel_rfl) (by kernel_rfl) ?_
   simp only [List.take_succ_cons, List.take_zero, List.drop_succ_cons, List.drop_zero]
   repeat (go_big_quiet_step (fail))
   refine wpQuiet_nil ?_
   rintro _ ⟨nq, rfl⟩
   go_wp2_with fail
   refine Calls.mono (HC.out nq) ?_
   rintro r W8 ⟨rfl, hk8⟩
   have HR9 : Hid (Kept No W7 W8) := (HR8.out.drewN nq).trans hk8
   clear hk8 HC HR8 c0' c1' c2' c3' c4' c5' c6' h5' g0 g1 g2 g3 g4 g5 g6
   go_wp2_with fail
   go_roundw
   case rel => exact ⟨j + 1, by omega, by go_num, HR9.out⟩
   case measure => simp [intOf] <;> omega
end Go.Proofs.YtmoiikpjegbokaaGreatDoor
