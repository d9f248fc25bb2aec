/- Joined: UG0 UG UH UI UJ. -/
import Derived.Test.YtmoiikpjegbokaaGreatDoorT0
import Derived.Test.YtmoiikpjegbokaaGreatDoorGO
set_option linter.unusedSimpArgs false
set_option linter.unusedVariables false
set_option maxRecDepth 20000
set_option maxHeartbeats 4000000
/- Ints in a row: is one among them? -/
namespace Go.Proofs.YtmoiikpjegbokaaGreatDoor
open List renaming length_append → lla
open List renaming length_cons → llc
open List renaming length_nil → lln
open Calls renaming mono → cmo
open Go.RowKit
def KRow (w : World) (g : Nat) (ks : List Int) : Prop := w.heap[g]? = some (.cells (ks.map (Value.int .i64)).toArray 3 (0, 0))
theorem KRow.no {w w' : World} {g : Nat} {ks : List Int} (h : KRow w g ks) (hk : Kept No w w') : KRow w' g ks := hk.heap h id
theorem KRow.at {w : World} {g : Nat} {ks : List Int} (h : KRow w g ks) {j : Nat} (hj : j < ks.length) : w.cell? ⟨g, j, none⟩ = some (.int .i64 ks[j]) := by
 unfold KRow at h;rw [cell_of h]; simp [hj]
theorem index_hit {w : World} {g cap : Nat} {ks : List Int} (h : KRow w g ks) (hn : ks.length ≤ 10) {x : Int} (hx : x ∈ ks) :
  Calls Tryz.prog 161 #[.slice (some ⟨g, 0, none⟩) ks.length cap, .int .i64 x] w fun r w' => (∃ j : Nat, j ≤ 10 ∧ r = .returned (.int .i64 j)) ∧ Kept No w w' := by
 have HK : Hid (KRow w g ks) := h;have HX : Hid (x ∈ ks) := hx;obtain ⟨n, HN⟩ := nm (ks.length);rw [HN.out] at hn ⊢;clear h hx;go_enter Tryz.func161, Tryz.ntmps161
 go_wp2_with fail
 go_loopw [8] (fun i wr => ∃ j : Nat, j ≤ n ∧ i = .int .i64 j ∧ Hid (∀ i (h1 : i < ks.length), i < j → ks[i] ≠ x) ∧ Hid (wr = w)) (fun i _ => n - (intOf i).toNat)
 case atStart => exact ⟨0, by omega, rfl, (fun i _ h => by omega), show _ = _ from rfl⟩
 case round =>
  obtain ⟨j, hj, rfl, HJ, HW⟩ := hrel;have e := HW.out;subst e;by_cases hlt : j < n
  ·have k1 : (j : Int) < (n : Int) := by omega
   have j1 : j < ks.length := by have := HN.out; omega
   have x0 := KRow.at HK.out j1;by_cases hx : x = ks[j]
   ·obtain ⟨y, HY⟩ := nm (ks[j]);rw [HY.out] at x0 hx;have q1 : (x == y) = true := by simpa using hx
    clear hx;go_wp2_with fail
    go_ret
    exact ⟨⟨j, by omega, rfl⟩, Kept.refl _ _⟩
   ·have HJ2 : Hid (∀ i (h1 : i < ks.length), i < j + 1 → ks[i] ≠ x) := fun i h1 h2 => by
     rcases Nat.lt_or_ge i j with h3 | h3
     ·exact HJ.out i h1 h3
     ·have e : i = j := by omega
      subst e;exact fun e => hx e.symm
    obtain ⟨y, HY⟩ := nm (ks[j]);rw [HY.out] at x0 hx;have q1 : (x == y) = false := by simpa using hx
    clear hx;go_wp2_with fail
    go_roundw
    case rel => exact ⟨j + 1, by omega, by go_num, HJ2.out, trivial⟩
    case measure => simp [intOf]; omega
  ·exfalso
   obtain ⟨i, hi, e⟩ := List.getElem_of_mem HX.out;exact HJ.out i hi (by have := HN.out; omega) e
theorem contains_hit {w : World} {g cap : Nat} {ks : List Int} (h : KRow w g ks) (hn : ks.length ≤ 10) {x : Int} (hx : x ∈ ks) :
  Calls Tryz.prog 128 #[.slice (some ⟨g, 0, none⟩) ks.length cap, .int .i64 x] w fun r w' => r = .returned (.bool true) ∧ Kept No w w' := by
 have HA : Hid _ := index_hit (cap := cap) h hn hx;clear h hx;go_enter Tryz.func128, Tryz.ntmps128
 go_wp2_with fail
 refine cmo HA.out ?_;rintro r W1 ⟨⟨j, hj, rfl⟩, hk⟩;have HK : Hid _ := hk;have q : (0 : Int) ≤ (j : Int) := by omega
 clear hk HA;go_wp2_with fail
 go_ret
 exact ⟨rfl, HK.out⟩
theorem all_true {w : World} {S : Nat → Prop} {b o cp g cap : Nat} {l : List Tr} {ks : List Int} (hb : ¬ S b) (hr : RowAt S w b o l 0) (hk : KRow w g ks) (hks : ks.length ≤ 10) (hn : l.length ≤ 100000) (h : ∀ x ∈ l, x.k ∈ ks) :
  Calls Tryz.prog 83 #[.slice (some ⟨b, o, none⟩) l.length cp, .slice (some ⟨g, 0, none⟩) ks.length cap] w fun r w' => r = .returned (.bool true) ∧ Kept No w w' := by
 have H0 : Hid (RowAt S w b o l 0 ∧ KRow w g ks) := ⟨hr, hk⟩;have HM : Hid (∀ j (hj : j < l.length), l[j].k ∈ ks) := fun j hj => h _ (List.getElem_mem hj)
 obtain ⟨n, HN⟩ := nm (l.length);rw [HN.out] at hn ⊢;clear hr hk h;go_enter Tryz.func83, Tryz.ntmps83
 go_wp2_with fail
 go_loopw [9] (fun i wr => ∃ j : Nat, j ≤ n ∧ i = .int .i64 j ∧ Hid (Kept No w wr)) (fun i _ => n - (intOf i).toNat)
 case atStart => exact ⟨0, by omega, rfl, Kept.refl _ _⟩
 case round =>
  obtain ⟨j, hj, rfl, HK⟩ := hrel;by_cases hlt : j < n
  ·have k1 : (j : Int) < (n : Int) := by omega
   have j1 : j < l.length := by have := HN.out; omega
   obtain ⟨cs, c1, c2⟩ := (RowAt.kept (HK.out.no (T := S)) b o hb l 0 H0.out.1).at j j1;have hm := HM.out j j1;obtain ⟨x, HXx⟩ := nm (l[j]);rw [HXx.out] at c1 hm;obtain ⟨xk, xt, xvt, xvn, xn, xl, xa⟩ := x;obtain ⟨xs', rfl, hx1⟩ := NodeIs.cs.1 c1;obtain ⟨xo, xln, xc, rfl⟩ := slice_of hx1;rw [Nat.zero_add] at c2;obtain ⟨x0, x1, x2, x3, x4, x5, x6⟩ := seven_cells (fun t ht => by rw [← c2 t ht]);obtain ⟨W1, HW1⟩ := nm (wr.alloc (nb (ncs xk xt xvt xvn xn (.slice xo xln xc) xa)));have hk1 : Kept No wr W1 := by rw [← HW1.out]; exact (Kept.refl No wr).alloc _
   have hb1 : W1.heap[wr.heap.size]? = some (nb (ncs xk xt xvt xvn xn (.slice xo xln xc) xa)) := by rw [← HW1.out]; exact World.alloc_heap_new wr _
   obtain ⟨r0, r1, r2, r3, r4, r5, r6⟩ := nb_cells hb1;have HA : Hid (Calls Tryz.prog 128 #[.slice (some ⟨g, 0, none⟩) ks.length cap, .int .i64 xk] W1 fun r w' => r = .returned (.bool true) ∧ Kept No W1 w') := contains_hit (cap := cap) ((H0.out.2.no HK.out).no hk1) hks hm;have HK1 : Hid (Kept No w W1) := HK.out.trans hk1;unfold nb ncs at HW1;clear c1 c2 hx1 hk1 hb1 hm HK;go_wp2_with (first | rw [HW1.out])
   refine cmo HA.out ?_;rintro r W2 ⟨rfl, hk2⟩;have HK2 : Hid _ := HK1.out.trans hk2;clear hk2 HA HK1 HW1 x0 x1 x2 x3 x4 x5 x6 r0 r1 r2 r3 r4 r5 r6;go_wp2_with fail
   go_roundw
   case rel => exact ⟨j + 1, by omega, by go_num, HK2.out⟩
   case measure => simp [intOf]; omega
  ·have k1 : ¬ (j : Int) < (n : Int) := by omega
   go_wp2_with fail
   go_ret
   exact ⟨rfl, HK.out⟩
theorem are_true {w : World} {S : Nat → Prop} {b o cp g cap : Nat} {l : List Tr} {ks : List Int} (hb : ¬ S b) (hr : RowAt S w b o l 0) (hk : KRow w g ks) (hks : ks.length ≤ 10) (hl : l.length = ks.length) (h : ∀ j (h1 : j < l.length) (h2 : j < ks.length), ks[j] = 0 ∨ l[j].k = ks[j]) :
  Calls Tryz.prog 82 #[.slice (some ⟨b, o, none⟩) l.length cp, .slice (some ⟨g, 0, none⟩) ks.length cap] w fun r w' => r = .returned (.bool true) ∧ Kept No w w' := by
 have H0 : Hid (RowAt S w b o l 0 ∧ KRow w g ks) := ⟨hr, hk⟩;have HM : Hid (∀ j (h1 : j < l.length) (h2 : j < ks.length), ks[j] = 0 ∨ l[j].k = ks[j]) := h;obtain ⟨n, HN⟩ := nm (ks.length);have HL : Hid (l.length = n) := hl.trans HN.out;rw [HL.out, HN.out];rw [HN.out] at hks;clear hr hk h hl;go_enter Tryz.func82, Tryz.ntmps82
 go_wp2_with fail
 go_loopw [14] (fun i wr => ∃ j : Nat, j ≤ n ∧ i = .int .i64 j ∧ Hid (Kept No w wr)) (fun i _ => n - (intOf i).toNat)
 case atStart => exact ⟨0, by omega, rfl, Kept.refl _ _⟩
 case round =>
  obtain ⟨j, hj, rfl, HK⟩ := hrel;by_cases hlt : j < n
  ·have k1 : (j : Int) < (n : Int) := by omega
   have j1 : j < l.length := by have := HL.out; omega
   have j2 : j < ks.length := by have := HN.out; omega
   obtain ⟨cs, c1, c2⟩ := (RowAt.kept (HK.out.no (T := S)) b o hb l 0 H0.out.1).at j j1;have hm := HM.out j j1 j2;have y0 := KRow.at (H0.out.2.no HK.out) j2;obtain ⟨x, HXx⟩ := nm (l[j]);obtain ⟨y, HYy⟩ := nm (ks[j]);rw [HXx.out] at c1 hm;rw [HYy.out] at y0 hm;obtain ⟨xk, xt, xvt, xvn, xn, xl, xa⟩ := x;obtain ⟨xs', rfl, hx1⟩ := NodeIs.cs.1 c1;rw [Nat.zero_add] at c2;have x0 := (seven_cells (fun t ht => by rw [← c2 t ht])).1;have hm' : y = 0 ∨ xk = y := hm;clear c1 c2 hx1 hm;by_cases hy : y = 0
   ·have q1 : (y == 0) = true := by simpa using hy
    have q2 : (y != 0) = false := by simp [hy]
    clear hm' hy;go_wp2_with fail
    go_roundw
    case rel => exact ⟨j + 1, by omega, by go_num, HK.out⟩
    case measure => simp [intOf]; omega
   ·have e : xk = y := hm'.resolve_left hy;have q1 : (y == 0) = false := by simpa using hy
    have q2 : (y != 0) = true := by simp [hy]
    have q3 : (xk == y) = true := by simpa using e
    have q4 : (xk != y) = false := by simp [e]
    clear hm' hy e;go_wp2_with fail
    go_roundw
    case rel => exact ⟨j + 1, by omega, by go_num, HK.out⟩
    case measure => simp [intOf]; omega
  ·have k1 : ¬ (j : Int) < (n : Int) := by omega
   go_wp2_with fail
   go_ret
   exact ⟨rfl, HK.out⟩
structure Stt (nt : Int → Int → ByteArray) (P : Int → Int → Prop) (c B : Nat) (v0 : Value) (w0 : World) (x : Tr) (cs : List Value) (k : Nat) (v : Value) (w : World) (l : List ByteArray) : Prop where
 pr : Pr w c B v l
 pass : Pass c v0 w0 v w
 num : NumOK nt P c w
 node : NodeIs (Out2 c v) w x cs
 box : w.heap[k]? = some (nb cs)
 out : ¬ Out2 c v k
theorem Pass.out {c : Nat} {v v' : Value} {w w' : World} (h : Pass c v w v' w') {k : Nat} (hk : ¬ Out2 c v k) (hl : k < w.heap.size) : ¬ Out2 c v' k := by
 rintro (e | e)
 ·exact hk (.inl e)
 ·rcases h.own with e2 | e2
  ·exact hk (.inr (by rw [← e2]; exact e))
  ·have := e2 k e; omega
theorem Stt.go {nt : Int → Int → ByteArray} {P : Int → Int → Prop} {c B : Nat} {v0 : Value} {w0 : World} {x : Tr} {cs : List Value} {k : Nat} {v v' : Value} {w w' : World} {l l' : List ByteArray} (h : Stt nt P c B v0 w0 x cs k v w l) (hp : Pr w' c B v' l') (hs : Pass c v w v' w') : Stt nt P c B v0 w0 x cs k v' w' l' :=
 ⟨hp, h.pass.trans hs, h.num.low (hs.low h.pr), hs.node h.node, hs.kept.heap h.box h.out, hs.out h.out (hp_lt h.box)⟩
theorem Stt.no {nt : Int → Int → ByteArray} {P : Int → Int → Prop} {c B : Nat} {v0 : Value} {w0 : World} {x : Tr} {cs : List Value} {k : Nat} {v : Value} {w w' : World} {l : List ByteArray} (h : Stt nt P c B v0 w0 x cs k v w l) (hk : Kept No w w') : Stt nt P c B v0 w0 x cs k v w' l := h.go (h.pr.no hk) (Pass.no hk)
theorem Stt.mk0 {nt : Int → Int → ByteArray} {P : Int → Int → Prop} {c B : Nat} {v : Value} {w : World} {x : Tr} {cs : List Value} {l : List ByteArray} (h : Pr w c B v l) (hN : NumOK nt P c w) (hX : NodeIs (Out2 c v) w x cs) : Stt nt P c B v w x cs w.heap.size v (w.alloc (nb cs)) l := by
 have hk : Kept No w (w.alloc (nb cs)) := (Kept.refl No w).alloc _;exact ⟨h.no hk, Pass.no hk, hN.low ((Pass.no (v := v) hk).low h), NodeIs.kept hk.no _ _ hX, World.alloc_heap_new w _, Out2.fresh h (Nat.le_refl _)⟩
theorem child_at {S : Nat → Prop} {w : World} {k : Int} {t : ByteArray} {vt vn n : Int} {l : List Tr} {a : Int} {b o ln cp : Nat} (h : NodeIs S w (.mk k t vt vn n l a) (ncs k t vt vn n (.slice (some ⟨b, o, none⟩) ln cp) a)) (i : Nat) (hi : i < l.length) {yk : Int} {yt : ByteArray} {yvt yvn yn : Int} {yl : List Tr} {ya : Int} (hy : l[i] = .mk yk yt yvt yvn yn yl ya) :
  ∃ ao ln' cp', NodeIs S w (.mk yk yt yvt yvn yn yl ya) (ncs yk yt yvt yvn yn (.slice ao ln' cp') ya) ∧ w.cell? ⟨b, o + i * 7, none⟩ = some (.int .i64 yk) ∧ w.cell? ⟨b, o + i * 7 + 1, none⟩ = some (.string yt) ∧ w.cell? ⟨b, o + i * 7 + 2, none⟩ = some (.int .i64 yvt) ∧ w.cell? ⟨b, o + i * 7 + 3, none⟩ = some (.int .i64 yvn) ∧ w.cell? ⟨b, o + i * 7 + 4, none⟩ = some (.int .i64 yn) ∧ w.cell? ⟨b, o + i * 7 + 5, none⟩ = some (.slice ao ln' cp') ∧ w.cell? ⟨b, o + i * 7 + 6, none⟩ = some (.int .i64 ya) := by
 obtain ⟨sv, e, hl⟩ := NodeIs.cs.1 h;simp only [ncs, List.cons.injEq, true_and, and_true] at e;subst e;rcases hl with ⟨rfl, _⟩ | ⟨b2, o2, cp2, e1, hb2, hbl2, hr2⟩
 ·simp at hi
 simp only [Value.slice.injEq, Option.some.injEq, Addr.mk.injEq, and_true] at e1;obtain ⟨⟨rfl, rfl⟩, _, rfl⟩ := e1;obtain ⟨cs, c1, c2⟩ := hr2.at i hi;rw [hy] at c1;obtain ⟨sv', rfl, hx1⟩ := NodeIs.cs.1 c1;obtain ⟨ao, ln', cp', rfl⟩ := slice_of hx1;rw [Nat.zero_add] at c2;exact ⟨ao, ln', cp', c1, seven_cells (fun t ht => by rw [← c2 t ht])⟩
theorem slice_some {S : Nat → Prop} {w : World} {l : List Tr} {sv : Value} (h : ListIs S w l sv) (hl : l ≠ []) : ∃ b o cp, sv = .slice (some ⟨b, o, none⟩) l.length cp ∧ l.length ≤ cp := by
 rcases h with ⟨e, _⟩ | ⟨b, o, cp, rfl, _, h3, _⟩
 ·exact absurd e hl
 ·exact ⟨b, o, cp, rfl, h3.2⟩
def HasP (x : Tr) : Prop := ∀ (S : Nat → Prop) (w : World) (cs : List Value), NodeIs S w x cs → Calls Tryz.prog 39 #[.agg cs.toArray] w fun r w' => r = .returned (.bool true) ∧ Kept No w w'
def PartIs (f : Nat) (nt : Int → Int → ByteArray) (qt : ByteArray → ByteArray) (P : Int → Int → Prop) (x : Tr) : Prop := ∀ (w : World) (c B : Nat) (v : Value) (l : List ByteArray) (cs : List Value), Pr w c B v l → NumOK nt P c w → NodeIs (Out2 c v) w x cs → l.length + (prT nt qt x).length ≤ 1000000 → Calls Tryz.prog f #[.pointer (some ⟨c, 0, none⟩), .agg cs.toArray] w (Put c B v l (prT nt qt x) w)
variable {nt : Int → Int → ByteArray} {qt : ByteArray → ByteArray} {P : Int → Int → Prop}
theorem tree_expr {x : Tr} (hp : HasP x) (he : PartIs 40 nt qt P x) (hk : x.k < 20) : TreeIs nt qt P x := by
 intro w c B v l cs h hN hX ht;obtain ⟨k, t, vt, vn, n, xl, xa⟩ := x;obtain ⟨sv, rfl, hl⟩ := NodeIs.cs.1 hX;obtain ⟨ao, ln, cp, rfl⟩ := slice_of hl;have hS := Stt.mk0 h hN hX;obtain ⟨W0, HW0⟩ := nm (w.alloc (nb (ncs k t vt vn n (.slice ao ln cp) xa)));rw [HW0.out] at hS;have HS : Hid _ := hS;have HH : Hid _ := hp _ W0 _ hS.node;have HE : Hid (∀ W, Kept No W0 W → Calls Tryz.prog 40 #[.pointer (some ⟨c, 0, none⟩), .agg (ncs k t vt vn n (.slice ao ln cp) xa).toArray] W (Put c B v l (prT nt qt (.mk k t vt vn n xl xa)) W)) := fun W hW => he W c B v l _ (hS.no hW).pr (hS.no hW).num (hS.no hW).node ht
 obtain ⟨ts, HTs⟩ := nm (prT nt qt (.mk k t vt vn n xl xa));rw [HTs.out] at HE ⊢;have hk' : k < 20 := hk;have q1 : k < 20 := hk';obtain ⟨r0, r1, r2, r3, r4, r5, r6⟩ := nb_cells hS.box;unfold nb ncs at HW0;clear h hN hX hl hS hp he ht hk hk' HTs;unfold ncs;go_enter Tryz.func24, Tryz.ntmps24
 go_wp2_with (first | rw [HW0.out])
 refine cmo HH.out ?_;rintro r W1 ⟨rfl, hk1⟩;have HA : Hid _ := HE.out W1 hk1;have HS1 : Hid _ := HS.out.no hk1;obtain ⟨s0, s1, s2, s3, s4, s5, s6⟩ := nb_cells HS1.out.box;clear hk1 HH HE HS HW0 r0 r1 r2 r3 r4 r5 r6;go_wp2_with fail
 refine cmo HA.out ?_;rintro r W2 ⟨rfl, v2, hp2, hs2⟩;have HF : Hid (Pr W2 c B v2 (l ++ ts) ∧ Pass c v w v2 W2) := ⟨hp2, HS1.out.pass.trans hs2⟩;clear hp2 hs2 HA HS1 s0 s1 s2 s3 s4 s5 s6;go_wp2_with fail
 go_end0
 exact ⟨rfl, v2, HF.out⟩
theorem tree_stmt {x : Tr} (hp : HasP x) (he : PartIs 41 nt qt P x) (hk : 20 ≤ x.k) : TreeIs nt qt P x := by
 intro w c B v l cs h hN hX ht;obtain ⟨k, t, vt, vn, n, xl, xa⟩ := x;obtain ⟨sv, rfl, hl⟩ := NodeIs.cs.1 hX;obtain ⟨ao, ln, cp, rfl⟩ := slice_of hl;have hS := Stt.mk0 h hN hX;obtain ⟨W0, HW0⟩ := nm (w.alloc (nb (ncs k t vt vn n (.slice ao ln cp) xa)));rw [HW0.out] at hS;have HS : Hid _ := hS;have HH : Hid _ := hp _ W0 _ hS.node;have HE : Hid (∀ W, Kept No W0 W → Calls Tryz.prog 41 #[.pointer (some ⟨c, 0, none⟩), .agg (ncs k t vt vn n (.slice ao ln cp) xa).toArray] W (Put c B v l (prT nt qt (.mk k t vt vn n xl xa)) W)) := fun W hW => he W c B v l _ (hS.no hW).pr (hS.no hW).num (hS.no hW).node ht
 obtain ⟨ts, HTs⟩ := nm (prT nt qt (.mk k t vt vn n xl xa));rw [HTs.out] at HE ⊢;have hk' : 20 ≤ k := hk;have q1 : ¬ k < 20 := by omega
 obtain ⟨r0, r1, r2, r3, r4, r5, r6⟩ := nb_cells hS.box;unfold nb ncs at HW0;clear h hN hX hl hS hp he ht hk hk' HTs;unfold ncs;go_enter Tryz.func24, Tryz.ntmps24
 go_wp2_with (first | rw [HW0.out])
 refine cmo HH.out ?_;rintro r W1 ⟨rfl, hk1⟩;have HA : Hid _ := HE.out W1 hk1;have HS1 : Hid _ := HS.out.no hk1;obtain ⟨s0, s1, s2, s3, s4, s5, s6⟩ := nb_cells HS1.out.box;clear hk1 HH HE HS HW0 r0 r1 r2 r3 r4 r5 r6;go_wp2_with fail
 refine cmo HA.out ?_;rintro r W2 ⟨rfl, v2, hp2, hs2⟩;have HF : Hid (Pr W2 c B v2 (l ++ ts) ∧ Pass c v w v2 W2) := ⟨hp2, HS1.out.pass.trans hs2⟩;clear hp2 hs2 HA HS1 s0 s1 s2 s3 s4 s5 s6;go_wp2_with fail
 go_end0
 exact ⟨rfl, v2, HF.out⟩
theorem hp_4 (t : ByteArray) (vt vn n : Int) (xl : List Tr) (xa : Int) : HasP (.mk 4 t vt vn n xl xa) := by
 intro S w cs hX;obtain ⟨sv, rfl, hl⟩ := NodeIs.cs.1 hX;obtain ⟨ao, ln, cp, rfl⟩ := slice_of hl;clear hX hl;unfold ncs;go_enter Tryz.func39, Tryz.ntmps39
 go_wp2_with fail
 go_ret
 exact ⟨rfl, (Kept.refl No w).alloc _⟩
theorem hp_6 (t : ByteArray) (vt vn n : Int) (xl : List Tr) (xa : Int) : HasP (.mk 6 t vt vn n xl xa) := by
 intro S w cs hX;obtain ⟨sv, rfl, hl⟩ := NodeIs.cs.1 hX;obtain ⟨ao, ln, cp, rfl⟩ := slice_of hl;clear hX hl;unfold ncs;go_enter Tryz.func39, Tryz.ntmps39
 go_wp2_with fail
 go_ret
 exact ⟨rfl, (Kept.refl No w).alloc _⟩
theorem hp_20 (t : ByteArray) (vt vn n : Int) (xl : List Tr) (xa : Int) : HasP (.mk 20 t vt vn n xl xa) := by
 intro S w cs hX;obtain ⟨sv, rfl, hl⟩ := NodeIs.cs.1 hX;obtain ⟨ao, ln, cp, rfl⟩ := slice_of hl;clear hX hl;unfold ncs;go_enter Tryz.func39, Tryz.ntmps39
 go_wp2_with fail
 go_ret
 exact ⟨rfl, (Kept.refl No w).alloc _⟩
end Go.Proofs.YtmoiikpjegbokaaGreatDoor
namespace Go.Proofs.YtmoiikpjegbokaaGreatDoor
open List renaming length_append → lla
open List renaming length_cons → llc
open List renaming length_nil → lln
open Calls renaming mono → cmo
open Go.RowKit
variable {nt : Int → Int → ByteArray} {qt : ByteArray → ByteArray} {P : Int → Int → Prop}
theorem expr_4  (xl : List Tr) (t : ByteArray) (vt vn n xa : Int) (hne : (nt vt vn).toList ≠ []) (hP : P vt vn) : PartIs 40 nt qt P (.mk 4 t vt vn n xl xa) := by
 intro w c B v l cs h hN hX ht;have e1 : prT nt qt (.mk 4 t vt vn n xl xa) = [nt vt vn] := by simp [prT, prN]
 rw [e1] at ht ⊢;simp only [llc, lln] at ht;obtain ⟨sv, rfl, hl⟩ := NodeIs.cs.1 hX;obtain ⟨ao, ln, cp, rfl⟩ := slice_of hl;have hS := Stt.mk0 h hN hX;obtain ⟨W0, HW0⟩ := nm (w.alloc (nb (ncs 4 t vt vn n (.slice ao ln cp) xa)));rw [HW0.out] at hS;have s0 : W0.heap.size = w.heap.size + 1 := by rw [← HW0.out]; simp
 have HS : Hid _ := hS;have HT : Hid (l.length + 1 ≤ 1000000 ∧ (nt vt vn).toList ≠ []) := ⟨by omega, hne⟩;have HNum : Hid _ := hS.num W0 (Below.refl _ _) vt vn hP;clear hP;unfold nb ncs at HW0;clear h hN hX hl hS ht e1 hne;unfold ncs;go_enter Tryz.func40, Tryz.ntmps40
 go_wp2_with fail
 rw [HW0.out]
 try rw [← s0]
 refine cmo HNum.out ?_;rintro r W1 ⟨rfl, hk1⟩;have HSL : Hid _ := HS.out.no hk1;clear hk1 HNum HS HW0;go_wp2_with fail
 refine cmo (put_new HSL.out.pr [nt vt vn] (by simp) (by have := HT.out.1; simp only [llc, lln]; omega) (by intro t ht; rw [List.mem_singleton.1 ht]; exact HT.out.2)) ?_;rintro r W9 ⟨rfl, v9, hp9, hs9⟩;have HF : Hid (Pr W9 c B v9 (l ++ ([nt vt vn])) ∧ Pass c v w v9 W9) := ⟨by simpa only [List.append_assoc, List.cons_append, List.nil_append] using hp9, HSL.out.pass.trans hs9⟩;clear hp9 hs9 HSL;go_wp2_with fail
 exact bodyPost_end (results_none Tryz.results40 _ _ _) rfl ⟨rfl, v9, HF.out⟩
theorem expr_6  (xl : List Tr) (t : ByteArray) (vt vn n xa : Int) (hne : (t).toList ≠ [])  : PartIs 40 nt qt P (.mk 6 t vt vn n xl xa) := by
 intro w c B v l cs h hN hX ht;have e1 : prT nt qt (.mk 6 t vt vn n xl xa) = [t] := by simp [prT, prN]
 rw [e1] at ht ⊢;simp only [llc, lln] at ht;obtain ⟨sv, rfl, hl⟩ := NodeIs.cs.1 hX;obtain ⟨ao, ln, cp, rfl⟩ := slice_of hl;have hS := Stt.mk0 h hN hX;obtain ⟨W0, HW0⟩ := nm (w.alloc (nb (ncs 6 t vt vn n (.slice ao ln cp) xa)));rw [HW0.out] at hS;have s0 : W0.heap.size = w.heap.size + 1 := by rw [← HW0.out]; simp
 have HS : Hid _ := hS;have HT : Hid (l.length + 1 ≤ 1000000 ∧ (t).toList ≠ []) := ⟨by omega, hne⟩;unfold nb ncs at HW0;clear h hN hX hl hS ht e1 hne;unfold ncs;go_enter Tryz.func40, Tryz.ntmps40
 go_wp2_with fail
 rw [HW0.out]
 try rw [← s0]
 refine cmo (put_new HS.out.pr [t] (by simp) (by have := HT.out.1; simp only [llc, lln]; omega) (by intro t ht; rw [List.mem_singleton.1 ht]; exact HT.out.2)) ?_;rintro r W9 ⟨rfl, v9, hp9, hs9⟩;have HSL := HS;clear HS HW0;have HF : Hid (Pr W9 c B v9 (l ++ ([t])) ∧ Pass c v w v9 W9) := ⟨by simpa only [List.append_assoc, List.cons_append, List.nil_append] using hp9, HSL.out.pass.trans hs9⟩;clear hp9 hs9 HSL;go_wp2_with fail
 exact bodyPost_end (results_none Tryz.results40 _ _ _) rfl ⟨rfl, v9, HF.out⟩
theorem hp_8 (t : ByteArray) (vt vn n : Int) (x y : Tr) (xa : Int) : HasP (.mk 8 t vt vn n [x, y] xa) := by
 intro S w cs hX;obtain ⟨sv, rfl, hl⟩ := NodeIs.cs.1 hX;obtain ⟨W0, HW0⟩ := nm (w.alloc (nb (ncs 8 t vt vn n sv xa)));have hk0 : Kept No w W0 := by rw [← HW0.out]; exact (Kept.refl No w).alloc _
 have hb0 : W0.heap[w.heap.size]? = some (nb (ncs 8 t vt vn n sv xa)) := by rw [← HW0.out]; exact World.alloc_heap_new w _
 obtain ⟨W1, HW1⟩ := nm (W0.alloc (.cells #[.int .i64 0, .int .i64 0] 3));have hk1 : Kept No W0 W1 := by rw [← HW1.out]; exact (Kept.refl No W0).alloc _
 have hK : KRow W1 W0.heap.size [0, 0] := by unfold KRow; rw [← HW1.out]; exact World.alloc_heap_new W0 _
 rcases hl with ⟨e, _⟩ | ⟨b, o, cp, rfl, hb, hbl, hr⟩
 ·simp at e
 have HA : Hid (Calls Tryz.prog 82 #[.slice (some ⟨b, o, none⟩) 2 cp, .slice (some ⟨W0.heap.size, 0, none⟩) 2 2] W1 fun r w' => r = .returned (.bool true) ∧ Kept No W1 w') := are_true (ks := [0, 0]) (l := [x, y]) hb (RowAt.kept (hk0.trans hk1).no b o hb _ 0 hr) hK (by decide) rfl (fun j h1 h2 => by
  have : j = 0 ∨ j = 1 := by simp at h1; omega
  rcases this with rfl | rfl <;> exact .inl rfl)
 have HK : Hid (Kept No w W1) := hk0.trans hk1;have s0 : W0.heap.size = w.heap.size + 1 := by rw [← HW0.out]; simp
 rw [s0] at HA;unfold nb ncs at HW0;simp only [llc, lln, Nat.zero_add, Nat.reduceAdd] at HW0;clear hX hk0 hk1 hb0 hK hb hbl hr s0;unfold ncs;go_enter Tryz.func39, Tryz.ntmps39
 go_wp2_with fail
 rw [HW0.out, HW1.out];refine cmo HA.out ?_;rintro r W2 ⟨rfl, hk2⟩;have HK2 : Hid _ := HK.out.trans hk2;clear hk2 HA HK HW0 HW1;go_wp2_with fail
 go_ret
 exact ⟨rfl, HK2.out⟩
theorem expr_8 {x y : Tr} (hx : TreeIs nt qt P x) (hy : TreeIs nt qt P y) (t : ByteArray) (hne : t.toList ≠ []) (vt vn n xa : Int) : PartIs 40 nt qt P (.mk 8 t vt vn n [x, y] xa) := by
 intro w c B v l cs h hN hX ht;have e1 : prT nt qt (.mk 8 t vt vn n [x, y] xa) = [⟨#[40]⟩] ++ prT nt qt x ++ [t] ++ prT nt qt y ++ [⟨#[41]⟩] := by simp [prT, prTs, prN]
 rw [e1] at ht ⊢;simp only [lla, llc, lln] at ht;obtain ⟨sv, rfl, hl⟩ := NodeIs.cs.1 hX;obtain ⟨b, o, cp, rfl, hcp⟩ := slice_some hl (by simp);have hS := Stt.mk0 h hN hX;obtain ⟨W0, HW0⟩ := nm (w.alloc (nb (ncs 8 t vt vn n (.slice (some ⟨b, o, none⟩) [x, y].length cp) xa)));rw [HW0.out] at hS;have s0 : W0.heap.size = w.heap.size + 1 := by rw [← HW0.out]; simp
 obtain ⟨xk, xt, xvt, xvn, xn, xl, xxa⟩ := x;obtain ⟨yk, yt, yvt, yvn, yn, yl, yya⟩ := y;have HS0 : Hid _ := hS;have Hx : Hid _ := hx;have Hy : Hid _ := hy;obtain ⟨tx, HTx⟩ := nm (prT nt qt (.mk xk xt xvt xvn xn xl xxa));obtain ⟨ty, HTy⟩ := nm (prT nt qt (.mk yk yt yvt yvn yn yl yya));rw [HTx.out, HTy.out] at ht ⊢;have HT : Hid (l.length + tx.length + ty.length + 3 ≤ 1000000 ∧ t.toList ≠ []) := ⟨by omega, hne⟩;unfold nb ncs at HW0;simp only [llc, lln, Nat.zero_add, Nat.reduceAdd] at HW0;clear h hN hX hl hS ht e1 hne hx hy hcp;unfold ncs;simp only [llc, lln, Nat.zero_add, Nat.reduceAdd];go_enter Tryz.func40, Tryz.ntmps40
 go_wp2_with fail
 rw [HW0.out]
 try rw [← s0]
 refine cmo (put_new HS0.out.pr [⟨#[40]⟩] (by simp) (by have := HT.out.1; simp only [lla, llc, lln]; omega) (by intro t0 h0; rw [List.mem_singleton.1 h0]; exact (by rw [ByteArray.toList_eq]; decide))) ?_;rintro r W1 ⟨rfl, v1, hp1, hs1⟩;have HS1 : Hid _ := HS0.out.go hp1 hs1;obtain ⟨r0, r1, r2, r3, r4, r5, r6⟩ := nb_cells HS1.out.box;clear hp1 hs1 HS0;obtain ⟨aox, lnx, cpx, dx, z0, z1, z2, z3, z4, z5, z6⟩ := child_at HS1.out.node 0 (by simp) rfl;simp only [Nat.zero_mul, Nat.one_mul, Nat.add_zero] at z0 z1 z2 z3 z4 z5 z6;have HCx : Hid _ := Hx.out W1 c B v1 _ _ HS1.out.pr HS1.out.num dx (by have := HT.out.1; rw [HTx.out]; simp only [lla, llc, lln]; omega);rw [HTx.out] at HCx;clear dx;go_wp2_with fail
 refine cmo HCx.out ?_;rintro r W2 ⟨rfl, v2, hp2, hs2⟩;have HS2 : Hid _ := HS1.out.go hp2 hs2;clear r0 r1 r2 r3 r4 r5 r6;obtain ⟨r0, r1, r2, r3, r4, r5, r6⟩ := nb_cells HS2.out.box;clear hp2 hs2 HS1 HCx z0 z1 z2 z3 z4 z5 z6;go_wp2_with fail
 refine cmo (put_new HS2.out.pr [t] (by simp) (by have := HT.out.1; simp only [lla, llc, lln]; omega) (by intro t0 h0; rw [List.mem_singleton.1 h0]; exact HT.out.2)) ?_;rintro r W3 ⟨rfl, v3, hp3, hs3⟩;have HS3 : Hid _ := HS2.out.go hp3 hs3;clear r0 r1 r2 r3 r4 r5 r6;obtain ⟨r0, r1, r2, r3, r4, r5, r6⟩ := nb_cells HS3.out.box;clear hp3 hs3 HS2;obtain ⟨aoy, lny, cpy, dy, z0, z1, z2, z3, z4, z5, z6⟩ := child_at HS3.out.node 1 (by simp) rfl;simp only [Nat.zero_mul, Nat.one_mul, Nat.add_zero] at z0 z1 z2 z3 z4 z5 z6;have HCy : Hid _ := Hy.out W3 c B v3 _ _ HS3.out.pr HS3.out.num dy (by have := HT.out.1; rw [HTy.out]; simp only [lla, llc, lln]; omega);rw [HTy.out] at HCy;clear dy;go_wp2_with fail
 refine cmo HCy.out ?_;rintro r W4 ⟨rfl, v4, hp4, hs4⟩;have HS4 : Hid _ := HS3.out.go hp4 hs4;clear r0 r1 r2 r3 r4 r5 r6;obtain ⟨r0, r1, r2, r3, r4, r5, r6⟩ := nb_cells HS4.out.box;clear hp4 hs4 HS3 HCy z0 z1 z2 z3 z4 z5 z6;go_wp2_with fail
 refine cmo (put_new HS4.out.pr [⟨#[41]⟩] (by simp) (by have := HT.out.1; simp only [lla, llc, lln]; omega) (by intro t0 h0; rw [List.mem_singleton.1 h0]; exact (by rw [ByteArray.toList_eq]; decide))) ?_;rintro r W9 ⟨rfl, v9, hp9, hs9⟩;have HSL := HS4;clear HS4 r0 r1 r2 r3 r4 r5 r6;have HF : Hid (Pr W9 c B v9 (l ++ ([⟨#[40]⟩] ++ tx ++ [t] ++ ty ++ [⟨#[41]⟩])) ∧ Pass c v w v9 W9) := ⟨by simpa only [List.append_assoc, List.cons_append, List.nil_append] using hp9, HSL.out.pass.trans hs9⟩;clear hp9 hs9 HSL;go_wp2_with fail
 exact bodyPost_end (results_none Tryz.results40 _ _ _) rfl ⟨rfl, v9, HF.out⟩
end Go.Proofs.YtmoiikpjegbokaaGreatDoor
namespace Go.Proofs.YtmoiikpjegbokaaGreatDoor
open List renaming length_append → lla
open List renaming length_cons → llc
open List renaming length_nil → lln
open Calls renaming mono → cmo
open Go.RowKit
variable {nt : Int → Int → ByteArray} {qt : ByteArray → ByteArray} {P : Int → Int → Prop}
def semiP (ps : List (List ByteArray)) : List ByteArray := (ps.map (fun y => y ++ [⟨#[59]⟩])).flatten
theorem semi_snoc (ps : List (List ByteArray)) (x : List ByteArray) : semiP (ps ++ [x]) = semiP ps ++ x ++ [⟨#[59]⟩] := by simp [semiP]
theorem semi_le (a b : List (List ByteArray)) : (semiP a).length ≤ (semiP (a ++ b)).length := by
 unfold semiP;rw [List.map_append, List.flatten_append, lla]; omega
theorem stmt_20 {xs : List Tr} (hx : ∀ x ∈ xs, TreeIs nt qt P x) (hxl : xs.length ≤ 100000) (t : ByteArray) (vt vn n xa : Int) : PartIs 41 nt qt P (.mk 20 t vt vn n xs xa) := by
 intro w c B v l cs h hN hX ht;have e1 : prT nt qt (.mk 20 t vt vn n xs xa) = semiP (xs.map (prT nt qt)) := by simp [prT, prTs_map, prN, semiP]
 rw [e1] at ht ⊢;obtain ⟨sv, rfl, hl⟩ := NodeIs.cs.1 hX;obtain ⟨ao, ln, cp, rfl⟩ := slice_of hl
 have hln : ln = xs.length := by
  rcases hl with ⟨rfl, e⟩ | ⟨b, o, cap, e, _⟩
  ·simp only [Value.slice.injEq] at e; rw [e.2.1]; rfl
  ·simp only [Value.slice.injEq] at e; exact e.2.1
 subst hln;have hS := Stt.mk0 h hN hX;obtain ⟨W0, HW0⟩ := nm (w.alloc (nb (ncs 20 t vt vn n (.slice ao xs.length cp) xa)));rw [HW0.out] at hS;have H0 : Hid (Stt nt P c B v w (.mk 20 t vt vn n xs xa) (ncs 20 t vt vn n (.slice ao xs.length cp) xa) w.heap.size v W0 l) := hS;have HX : Hid (∀ j (hj : j < xs.length), TreeIs nt qt P xs[j]) := fun j hj => hx _ (List.getElem_mem hj)
 obtain ⟨m, HNn⟩ := nm (xs.length);obtain ⟨ps, HPs⟩ := nm (xs.map (prT nt qt))
 have HPl : Hid (ps.length = m) := by
  show _ = _;rw [← HPs.out, ← HNn.out, List.length_map]
 have HPj : Hid (∀ j (hj : j < xs.length) (hj' : j < ps.length), prT nt qt xs[j] = ps[j]) := fun j hj hj' => by
  have := HPs.out;subst this;simp
 rw [HPs.out] at ht ⊢;have HT : Hid _ := ht;rw [HNn.out] at hxl;unfold nb ncs at HW0;clear h hN hX hl hS ht e1 hx HPs;unfold ncs;rw [HNn.out] at HW0 ⊢;go_enter Tryz.func41, Tryz.ntmps41
 go_wp2_with fail
 rw [HW0.out]
 go_loopw [14] (fun i wr => ∃ j : Nat, j ≤ m ∧ i = .int .i64 j ∧ Hid (∃ v', Stt nt P c B v w (.mk 20 t vt vn n xs xa) (ncs 20 t vt vn n (.slice ao xs.length cp) xa) w.heap.size v' wr (l ++ semiP (ps.take j)))) (fun i _ => m - (intOf i).toNat)
 case atStart => exact ⟨0, by omega, rfl, v, by simp [semiP]; exact H0.out⟩
 case round =>
  clear HW0 H0;obtain ⟨j, hj, rfl, HJ⟩ := hrel;by_cases hlt : j < m
  ·have k1 : (j : Int) < (m : Int) := by omega
   have jx : j < xs.length := by have := HNn.out; omega
   have jp : j < ps.length := by have := HPl.out; omega
   obtain ⟨v1, hs1⟩ := HJ.out;have HTr := HX.out j jx;have HPe := HPj.out j jx jp;obtain ⟨x, HXx⟩ := nm (xs[j]);rw [HXx.out] at HTr HPe;obtain ⟨xk, xt, xvt, xvn, xn, xl, xxa⟩ := x;have hls := hs1.node;obtain ⟨sv2, e2, hl2⟩ := NodeIs.cs.1 hls;simp only [ncs, List.cons.injEq, true_and, and_true] at e2;subst e2;obtain ⟨b, o, cp2, e3, _⟩ := slice_some hl2 (by intro e; rw [e] at jx; simp at jx);simp only [Value.slice.injEq, true_and] at e3;obtain ⟨rfl, rfl⟩ := e3;obtain ⟨ao2, ln2, cp3, d, z0, z1, z2, z3, z4, z5, z6⟩ := child_at hls j jx HXx.out;obtain ⟨W1, HW1⟩ := nm (wr.alloc (nb (ncs xk xt xvt xvn xn (.slice ao2 ln2 cp3) xxa)));have hk1 : Kept No wr W1 := by rw [← HW1.out]; exact (Kept.refl No wr).alloc _
   have hb1 : W1.heap[wr.heap.size]? = some (nb (ncs xk xt xvt xvn xn (.slice ao2 ln2 cp3) xxa)) := by rw [← HW1.out]; exact World.alloc_heap_new wr _
   obtain ⟨r0, r1, r2, r3, r4, r5, r6⟩ := nb_cells hb1;have hs1' := hs1.no hk1
   have e4 : semiP (ps.take (j + 1)) = semiP (ps.take j) ++ prT nt qt (.mk xk xt xvt xvn xn xl xxa) ++ [⟨#[59]⟩] := by
    rw [List.take_add_one, List.getElem?_eq_getElem jp, HPe];exact semi_snoc _ _
   have e5 : (semiP (ps.take (j + 1))).length ≤ (semiP ps).length := by
    have := semi_le (ps.take (j + 1)) (ps.drop (j + 1))
    rwa [List.take_append_drop] at this
   have hbd : (l ++ semiP (ps.take j)).length + ((prT nt qt (.mk xk xt xvt xvn xn xl xxa)).length + 1) ≤ 1000000 := by
    rw [e4] at e5;have := HT.out;simp only [lla, llc, lln] at e5 ⊢;omega
   have HC : Hid _ := HTr W1 c B v1 _ _ hs1'.pr hs1'.num (NodeIs.kept hk1.no _ _ d) (by omega);have HS1 : Hid _ := hs1';have HE : Hid _ := e4;have HBd : Hid _ := hbd;unfold nb ncs at HW1;clear HJ hs1 hs1' hls hl2 d hk1 hb1 e4 e5 hbd HTr HPe;go_wp2_with fail
   try rw [HW1.out]
   refine cmo HC.out ?_;rintro r W2 ⟨rfl, v2, hp2, hs2⟩;have HS2 : Hid _ := HS1.out.go hp2 hs2;clear hp2 hs2 HC HS1 HW1 r0 r1 r2 r3 r4 r5 r6 z0 z1 z2 z3 z4 z5 z6;go_wp2_with fail
   refine cmo (put_new HS2.out.pr [⟨#[59]⟩] (by simp) (by have := HBd.out; simp only [lla, llc, lln] at this ⊢; omega) (by intro t0 h0; rw [List.mem_singleton.1 h0, ByteArray.toList_eq]; decide)) ?_;rintro r W3 ⟨rfl, v3, hp3, hs3⟩
   have HS3 : Hid (Stt nt P c B v w (.mk 20 t vt vn n xs xa) (ncs 20 t vt vn n (.slice (some ⟨b, o, none⟩) xs.length cp) xa) w.heap.size v3 W3 (l ++ semiP (ps.take (j + 1)))) := by
    have := HS2.out.go hp3 hs3;show Stt _ _ _ _ _ _ _ _ _ _ _ _;rw [HE.out];simpa only [List.append_assoc] using this
   clear hp3 hs3 HS2 HE HBd;go_wp2_with fail
   go_roundw
   case rel => exact ⟨j + 1, by omega, by go_num, v3, HS3.out⟩
   case measure => simp [intOf]; omega
  ·have k1 : ¬ (j : Int) < (m : Int) := by omega
   have ej : ps.take j = ps := List.take_of_length_le (by have := HPl.out; omega);rw [ej] at HJ;go_wp2_with fail
   obtain ⟨v9, h9⟩ := HJ.out;exact bodyPost_end (results_none Tryz.results41 _ _ _) rfl ⟨rfl, v9, h9.pr, h9.pass⟩
theorem stmt_22 {m m2 : List Tr} (hm : ∀ x ∈ m, TreeIs nt qt P x) (hm2 : ∀ x ∈ m2, TreeIs nt qt P x) (h1 : m ≠ []) (h2 : m2 ≠ []) (hml : m.length ≤ 50000) (hml2 : m2.length ≤ 50000) (t : ByteArray) (vt vn xa : Int) : PartIs 41 nt qt P (.mk 22 t vt vn m.length (m ++ m2) xa) := by
 intro w c B v l cs h hN hX ht
 have e1 : prT nt qt (.mk 22 t vt vn m.length (m ++ m2) xa) = commaP (m.map (prT nt qt)) ++ [⟨#[61]⟩] ++ commaP (m2.map (prT nt qt)) := by
  simp [prT, prTs_map, prN]
 rw [e1] at ht ⊢;simp only [lla, llc, lln] at ht;obtain ⟨sv, rfl, hl⟩ := NodeIs.cs.1 hX;obtain ⟨b, o, cp, rfl, hcp⟩ := slice_some hl (by simp [h1]);have hS := Stt.mk0 h hN hX;obtain ⟨W0, HW0⟩ := nm (w.alloc (nb (ncs 22 t vt vn m.length (.slice (some ⟨b, o, none⟩) (m ++ m2).length cp) xa)));rw [HW0.out] at hS;have hpos : 0 < m2.length := List.length_pos_iff.2 h2;have hpos1 : 0 < m.length := List.length_pos_iff.2 h1;rw [lla] at hcp
 have hfr : ∀ {v' : Value} {W : World}, NodeIs (Out2 c v') W (.mk 22 t vt vn m.length (m ++ m2) xa) (ncs 22 t vt vn m.length (.slice (some ⟨b, o, none⟩) (m ++ m2).length cp) xa) → ListIs (Out2 c v') W m (.slice (some ⟨b, o, none⟩) m.length cp) ∧ ListIs (Out2 c v') W m2 (.slice (some ⟨b, o + m.length * 7, none⟩) m2.length (cp - m.length)) := by
  intro v' W hn;obtain ⟨sv2, e2, hl2⟩ := NodeIs.cs.1 hn;simp only [ncs, List.cons.injEq, true_and, and_true] at e2;subst e2;rcases hl2 with ⟨e, _⟩ | ⟨b2, o2, cp2, e3, q1, q2, q3⟩
  ·simp [h1] at e
  simp only [Value.slice.injEq, Option.some.injEq, Addr.mk.injEq, and_true] at e3;obtain ⟨⟨rfl, rfl⟩, _, rfl⟩ := e3;refine ⟨.inr ⟨b, o, cp, rfl, q1, ⟨q2.1, by omega⟩, ?_⟩, .inr ⟨b, o + m.length * 7, cp - m.length, rfl, q1, ⟨q2.1, by omega⟩, ?_⟩⟩
  ·have := row_take q3 m.length
   rwa [List.take_left] at this
  ·have := row_drop q3 m.length
   rwa [List.drop_left] at this
 have HS0 : Hid _ := hS;have HL : Hid _ := list_pr hm hS.pr hS.num (hfr hS.node).1 (by omega) (by omega);have HM : Hid (∀ {v' : Value} {W : World} {l' : List ByteArray}, Stt nt P c B v w (.mk 22 t vt vn m.length (m ++ m2) xa) (ncs 22 t vt vn m.length (.slice (some ⟨b, o, none⟩) (m ++ m2).length cp) xa) w.heap.size v' W l' → l'.length + (commaP (m2.map (prT nt qt))).length ≤ 1000000 → Calls Tryz.prog 92 #[.pointer (some ⟨c, 0, none⟩), .slice (some ⟨b, o + m.length * 7, none⟩) m2.length (cp - m.length)] W (Put c B v' l' (commaP (m2.map (prT nt qt))) W)) := fun {v' W l'} hs hb => list_pr hm2 hs.pr hs.num (hfr hs.node).2 (by omega) hb
 obtain ⟨ts, HTs⟩ := nm (commaP (m.map (prT nt qt)));obtain ⟨us, HUs⟩ := nm (commaP (m2.map (prT nt qt)));rw [HTs.out] at HL ht ⊢;rw [HUs.out] at HM ht ⊢;have HT : Hid (l.length + ts.length + us.length + 1 ≤ 1000000) := by show _ ≤ _; omega
 obtain ⟨k, HK⟩ := nm (m.length);obtain ⟨k2, HK2⟩ := nm (m2.length);rw [lla] at HW0 HS0 HM ⊢;rw [HK.out] at hcp HW0 HS0 HL HM hml hpos1 ⊢;rw [HK2.out] at hcp HW0 HS0 HM hml2 hpos ⊢;clear hm hm2 h1 h2 h hN hX hl hS ht e1 hfr HTs HUs HK HK2;unfold nb ncs at HW0;unfold ncs;have p1 : k ≤ cp := by omega
 have p2 : (k : Int) ≤ (cp : Int) := by omega
 have p3 : (0 : Int) ≤ (k : Int) := by omega
 have p4 : ¬ cp = k := by omega
 have p5 : (k : Int) ≤ ((k + k2 : Nat) : Int) := by omega
 have p6 : k + k2 - k = k2 := by omega
 have p7 : ((k + k2 : Nat) : Int) ≤ (cp : Int) := by omega
 go_enter Tryz.func41, Tryz.ntmps41
 go_wp2_with fail
 rw [HW0.out];refine cmo HL.out ?_;rintro r W1 ⟨rfl, v1, hp1, hs1⟩;have HS1 : Hid _ := HS0.out.go hp1 hs1;clear hp1 hs1 HL HS0 HW0;go_wp2_with fail
 refine cmo (put_new HS1.out.pr [⟨#[61]⟩] (by simp) (by have := HT.out; simp only [lla, llc, lln]; omega) (by intro t0 h0; rw [List.mem_singleton.1 h0, ByteArray.toList_eq]; decide)) ?_;rintro r W2 ⟨rfl, v2, hp2, hs2⟩;have HS2 : Hid _ := HS1.out.go hp2 hs2;have HC : Hid _ := HM.out HS2.out (by have := HT.out; simp only [lla, llc, lln]; omega);obtain ⟨r0, r1, r2, r3, r4, r5, r6⟩ := nb_cells HS2.out.box;clear hp2 hs2 HS1 HM;go_wp2_with fail
 refine cmo HC.out ?_;rintro r W3 ⟨rfl, v3, hp3, hs3⟩;have HF : Hid (Pr W3 c B v3 (l ++ (ts ++ [⟨#[61]⟩] ++ us)) ∧ Pass c v w v3 W3) := ⟨by simpa only [List.append_assoc, List.cons_append, List.nil_append] using hp3, HS2.out.pass.trans hs3⟩;clear hp3 hs3 HS2 HC r0 r1 r2 r3 r4 r5 r6;go_wp2_with fail
 exact bodyPost_end (results_none Tryz.results41 _ _ _) rfl ⟨rfl, v3, HF.out⟩
end Go.Proofs.YtmoiikpjegbokaaGreatDoor
