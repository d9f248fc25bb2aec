/- Joined: Q0 UA UB UC UD UE. -/
import Derived.Test.YtmoiikpjegbokaaGreatDoorGA
import Derived.StillTail
import Derived.Deep.QuietTactic
import Derived.BigQuiet
import Derived.Test.YtmoiikpjegbokaaGreatDoorGF
import Derived.Test.YtmoiikpjegbokaaGreatDoorGN
set_option linter.unusedSimpArgs false
set_option linter.unusedVariables false
set_option maxRecDepth 20000
set_option maxHeartbeats 4000000
/- A region that draws its order, whose operations but the last ones only read (calls that only read among them), and whose last ones stand in a row behind all others. -/
namespace Go.Proofs.YtmoiikpjegbokaaGreatDoor
open Kept renaming refl → krf
open Go.Proofs.Tryz renaming prog → tpg
open Go.RowKit
section
variable {P : Program} {ops : Array Oper} {md : Region.Mode} {C : World → Prop}
end
end Go.Proofs.YtmoiikpjegbokaaGreatDoor
namespace Go.Proofs.YtmoiikpjegbokaaGreatDoor
open Kept renaming refl → krf
open Go.Proofs.Tryz renaming prog → tpg
open Go.RowKit
theorem RowAt.at {S : Nat → Prop} {w : World} {b o : Nat} : ∀ {l : List Tr} {j : Nat}, RowAt S w b o l j → ∀ i (hi : i < l.length), ∃ cs, NodeIs S w l[i] cs ∧ ∀ t, t < 7 → w.cell? ⟨b, o + (j + i) * 7 + t, none⟩ = cs[t]?
 | [], j, h, i, hi => by simp at hi
 | x :: r, j, h, i, hi => by
  unfold RowAt at h;cases i with
  | zero =>
   obtain ⟨cs, h1, h2⟩ := h.1;exact ⟨cs, h1, fun t ht => h2 t ht⟩
  | succ i =>
   obtain ⟨cs, h1, h2⟩ := RowAt.at h.2 i (by simpa using hi);refine ⟨cs, h1, fun t ht => ?_⟩;rw [← h2 t ht, show j + (i + 1) = j + 1 + i by omega]
def SameIs (x : Tr) : Prop := ∀ (S S' : Nat → Prop) (y : Tr) (W : World) (cs ds : List Value), NodeIs S W x cs → NodeIs S' W y ds → Calls tpg 15 #[.agg cs.toArray, .agg ds.toArray] W fun r w' => r = .returned (.bool (smB x y)) ∧ Kept No W w'
theorem seven_cells {w : World} {b o : Nat} {k : Int} {t : ByteArray} {vt vn n : Int} {sv : Value} {a : Int} (h : ∀ i, i < 7 → w.cell? ⟨b, o + i, none⟩ = (ncs k t vt vn n sv a)[i]?) : w.cell? ⟨b, o, none⟩ = some (.int .i64 k) ∧ w.cell? ⟨b, o + 1, none⟩ = some (.string t) ∧ w.cell? ⟨b, o + 2, none⟩ = some (.int .i64 vt) ∧ w.cell? ⟨b, o + 3, none⟩ = some (.int .i64 vn) ∧ w.cell? ⟨b, o + 4, none⟩ = some (.int .i64 n) ∧ w.cell? ⟨b, o + 5, none⟩ = some sv ∧ w.cell? ⟨b, o + 6, none⟩ = some (.int .i64 a) :=
 ⟨h 0 (by omega), h 1 (by omega), h 2 (by omega), h 3 (by omega), h 4 (by omega), h 5 (by omega), h 6 (by omega)⟩
theorem eqf_row {w : World} {S S' : Nat → Prop} {b o cp b' o' cp' : Nat} {l m : List Tr} (hlm : l.length = m.length) (hn : l.length ≤ 20000) (hb : ¬ S b) (hb' : ¬ S' b') (h1 : RowAt S w b o l 0) (h2 : RowAt S' w b' o' m 0) (hE : ∀ x ∈ l, SameIs x) :
  Calls tpg 27 #[.slice (some ⟨b, o, none⟩) l.length cp, .slice (some ⟨b', o', none⟩) l.length cp', .func (.func 15) #[] #[]] w fun r w' => r = .returned (.bool (smL l m)) ∧ Kept No w w' := by
 have HE : Hid (∀ j (hj : j < l.length) (hj' : j < m.length), SameIs l[j]) := fun j hj _ => hE _ (List.getElem_mem hj)
 have H1 : Hid (RowAt S w b o l 0) := h1;have H2 : Hid (RowAt S' w b' o' m 0) := h2;obtain ⟨bb, HB⟩ := nm (smL l m);rw [HB.out];have HT : Hid ((∀ i (q1 : i < l.length) (q2 : i < m.length), smB l[i] m[i] = true) → bb = true) := fun h => by rw [← HB.out]; exact (smL_take hlm).2 h
 have HF : Hid (∀ i (q1 : i < l.length) (q2 : i < m.length), smB l[i] m[i] = false → bb = false) := fun i q1 q2 h => by
  cases hbb : bb with
  | false => rfl
  | true =>
   have := (smL_take hlm).1 (HB.out.trans hbb) i q1 q2;rw [h] at this; cases this
 obtain ⟨n, HN⟩ := nm (l.length);rw [HN.out] at hn ⊢;have hln : l.length = n := HN.out;have hmn : m.length = n := by omega
 have HL : Hid (l.length = n ∧ m.length = n) := ⟨hln, hmn⟩;clear h1 h2 hE hlm HB hln hmn HN;go_enter Tryz.func27, Tryz.ntmps27
 go_wp2_with fail
 go_loopw [17] (fun i wr => ∃ j : Nat, j ≤ n ∧ i = .int .i64 j ∧ Hid (∀ i (q0 : i < j) (q1 : i < l.length) (q2 : i < m.length), smB l[i] m[i] = true) ∧ Hid (Kept No w wr)) (fun i _ => n - (intOf i).toNat)
 case atStart => exact ⟨0, by omega, rfl, (fun i q => by omega), krf _ _⟩
 case round =>
  obtain ⟨j, hj, rfl, HJ, HK⟩ := hrel;by_cases hlt : j < n
  ·have k1 : (j : Int) < (n : Int) := by omega
   have j1 : j < l.length := by rw [HL.out.1]; exact hlt
   have j2 : j < m.length := by rw [HL.out.2]; exact hlt
   obtain ⟨cs, c1, c2⟩ := (RowAt.kept (HK.out.no (T := S)) b o hb l 0 H1.out).at j j1;obtain ⟨ds, d1, d2⟩ := (RowAt.kept (HK.out.no (T := S')) b' o' hb' m 0 H2.out).at j j2;have HS := HE.out j j1 j2;have HF1 : Hid (smB l[j] m[j] = false → bb = false) := HF.out j j1 j2
   have HJ1 : Hid (smB l[j] m[j] = true → ∀ i (q0 : i < j + 1) (q1 : i < l.length) (q2 : i < m.length), smB l[i] m[i] = true) := fun hs i q0 q1 q2 => by
    rcases Nat.lt_or_ge i j with h | h
    ·exact HJ.out i h q1 q2
    ·have e : i = j := by omega
     subst e; exact hs
   obtain ⟨x, HX⟩ := nm (l[j]);obtain ⟨y, HY⟩ := nm (m[j]);rw [HX.out] at c1 HS HF1 HJ1;rw [HY.out] at d1 HF1 HJ1;obtain ⟨xk, xt, xvt, xvn, xn, xl, xa⟩ := x;obtain ⟨yk, yt, yvt, yvn, yn, yl, ya⟩ := y;obtain ⟨xs, rfl, hx1⟩ := NodeIs.cs.1 c1;obtain ⟨ys, rfl, hy1⟩ := NodeIs.cs.1 d1;obtain ⟨xo, xln, xc, rfl⟩ := slice_of hx1;obtain ⟨yo, yln, yc, rfl⟩ := slice_of hy1;rw [Nat.zero_add] at c2 d2;obtain ⟨x0, x1, x2, x3, x4, x5, x6⟩ := seven_cells (fun t ht => by rw [← c2 t ht]);obtain ⟨y0, y1, y2, y3, y4, y5, y6⟩ := seven_cells (fun t ht => by rw [← d2 t ht]);have al : ∀ {qb qo : Nat} {v : Value} (ob : Obj), wr.cell? ⟨qb, qo, none⟩ = some v → (wr.alloc ob).cell? ⟨qb, qo, none⟩ = some v := fun ob h1 => kept_cell ((krf No wr).alloc ob) id h1
   have z0 := fun ob => al ob y0
   have z1 := fun ob => al ob y1
   have z2 := fun ob => al ob y2
   have z3 := fun ob => al ob y3
   have z4 := fun ob => al ob y4
   have z5 := fun ob => al ob y5
   have z6 := fun ob => al ob y6
   have HN : Hid (NodeIs S wr (.mk xk xt xvt xvn xn xl xa) (ncs xk xt xvt xvn xn (.slice xo xln xc) xa) ∧ NodeIs S' wr (.mk yk yt yvt yvn yn yl ya) (ncs yk yt yvt yvn yn (.slice yo yln yc) ya)) := ⟨c1, d1⟩;have HSm : Hid (SameIs (.mk xk xt xvt xvn xn xl xa)) := HS;clear al y0 y1 y2 y3 y4 y5 y6 c1 c2 d1 d2 hx1 hy1 HS;go_wp2_with fail
   cases hs : smB (.mk xk xt xvt xvn xn xl xa) (.mk yk yt yvt yvn yn yl ya) with
   | true =>
    refine Calls.mono (HSm.out S S' (.mk yk yt yvt yvn yn yl ya) _ (ncs xk xt xvt xvn xn (.slice xo xln xc) xa) (ncs yk yt yvt yvn yn (.slice yo yln yc) ya) (NodeIs.kept (((krf S wr).alloc _).alloc _) _ _ HN.out.1) (NodeIs.kept (((krf S' wr).alloc _).alloc _) _ _ HN.out.2)) ?_;rintro r W3 ⟨rfl, hk⟩;have HK3 : Hid (Kept No w W3) := (((HK.out.alloc _).alloc _).trans hk);have HJ2 : Hid _ := HJ1.out hs;rw [hs];clear hk hs HJ1 HF1 HN HSm z0 z1 z2 z3 z4 z5 z6 x0 x1 x2 x3 x4 x5 x6;go_wp2_with fail
    go_roundw
    case rel => exact ⟨j + 1, by omega, by go_num, HJ2.out, HK3.out⟩
    all_goals (simp only [intOf, Int.toNat_natCast]; omega)
   | false =>
    refine Calls.mono (HSm.out S S' (.mk yk yt yvt yvn yn yl ya) _ (ncs xk xt xvt xvn xn (.slice xo xln xc) xa) (ncs yk yt yvt yvn yn (.slice yo yln yc) ya) (NodeIs.kept (((krf S wr).alloc _).alloc _) _ _ HN.out.1) (NodeIs.kept (((krf S' wr).alloc _).alloc _) _ _ HN.out.2)) ?_;rintro r W3 ⟨rfl, hk⟩;have HK3 : Hid (Kept No w W3) := (((HK.out.alloc _).alloc _).trans hk);have HA : Hid (bb = false) := HF1.out hs;rw [hs];clear hk hs HJ1 HF1 HN HSm z0 z1 z2 z3 z4 z5 z6 x0 x1 x2 x3 x4 x5 x6;go_wp2_with fail
    go_ret
    exact ⟨by rw [HA.out]; rfl, HK3.out⟩
  ·have k1 : ¬ (j : Int) < (n : Int) := by omega
   have HA : Hid (bb = true) := HT.out (fun i q1 q2 => HJ.out i (by have := HL.out.1; omega) q1 q2);go_wp2_with fail
   go_ret
   exact ⟨by rw [HA.out]; rfl, HK.out⟩
theorem eqf_apart {w : World} {ao ao' : Option Addr} {n cp n' cp' : Nat} (h : n ≠ n') :
  Calls tpg 27 #[.slice ao n cp, .slice ao' n' cp', .func (.func 15) #[] #[]] w fun r w' => r = .returned (.bool false) ∧ Kept No w w' := by
 have q : ((n : Int) == (n' : Int)) = false := by
  have : ¬ (n : Int) = (n' : Int) := by omega
  simpa using this
 go_enter Tryz.func27, Tryz.ntmps27
 go_wp2_with fail
 go_ret
 exact ⟨rfl, krf _ _⟩
theorem eqf_nil {w : World} {ao ao' : Option Addr} {cp cp' : Nat} :
  Calls tpg 27 #[.slice ao 0 cp, .slice ao' 0 cp', .func (.func 15) #[] #[]] w fun r w' => r = .returned (.bool true) ∧ Kept No w w' := by
 go_enter Tryz.func27, Tryz.ntmps27
 go_wp2_with fail
 go_loopw [17] (fun i wr => i = .int .i64 0 ∧ Hid (Kept No w wr)) (fun i _ => 0)
 case atStart => exact ⟨rfl, krf _ _⟩
 case round =>
  obtain ⟨rfl, HK⟩ := hrel;go_wp2_with fail
  go_ret
  exact ⟨rfl, HK.out⟩
theorem EqF_any {w : World} {S S' : Nat → Prop} {l m : List Tr} {sv sv' : Value} (hn : l.length ≤ 20000) (h1 : ListIs S w l sv) (h2 : ListIs S' w m sv') (hE : ∀ x ∈ l, SameIs x) :
  Calls tpg 27 #[sv, sv', .func (.func 15) #[] #[]] w fun r w' => r = .returned (.bool (smL l m)) ∧ Kept No w w' := by
 by_cases hlm : l.length = m.length
 ·rcases h1 with ⟨rfl, rfl⟩ | ⟨b, o, cp, rfl, hb, _, h1⟩
  ·have : m = [] := List.length_eq_zero_iff.1 hlm.symm;subst this;rcases h2 with ⟨_, rfl⟩ | ⟨b', o', cp', rfl, _⟩
   ·exact eqf_nil
   ·exact eqf_nil
  ·rcases h2 with ⟨rfl, rfl⟩ | ⟨b', o', cp', rfl, hb', _, h2⟩
   ·have : l = [] := List.length_eq_zero_iff.1 hlm;subst this;exact eqf_nil
   ·have := eqf_row (cp := cp) (cp' := cp') hlm hn hb hb' h1 h2 hE;rw [← hlm];exact this
 ·have e : smL l m = false := by
   cases he : smL l m with
   | false => rfl
   | true => exact absurd (smL_len he) hlm
  rw [e];rcases h1 with ⟨rfl, rfl⟩ | ⟨b, o, cp, rfl, hb, _, h1⟩ <;> rcases h2 with ⟨rfl, rfl⟩ | ⟨b', o', cp', rfl, hb', _, h2⟩
  ·exact absurd rfl hlm
  ·exact eqf_apart hlm
  ·exact eqf_apart hlm
  ·exact eqf_apart hlm
theorem same_step (k : Int) (t : ByteArray) (vt vn c : Int) (l : List Tr) (a : Int) (hn : l.length ≤ 20000) (hE : ∀ x ∈ l, SameIs x) : SameIs (.mk k t vt vn c l a) := by
 intro S S' y w cs ds hx hy;obtain ⟨k', t', vt', vn', c', m, a'⟩ := y;obtain ⟨sv, rfl, hl⟩ := NodeIs.cs.1 hx;obtain ⟨sv', rfl, hm⟩ := NodeIs.cs.1 hy;have HC : Hid (∀ W, Kept No w W → Calls tpg 27 #[sv, sv', .func (.func 15) #[] #[]] W fun r w' => r = .returned (.bool (smL l m)) ∧ Kept No W w') := fun W hk => EqF_any hn (hl.kept hk.no) (hm.kept hk.no) hE
 obtain ⟨ao, ln, cp, rfl⟩ := slice_of hl;obtain ⟨ao', ln', cp', rfl⟩ := slice_of hm;obtain ⟨b, HB⟩ := nm (smB (.mk k t vt vn c l a) (.mk k' t' vt' vn' c' m a'))
 have HB2 : Hid (((k == k') && (t.toList == t'.toList) && (vt == vt' && vn == vn') && (c == c') && smL l m) = b) := by
  show _ = _;rw [← HB.out]; simp only [smB]
 rw [HB.out];obtain ⟨bl, HL⟩ := nm (smL l m);rw [HL.out] at HC HB2;clear HB hx hy hl hm hE hn HL;unfold ncs;go_enter Tryz.func15, Tryz.ntmps15
 go_wp2_with fail
 ·have e1 : k = k' := by assumption
  have e2 : t.toList = t'.toList := by assumption
  have e3 : vt = vt' := by assumption
  have e4 : vn = vn' := by assumption
  have e5 : c = c' := by assumption
  refine Calls.mono (HC.out _ (((krf No w).alloc _).alloc _)) ?_;rintro r W3 ⟨rfl, hk⟩;have HK3 : Hid (Kept No w W3) := (((krf No w).alloc _).alloc _).trans hk
  have HA : Hid (b = bl) := by
   show _ = _;rw [← HB2.out, e1, e2, e3, e4, e5]; simp
  clear hk HC HB2;go_wp2_with fail
  go_ret
  exact ⟨by rw [HA.out]; rfl, HK3.out⟩
 all_goals
  have HA : b = false := by
   rw [← HB2.out]; simp_all
  go_ret
  exact ⟨by rw [HA]; rfl, ((krf No w).alloc _).alloc _⟩
theorem Same_any {n : Nat} (hn : n ≤ 20000) : ∀ (s : Nat) (x : Tr), SizeOf.sizeOf x < s → Bd n x → SameIs x := by
 intro s;induction s with
 | zero => intro x hs; omega
 | succ s ih =>
  intro x hs hx;obtain ⟨k, t, vt, vn, c, l, a⟩ := x;unfold Bd at hx;refine same_step k t vt vn c l a (Nat.le_trans hx.1 hn) (fun y hy => ih y ?_ (Bds_iff.1 hx.2 y hy));have := List.sizeOf_lt_of_mem hy;simp only [Tr.mk.sizeOf_spec] at hs;omega
def SRw (w : World) (B : Nat) (v : Value) (l : List ByteArray) : Prop := w.ownsRow B 9 1 v l.length (l.map Value.string)
structure Pr (w : World) (c B : Nat) (v : Value) (l : List ByteArray) : Prop where
 box : w.heap[c]? = some (.cells #[v] 55 (0, 0))
 row : SRw w B v l
 lt : c < B
 le : B ≤ w.heap.size
def Out2 (c : Nat) (v : Value) (b : Nat) : Prop := b = c ∨ v.ownBlock = some b
structure Pass (c : Nat) (v : Value) (w : World) (v' : Value) (w' : World) : Prop where
 kept : Kept (Out2 c v) w w'
 own : v'.ownBlock = v.ownBlock ∨ ∀ k, v'.ownBlock = some k → w.heap.size ≤ k
theorem Pass.refl (c : Nat) (v : Value) (w : World) : Pass c v w v w := ⟨krf _ _, .inl rfl⟩
theorem Pass.no {c : Nat} {v : Value} {w w' : World} (h : Kept No w w') : Pass c v w v w' := ⟨h.no, .inl rfl⟩
theorem Pass.trans {c : Nat} {v v1 v2 : Value} {w w1 w2 : World} (h : Pass c v w v1 w1) (k : Pass c v1 w1 v2 w2) : Pass c v w v2 w2 := by
 refine ⟨h.kept.trans' k.kept (fun i hi => ?_), ?_⟩
 ·rcases hi with hi | hi
  ·exact .inl (.inl hi)
  ·rcases h.own with e | e
   ·exact .inl (.inr (by rw [← e]; exact hi))
   ·exact .inr (e i hi)
 ·rcases k.own with e | e
  ·rcases h.own with e2 | e2
   ·exact .inl (e.trans e2)
   ·exact .inr (fun i hi => e2 i (by rw [← e]; exact hi))
  ·exact .inr (fun i hi => Nat.le_trans h.kept.size (e i hi))
theorem Pass.node {c : Nat} {v v' : Value} {w w' : World} (h : Pass c v w v' w') {x : Tr} {cs : List Value} (hx : NodeIs (Out2 c v) w x cs) : NodeIs (Out2 c v') w' x cs := by
 have h1 := NodeIs.kept (h.kept.mono (fun b hb => .inl hb)) x cs (NodeIs.more x cs hx);refine NodeIs.mono (fun b hb => ?_) x cs h1;rcases hb with hb | hb
 ·exact .inl (.inl hb)
 ·rcases h.own with e | e
  ·exact .inl (.inr (by rw [← e]; exact hb))
  ·exact .inr (e b hb)
theorem ListIs.node {S : Nat → Prop} {w : World} {l : List Tr} {sv : Value} : ListIs S w l sv ↔ NodeIs S w (.mk 0 ⟨#[]⟩ 0 0 0 l 0) (ncs 0 ⟨#[]⟩ 0 0 0 sv 0) := by
 constructor
 ·exact fun h => NodeIs.cs.2 ⟨sv, rfl, h⟩
 ·intro h;obtain ⟨s, e, h⟩ := NodeIs.cs.1 h;simp [ncs] at e
  rw [e]; exact h
theorem Pass.list {c : Nat} {v v' : Value} {w w' : World} (h : Pass c v w v' w') {l : List Tr} {sv : Value} (hx : ListIs (Out2 c v) w l sv) : ListIs (Out2 c v') w' l sv := ListIs.node.2 (h.node (ListIs.node.1 hx))
theorem Pr.no {w w' : World} {c B : Nat} {v : Value} {l : List ByteArray} (h : Pr w c B v l) (hk : Kept No w w') : Pr w' c B v l := by
 refine ⟨hk.heap h.box id, ?_, h.lt, Nat.le_trans h.le hk.size⟩;obtain ⟨o1, o2 | ⟨g, cap, cur, o3, o4, o5, o6⟩⟩ := h.row
 ·exact ⟨o1, .inl o2⟩
 ·exact ⟨o1, .inr ⟨g, cap, cur, o3, o4, hk.heap o5 id, o6⟩⟩
theorem Pr.ne {w : World} {c B : Nat} {v : Value} {l : List ByteArray} (h : Pr w c B v l) : v.ownBlock ≠ some c := by
 intro e;have := h.row.lt c e;have := h.lt;omega
theorem Pr.slice {w : World} {c B : Nat} {v : Value} {l : List ByteArray} (h : Pr w c B v l) : ∃ ao n cap, v = .slice ao n cap := by
 obtain ⟨o1, ⟨o2, _⟩ | ⟨g, cap, cur, o3, _⟩⟩ := h.row
 ·exact ⟨_, _, _, o2⟩
 ·exact ⟨_, _, _, o3⟩
theorem info9 : (tpg.info? 9).map (fun i => (i.zero, i.size, i.bytes)) = some (some (.string ⟨#[]⟩), 1, 16) := by kernel_rfl
def puts (ts : List ByteArray) : List ByteArray := ts.filter (fun t => t.toList != [])
theorem SRw.slice {w : World} {B : Nat} {v : Value} {l : List ByteArray} (h : SRw w B v l) : ∃ ao n cap, v = .slice ao n cap := by
 obtain ⟨o1, ⟨o2, _⟩ | ⟨g, cap, cur, o3, _⟩⟩ := h
 ·exact ⟨_, _, _, o2⟩
 ·exact ⟨_, _, _, o3⟩
theorem SRw.set_apart {w : World} {B c : Nat} {v : Value} {l : List ByteArray} (h : SRw w B v l) (hc : c < B) {o : Nat} {u : Value} : SRw (w.setCell ⟨c, o, none⟩ u) B v l := by
 obtain ⟨o1, o2 | ⟨g, cap, cur, o3, o4, o5, o6⟩⟩ := h
 ·exact ⟨o1, .inl o2⟩
 ·exact ⟨o1, .inr ⟨g, cap, cur, o3, o4, set_other o5 _ _ (by omega), o6⟩⟩
theorem app_s {ops : Array Oper} {rest : List Oper} {o : Oper} {a : Act} {Q : Exit → Act → World → Prop} {w : World} (hgd : o.guard = none) (s x : Operand)
  (ho : o.op = .call { callee := .builtin .append, args := #[s, x], argTypes := #[53, 53] }) (base : Nat) (v : Value) (L : List ByteArray) (hs : a.eval s = v) (hrow : SRw w base v L)
  (N : Nat) (e : ByteArray) (hx : a.eval x = .slice (some ⟨N, 0, none⟩) 1 1) (hN : w.heap[N]? = some (.cells #[.string e] 9 (0, 0))) (hlen : L.length + 1 ≤ 2000000) (hbase : base ≤ w.heap.size)
  (h : ∀ v' w', Hid (SRw w' base v' (L ++ [e])) → Hid (w.grownBy w' v.ownBlock) → Hid (v'.ownBlock = v.ownBlock ∨ v'.ownBlock = some w.heap.size) → wpList tpg ops Q rest (a.put o.dst v') w') : wpList tpg ops Q (o :: rest) a w := by
 obtain ⟨i0, hi, hz0, hz1, hz2⟩ := info_parts info9
 have hn : ∀ j u, ([Value.string e])[j]? = some u → w.cell? ((⟨N, 0, none⟩ : Addr).add j) = some u := by
  intro j u hu;have hc := cell_of hN;rcases j with _ | j
  ·simp at hu; subst hu; simpa [Addr.add] using hc 0
  ·simp at hu
 refine wpList_plain hgd fun K hK => ?_
 obtain ⟨v', w', hr, h2, h3, _, h5⟩ := run_append_own_at (P := tpg) w base 53 o.type 9 i0 _ 1 16 Tryz.underlying53 hi hz0 hz1 hz2 rfl (by decide) v L.length (L.map Value.string) hrow ⟨N, 0, none⟩ 1 1 [Value.string e] rfl hn (by simp [Value.oneCell']) (by unfold maxLen; omega) (by omega) hbase;unfold Oper.wp execOp;simp only [ho, resolve, invoke, builtin, Sem.run_bind, Sem.run_pure, Result.andThen_ok, List.map_toArray, List.map_cons, List.map_nil, hs, hx, hr];refine hK _ _ (h v' w' ?_ h3 h5);show World.ownsRow _ _ _ _ _ _ _;rw [List.length_append, List.map_append]; exact h2
theorem put_any {w : World} {c B : Nat} {v : Value} {l : List ByteArray} (h : Pr w c B v l) {ts : List ByteArray} {g cap : Nat} (hg : w.heap[g]? = some (.cells (ts.map Value.string).toArray 9 (0, 0))) (hgo : ¬ Out2 c v g) (hn : ts.length ≤ 100) (hl : l.length + ts.length ≤ 1000000) :
  Calls tpg 85 #[.pointer (some ⟨c, 0, none⟩), .slice (some ⟨g, 0, none⟩) ts.length cap] w fun r w' => r = .returned (.tuple #[]) ∧ ∃ v', Pr w' c B v' (l ++ puts ts) ∧ Pass c v w v' w' := by
 obtain ⟨i0, hi, hz0, hz1, hz2⟩ := info_parts info9;have HI : Hid (tpg.info? 9 = some i0 ∧ _ ∧ _ ∧ _) := ⟨hi, hz0, hz1, hz2⟩;have HP : Hid (Pr w c B v l) := h;have HG : Hid (w.heap[g]? = some (.cells (ts.map Value.string).toArray 9 (0, 0)) ∧ ¬ Out2 c v g) := ⟨hg, hgo⟩;clear hi hz0 hz1 hz2 h hg hgo;obtain ⟨n, HN⟩ := nm (ts.length);have HN' : Hid (n = ts.length) := HN.out.symm;rw [HN.out] at hn hl ⊢;go_enter Tryz.func85, Tryz.ntmps85
 go_wp2_with fail
 go_loopw [8] (fun i wr => ∃ j : Nat, j ≤ n ∧ i = .int .i64 j ∧ Hid (∃ v', Pr wr c B v' (l ++ puts (ts.take j)) ∧ Pass c v w v' wr)) (fun i _ => n - (intOf i).toNat)
 case atStart => exact ⟨0, by omega, rfl, v, by simp [puts]; exact HP.out, Pass.refl _ _ _⟩
 case round =>
  obtain ⟨j, hj, rfl, HJ⟩ := hrel;by_cases hlt : j < n
  ·have k1 : (j : Int) < (n : Int) := by omega
   have jt : j < ts.length := by have := HN.out; omega
   obtain ⟨v1, hp1, hs1⟩ := HJ.out;have HgW : wr.heap[g]? = some (.cells (ts.map Value.string).toArray 9 (0, 0)) := hs1.kept.heap HG.out.1 HG.out.2;have x0 : wr.cell? ⟨g, j, none⟩ = some (.string ts[j]) := by rw [cell_of HgW]; simp [jt]
   obtain ⟨ao, ln, cp, rfl⟩ := hp1.slice;have b0 := cell_of hp1.box 0;have bf := frozen_of hp1.box 0;have HP1 : Hid (Pr wr c B (.slice ao ln cp) (l ++ puts (ts.take j)) ∧ Pass c v w (.slice ao ln cp) wr) := ⟨hp1, hs1⟩;obtain ⟨t, HT⟩ := nm (ts[j]);rw [HT.out] at x0;clear hp1 hs1 HgW HJ
   have e1 : puts (ts.take (j + 1)) = puts (ts.take j) ++ (if t.toList != [] then [t] else []) := by
    rw [List.take_add_one, List.getElem?_eq_getElem jt, HT.out];simp only [Option.toList, puts, List.filter_append, List.filter_cons, List.filter_nil]
   have hln : (l ++ puts (ts.take j)).length ≤ l.length + j := by
    rw [List.length_append];have : (puts (ts.take j)).length ≤ (ts.take j).length := List.length_filter_le _ _;simp only [List.length_take] at this;omega
   by_cases ht : t.toList = []
   ·have q1 : (t.toList == []) = true := by simpa using ht
    have q2 : (t.toList != []) = false := by simp [ht]
    have q3 : (t.toList = []) = True := by simp [ht]
    rw [q2, if_neg (by decide), List.append_nil] at e1;have HE : Hid _ := e1;clear ht e1 hln;go_wp2_with fail
    go_roundw
    case rel => exact ⟨j + 1, by omega, by go_num, _, by rw [HE.out]; exact HP1.out.1, HP1.out.2⟩
    case measure => simp [intOf]; omega
   ·have q1 : (t.toList == []) = false := by simpa using ht
    have q2 : (t.toList != []) = true := by simp [ht]
    have q3 : (t.toList = []) = False := by simp [ht]
    rw [q2, if_pos rfl] at e1
    have HE : Hid (l ++ puts (ts.take (j + 1)) = l ++ puts (ts.take j) ++ [t]) := by
     show _ = _;rw [e1, List.append_assoc]
    have HLn : Hid _ := hln;clear ht e1 hln
    go_wp2_with (first
     | (
       refine app_s rfl (.tmp 18) (.tmp 20) rfl B (.slice ao ln cp) (l ++ puts (ts.take j)) rfl (World.ownsRow.alloc HP1.out.1.row _) wr.heap.size t rfl (World.alloc_heap_new wr _) (by have := HLn.out; omega) (by have := HP1.out.1.le; simp; omega) ?_;intro v2 w2 h2 h3 h5;obtain ⟨ao2, n2, cp2, rfl⟩ := SRw.slice h2.out;have HK2 : Hid (Kept (fun b => (Value.slice ao ln cp).ownBlock = some b) wr w2) := Kept.grown ((krf _ wr).alloc _) h3.out (fun k e => .inl e);have hb2 := HK2.out.heap HP1.out.1.box HP1.out.1.ne;have b2 := cell_of hb2 0;have bf2 := frozen_of hb2 0;have HB2 : Hid _ := hb2;clear hb2))
    go_roundw
    case rel =>
     refine ⟨j + 1, by omega, by go_num, .slice ao2 n2 cp2, ?_, HP1.out.2.trans ⟨?_, ?_⟩⟩
     ·rw [HE.out];refine ⟨set_same (c := #[.slice ao ln cp]) HB2.out 0 _, ?_, HP1.out.1.lt, Nat.le_trans HP1.out.1.le (by have := HK2.out.size; simpa using this)⟩;exact h2.out.set_apart (by have := HP1.out.1.lt; omega)
     ·exact (HK2.out.mono (fun b hb => .inr hb)).set c 0 _ (.inl (.inl rfl))
     ·rcases h5.out with e | e
      ·exact .inl e
      ·refine .inr (fun k hk => ?_);rw [e] at hk;simp at hk;omega
    case measure => simp [intOf]; omega
  ·have k1 : ¬ (j : Int) < (n : Int) := by omega
   have ej : ts.take j = ts := List.take_of_length_le (by have := HN.out; omega);rw [ej] at HJ;go_wp2_with fail
   go_end0
   exact ⟨rfl, HJ.out⟩
theorem row_mk {S : Nat → Prop} {w : World} {b o : Nat} : ∀ (l : List Tr) (j : Nat), (∀ i (hi : i < l.length), ∃ cs, NodeIs S w l[i] cs ∧ ∀ t, t < 7 → w.cell? ⟨b, o + (j + i) * 7 + t, none⟩ = cs[t]?) → RowAt S w b o l j
 | [], j, h => by unfold RowAt; trivial
 | x :: r, j, h => by
  unfold RowAt;refine ⟨?_, row_mk r (j + 1) (fun i hi => ?_)⟩
  ·obtain ⟨cs, h1, h2⟩ := h 0 (by simp);exact ⟨cs, h1, fun t ht => h2 t ht⟩
  ·obtain ⟨cs, h1, h2⟩ := h (i + 1) (by simpa using hi);refine ⟨cs, h1, fun t ht => ?_⟩;rw [← h2 t ht, show j + 1 + i = j + (i + 1) by omega]
theorem row_drop {S : Nat → Prop} {w : World} {b o : Nat} {l : List Tr} (h : RowAt S w b o l 0) (k : Nat) : RowAt S w b (o + k * 7) (l.drop k) 0 := by
 refine row_mk _ _ (fun i hi => ?_);rw [List.length_drop] at hi;obtain ⟨cs, h1, h2⟩ := h.at (k + i) (by omega);refine ⟨cs, by rw [List.getElem_drop]; exact h1, fun t ht => ?_⟩;rw [← h2 t ht, show o + k * 7 + (0 + i) * 7 + t = o + (0 + (k + i)) * 7 + t by omega]
theorem row_take {S : Nat → Prop} {w : World} {b o : Nat} {l : List Tr} (h : RowAt S w b o l 0) (k : Nat) : RowAt S w b o (l.take k) 0 := by
 refine row_mk _ _ (fun i hi => ?_);rw [List.length_take] at hi;obtain ⟨cs, h1, h2⟩ := h.at i (by omega);exact ⟨cs, by rw [List.getElem_take]; exact h1, h2⟩
def Low (c : Nat) (w W : World) : Prop := Below c w W
theorem Low.trans {c : Nat} {w w1 w2 : World} (h : Low c w w1) (k : Low c w1 w2) : Low c w w2 := Below.trans h k
theorem Pr.own {w : World} {c B : Nat} {v : Value} {l : List ByteArray} (h : Pr w c B v l) : ∀ k, v.ownBlock = some k → B ≤ k := fun k e => (h.row.lt k e).1
theorem Pass.low {c B : Nat} {v v' : Value} {w w' : World} {l : List ByteArray} (h : Pass c v w v' w') (hp : Pr w c B v l) : Low c w w' := by
 refine ⟨h.kept.os, h.kept.tape, h.kept.output, h.kept.size, fun k hk => ?_⟩;have hlt : k < w.heap.size := by have := hp.lt; have := hp.le; omega
 have hn : ¬ Out2 c v k := by
  rintro (e | e)
  ·omega
  ·have := hp.own k e;have := hp.lt;omega
 rw [Array.getElem?_eq_getElem hlt];exact h.kept.heap (Array.getElem?_eq_getElem hlt) hn
def Put (c B : Nat) (v : Value) (l ts : List ByteArray) (w : World) (r : Ending) (w' : World) : Prop := r = .returned (.tuple #[]) ∧ ∃ v', Pr w' c B v' (l ++ ts) ∧ Pass c v w v' w'
def NumOK (nt : Int → Int → ByteArray) (P : Int → Int → Prop) (c : Nat) (w : World) : Prop := ∀ W, Low c w W → ∀ vt vn, P vt vn → Calls tpg 86 #[.agg #[.int .i64 vt, .int .i64 vn]] W fun r w' => r = .returned (.string (nt vt vn)) ∧ Kept No W w'
theorem NumOK.low {nt : Int → Int → ByteArray} {P : Int → Int → Prop} {c : Nat} {w w' : World} (h : NumOK nt P c w) (hl : Low c w w') : NumOK nt P c w' := fun W hW => h W (hl.trans hW)
def TreeIs (nt : Int → Int → ByteArray) (qt : ByteArray → ByteArray) (P : Int → Int → Prop) (x : Tr) : Prop := ∀ (w : World) (c B : Nat) (v : Value) (l : List ByteArray) (cs : List Value), Pr w c B v l → NumOK nt P c w → NodeIs (Out2 c v) w x cs → l.length + (prT nt qt x).length ≤ 1000000 → Calls tpg 24 #[.pointer (some ⟨c, 0, none⟩), .agg cs.toArray] w (Put c B v l (prT nt qt x) w)
theorem put_new {w : World} {c B : Nat} {v : Value} {l : List ByteArray} (h : Pr w c B v l) (ts : List ByteArray) (hn : ts.length ≤ 100) (hl : l.length + ts.length ≤ 1000000) (hne : ∀ t ∈ ts, t.toList ≠ []) :
  Calls tpg 85 #[.pointer (some ⟨c, 0, none⟩), .slice (some ⟨w.heap.size, 0, none⟩) ts.length ts.length] (w.alloc (.cells (ts.map Value.string).toArray 9)) (Put c B v l ts w) := by
 have hk : Kept No w (w.alloc (.cells (ts.map Value.string).toArray 9)) := (krf No w).alloc _
 have hgo : ¬ Out2 c v w.heap.size := by
  rintro (e | e)
  ·have := h.lt; have := h.le; omega
  ·have := (h.row.lt _ e).2; omega
 refine Calls.mono (put_any (h.no hk) (World.alloc_heap_new w _) hgo hn hl) ?_;rintro r w' ⟨rfl, v', h1, h2⟩;refine ⟨rfl, v', ?_, (Pass.no hk).trans h2⟩
 have : puts ts = ts := by
  unfold puts;rw [List.filter_eq_self];intro t ht;have := hne t ht;simpa using this
 rw [this] at h1;exact h1
theorem comma_snoc (ps : List (List ByteArray)) (x : List ByteArray) : commaP (ps ++ [x]) = if ps = [] then x else commaP ps ++ (⟨#[44]⟩ :: x) := by
 cases ps with
 | nil => simp [commaP]
 | cons y r => simp [commaP]
theorem comma_le (a b : List (List ByteArray)) : (commaP a).length ≤ (commaP (a ++ b)).length := by
 cases a with
 | nil => simp [commaP]
 | cons y r => simp only [commaP, List.cons_append, List.length_append, List.map_append, List.flatten_append]; omega
theorem Out2.fresh {w : World} {c B : Nat} {v : Value} {l : List ByteArray} (h : Pr w c B v l) {k : Nat} (hk : w.heap.size ≤ k) : ¬ Out2 c v k := by
 rintro (e | e)
 ·have := h.lt; have := h.le; omega
 ·have := (h.row.lt _ e).2; omega
theorem list_row {nt : Int → Int → ByteArray} {qt : ByteArray → ByteArray} {P : Int → Int → Prop} {xs : List Tr} (hx : ∀ x ∈ xs, TreeIs nt qt P x) {w : World} {c B : Nat} {v : Value} {l : List ByteArray} {b o cp : Nat} (h : Pr w c B v l) (hN : NumOK nt P c w) (hb : ¬ Out2 c v b) (hbl : b < w.heap.size ∧ xs.length ≤ cp) (hL : RowAt (Out2 c v) w b o xs 0) (hn : xs.length ≤ 100000) (ht : l.length + (commaP (xs.map (prT nt qt))).length ≤ 1000000) :
  Calls tpg 92 #[.pointer (some ⟨c, 0, none⟩), .slice (some ⟨b, o, none⟩) xs.length cp] w (Put c B v l (commaP (xs.map (prT nt qt))) w) := by
 have HX : Hid (∀ j (hj : j < xs.length), TreeIs nt qt P xs[j]) := fun j hj => hx _ (List.getElem_mem hj)
 have H0 : Hid (Pr w c B v l ∧ NumOK nt P c w ∧ ListIs (Out2 c v) w xs (.slice (some ⟨b, o, none⟩) xs.length cp)) := ⟨h, hN, .inr ⟨b, o, cp, rfl, hb, hbl, hL⟩⟩;obtain ⟨n, HNn⟩ := nm (xs.length);obtain ⟨ps, HPs⟩ := nm (xs.map (prT nt qt))
 have HPl : Hid (ps.length = n) := by
  show _ = _;rw [← HPs.out, ← HNn.out, List.length_map]
 have HPj : Hid (∀ j (hj : j < xs.length) (hj' : j < ps.length), prT nt qt xs[j] = ps[j]) := fun j hj hj' => by
  have := HPs.out;subst this;simp
 rw [HPs.out] at ht ⊢;rw [HNn.out] at hn ⊢;have HT : Hid _ := ht;clear hx h hN hb hbl hL HPs ht;go_enter Tryz.func92, Tryz.ntmps92
 go_wp2_with fail
 go_loopw [8] (fun i wr => ∃ j : Nat, j ≤ n ∧ i = .int .i64 j ∧ Hid (∃ v', Pr wr c B v' (l ++ commaP (ps.take j)) ∧ Pass c v w v' wr)) (fun i _ => n - (intOf i).toNat)
 case atStart => exact ⟨0, by omega, rfl, v, by simp [commaP]; exact H0.out.1, Pass.refl _ _ _⟩
 case round =>
  obtain ⟨j, hj, rfl, HJ⟩ := hrel;by_cases hlt : j < n
  ·have k1 : (j : Int) < (n : Int) := by omega
   have jx : j < xs.length := by have := HNn.out; omega
   have jp : j < ps.length := by have := HPl.out; omega
   obtain ⟨v1, hp1, hs1⟩ := HJ.out;have hl1 := hs1.list H0.out.2.2;have hN1 : NumOK nt P c wr := H0.out.2.1.low (hs1.low H0.out.1);rcases hl1 with ⟨e1, _⟩ | ⟨b2, o2, cp2, e1, hb2, hbl2, hr2⟩
   ·rw [e1] at jx; simp at jx
   simp only [Value.slice.injEq, Option.some.injEq, Addr.mk.injEq, and_true] at e1;obtain ⟨⟨rfl, rfl⟩, _, rfl⟩ := e1;obtain ⟨cs, c1, c2⟩ := hr2.at j jx;have HTr := HX.out j jx;have HPe := HPj.out j jx jp;obtain ⟨x, HXx⟩ := nm (xs[j]);rw [HXx.out] at c1 HTr HPe;obtain ⟨xk, xt, xvt, xvn, xn, xl, xa⟩ := x;obtain ⟨xs', rfl, hx1⟩ := NodeIs.cs.1 c1;obtain ⟨xo, xln, xc, rfl⟩ := slice_of hx1;rw [Nat.zero_add] at c2;obtain ⟨x0, x1, x2, x3, x4, x5, x6⟩ := seven_cells (fun t ht => by rw [← c2 t ht]);obtain ⟨W1, HW1⟩ := nm (wr.alloc (nb (ncs xk xt xvt xvn xn (.slice xo xln xc) xa)));have hk1 : Kept No wr W1 := by rw [← HW1.out]; exact (krf No wr).alloc _
   have hb1 : W1.heap[wr.heap.size]? = some (nb (ncs xk xt xvt xvn xn (.slice xo xln xc) xa)) := by rw [← HW1.out]; exact World.alloc_heap_new wr _
   have hp1' := hp1.no hk1;have hs1' : Pass c v w v1 W1 := hs1.trans (Pass.no hk1);have hN1' : NumOK nt P c W1 := H0.out.2.1.low (hs1'.low H0.out.1);have c1' : NodeIs (Out2 c v1) W1 (.mk xk xt xvt xvn xn xl xa) (ncs xk xt xvt xvn xn (.slice xo xln xc) xa) := NodeIs.kept hk1.no _ _ c1;have hfr : ¬ Out2 c v1 wr.heap.size := Out2.fresh hp1 (Nat.le_refl _);have HS : Hid (Pr W1 c B v1 (l ++ commaP (ps.take j)) ∧ Pass c v w v1 W1 ∧ NumOK nt P c W1 ∧ NodeIs (Out2 c v1) W1 (.mk xk xt xvt xvn xn xl xa) (ncs xk xt xvt xvn xn (.slice xo xln xc) xa) ∧ W1.heap[wr.heap.size]? = some (nb (ncs xk xt xvt xvn xn (.slice xo xln xc) xa)) ∧ ¬ Out2 c v1 wr.heap.size) := ⟨hp1', hs1', hN1', c1', hb1, hfr⟩;have HTr' : Hid _ := HTr
   have e1 : commaP (ps.take (j + 1)) = if j = 0 then ps[j] else commaP (ps.take j) ++ (⟨#[44]⟩ :: ps[j]) := by
    rw [List.take_add_one, List.getElem?_eq_getElem jp];simp only [Option.toList];rw [comma_snoc];by_cases hj0 : j = 0
    ·simp [hj0]
    ·have : ps.take j ≠ [] := by
      intro e;have := congrArg List.length e;simp only [List.length_take, List.length_nil] at this;omega
     rw [if_neg this, if_neg hj0]
   have e2 : (commaP (ps.take (j + 1))).length ≤ (commaP ps).length := by
    have := comma_le (ps.take (j + 1)) (ps.drop (j + 1))
    rwa [List.take_append_drop] at this
   rw [← HPe] at e1;have HE : Hid (commaP (ps.take (j + 1)) = if j = 0 then prT nt qt (.mk xk xt xvt xvn xn xl xa) else commaP (ps.take j) ++ (⟨#[44]⟩ :: prT nt qt (.mk xk xt xvt xvn xn xl xa))) := e1;have HE2 : Hid _ := e2;unfold nb ncs at HW1;clear HJ hp1 hs1 hN1 hr2 hb2 hbl2 c1 c2 HTr HPe hx1 hk1 hb1 hp1' hs1' hN1' c1' hfr e1 e2;by_cases hj0 : j = 0
   ·have k2 : ¬ (0 : Int) < (j : Int) := by omega
    have HJ0 : Hid (commaP (ps.take j) = []) := by
     show _ = _;rw [hj0]; simp [commaP]
    rw [if_pos hj0] at HE;obtain ⟨r0, r1, r2, r3, r4, r5, r6⟩ := nb_cells HS.out.2.2.2.2.1;clear hj0;go_wp2_with (first | rw [HW1.out])
    refine Calls.mono (HTr'.out W1 c B v1 _ (ncs xk xt xvt xvn xn (.slice xo xln xc) xa) HS.out.1 HS.out.2.2.1 HS.out.2.2.2.1 (by rw [HJ0.out, List.append_nil]; have := HE2.out; rw [HE.out] at this; have := HT.out; omega)) ?_;rintro r W2 ⟨rfl, v2, hp2, hs2⟩
    have HF : Hid (Pr W2 c B v2 (l ++ commaP (ps.take (j + 1))) ∧ Pass c v w v2 W2) := by
     refine ⟨?_, HS.out.2.1.trans hs2⟩;rw [HE.out];rw [HJ0.out, List.append_nil] at hp2;exact hp2
    clear hp2 hs2 HS HTr' HW1 HE HE2 HJ0 r0 r1 r2 r3 r4 r5 r6 x0 x1 x2 x3 x4 x5 x6;go_wp2_with fail
    go_roundw
    case rel => exact ⟨j + 1, by omega, by go_num, v2, HF.out⟩
    case measure => simp [intOf]; omega
   ·have k2 : (0 : Int) < (j : Int) := by omega
    rw [if_neg hj0] at HE;go_wp2_with (first | rw [HW1.out])
    have hbd : (l ++ commaP (ps.take j)).length + (1 + (prT nt qt (.mk xk xt xvt xvn xn xl xa)).length) ≤ 1000000 := by
     have h1 := HE2.out;rw [HE.out] at h1;have h2 := HT.out;simp only [List.length_append, List.length_cons] at h1 ⊢;omega
    refine Calls.mono (put_new HS.out.1 [⟨#[44]⟩] (by simp) (by simp only [List.length_cons, List.length_nil]; omega) (by simp)) ?_;rintro r W2 ⟨rfl, v2, hp2, hs2⟩;have hb2 : W2.heap[wr.heap.size]? = some (nb (ncs xk xt xvt xvn xn (.slice xo xln xc) xa)) := hs2.kept.heap HS.out.2.2.2.2.1 HS.out.2.2.2.2.2;have hN2 : NumOK nt P c W2 := HS.out.2.2.1.low (hs2.low HS.out.1);have HTc : Hid _ := HTr'.out W2 c B v2 _ (ncs xk xt xvt xvn xn (.slice xo xln xc) xa) hp2 hN2 (hs2.node HS.out.2.2.2.1) (by simp only [List.length_append, List.length_cons, List.length_nil] at hbd ⊢; omega);obtain ⟨r0, r1, r2, r3, r4, r5, r6⟩ := nb_cells hb2;have HS2 : Hid (Pass c v w v2 W2) := HS.out.2.1.trans hs2;clear hp2 hs2 hb2 hN2 HS HTr' HW1 HE2 x0 x1 x2 x3 x4 x5 x6 hbd hj0;go_wp2_with fail
    refine Calls.mono HTc.out ?_;rintro r W3 ⟨rfl, v3, hp3, hs3⟩
    have HF : Hid (Pr W3 c B v3 (l ++ commaP (ps.take (j + 1))) ∧ Pass c v w v3 W3) := by
     refine ⟨?_, HS2.out.trans hs3⟩;rw [HE.out];simpa only [List.append_assoc, List.cons_append, List.nil_append] using hp3
    clear hp3 hs3 HTc HS2 HE r0 r1 r2 r3 r4 r5 r6;go_wp2_with fail
    go_roundw
    case rel => exact ⟨j + 1, by omega, by go_num, v3, HF.out⟩
    case measure => simp [intOf]; omega
  ·have k1 : ¬ (j : Int) < (n : Int) := by omega
   have ej : ps.take j = ps := List.take_of_length_le (by have := HPl.out; omega);rw [ej] at HJ;go_wp2_with fail
   go_end0
   exact ⟨rfl, HJ.out⟩
theorem list_nil {w : World} {c B : Nat} {v : Value} {l : List ByteArray} {ao : Option Addr} {cp : Nat} (h : Pr w c B v l) : Calls tpg 92 #[.pointer (some ⟨c, 0, none⟩), .slice ao 0 cp] w (Put c B v l [] w) := by
 have HP : Hid _ := h;clear h;go_enter Tryz.func92, Tryz.ntmps92
 go_wp2_with fail
 go_loopw [8] (fun i wr => i = .int .i64 0 ∧ Hid (wr = w)) (fun i _ => 0)
 case atStart => exact ⟨rfl, show _ = _ from rfl⟩
 case round =>
  obtain ⟨rfl, HK⟩ := hrel;go_wp2_with fail
  go_end0
  have := HK.out;subst this;exact ⟨rfl, v, by rw [List.append_nil]; exact HP.out, Pass.refl _ _ _⟩
theorem list_pr {nt : Int → Int → ByteArray} {qt : ByteArray → ByteArray} {P : Int → Int → Prop} {xs : List Tr} (hx : ∀ x ∈ xs, TreeIs nt qt P x) {w : World} {c B : Nat} {v : Value} {l : List ByteArray} {sv : Value} (h : Pr w c B v l) (hN : NumOK nt P c w) (hL : ListIs (Out2 c v) w xs sv) (hn : xs.length ≤ 100000) (ht : l.length + (commaP (xs.map (prT nt qt))).length ≤ 1000000) :
  Calls tpg 92 #[.pointer (some ⟨c, 0, none⟩), sv] w (Put c B v l (commaP (xs.map (prT nt qt))) w) := by
 rcases hL with ⟨rfl, rfl⟩ | ⟨b, o, cp, rfl, hb, hbl, hr⟩
 ·exact list_nil h
 ·exact list_row hx h hN hb hbl hr hn ht
variable {nt : Int → Int → ByteArray} {qt : ByteArray → ByteArray} {P : Int → Int → Prop}
end Go.Proofs.YtmoiikpjegbokaaGreatDoor
