import Derived.Test.YtmoiikpjegbokaaGreatDoorUL
import Derived.Test.YtmoiikpjegbokaaGreatDoorUE
set_option linter.unusedSimpArgs false
set_option linter.unusedVariables false
set_option maxRecDepth 20000
set_option maxHeartbeats 4000000
/- The printer, kind by kind: leaves, and kinds with a fixed number of parts. -/
namespace Go.Proofs.YtmoiikpjegbokaaGreatDoor
open List renaming length_append → lla
open List renaming length_cons → llc
open List renaming length_nil → lln
open Calls renaming mono → cmo
open Go.ByteArray renaming toList_eq → btl
open List renaming append_assoc → laa
open List renaming cons_append → lca
open List renaming nil_append → lna
open List renaming mem_singleton → lms
open NodeIs renaming cs → nds
open Go.RowKit
variable {nt : Int → Int → ByteArray} {qt : ByteArray → ByteArray} {P : Int → Int → Prop}
theorem expr_1 (xl : List Tr) (t : ByteArray) (vt vn n xa : Int) : PartIs 40 nt qt P (.mk 1 t vt vn n xl xa) := by
  intro w c B v l cs h hN hX ht;have e1 : prT nt qt (.mk 1 t vt vn n xl xa) = [⟨#[110, 105, 108]⟩] := by simp [prT, prN]
  rw [e1] at ht ⊢;simp only [llc, lln] at ht;obtain ⟨sv, rfl, hl⟩ := nds.1 hX;obtain ⟨ao, ln, cp, rfl⟩ := slice_of hl;have hS := Stt.mk0 h hN hX;obtain ⟨W0, HW0⟩ := nm (w.alloc (nb (ncs 1 t vt vn n (.slice ao ln cp) xa)));rw [HW0.out] at hS;have s0 : W0.heap.size = w.heap.size + 1 := by rw [← HW0.out]; simp
  have HS : Hid _ := hS;have HT : Hid (l.length + 1 ≤ 1000000 ∧ (⟨#[110, 105, 108]⟩ : ByteArray).toList ≠ []) := ⟨by omega, (by rw [btl]; decide)⟩;unfold nb ncs at HW0;clear h hN hX hl hS ht e1;unfold ncs;go_enter Tryz.func40, Tryz.ntmps40
  go_wp2_with fail
  rw [HW0.out]
  try rw [← s0]
  refine cmo (put_new HS.out.pr [⟨#[110, 105, 108]⟩] (by simp) (by have := HT.out.1; simp only [llc, lln]; omega) (by intro t ht; rw [lms.1 ht]; exact HT.out.2)) ?_;rintro r W9 ⟨rfl, v9, hp9, hs9⟩;have HSL := HS;clear HS HW0;have HF : Hid (Pr W9 c B v9 (l ++ ([⟨#[110, 105, 108]⟩])) ∧ Pass c v w v9 W9) := ⟨by simpa only [laa, lca, lna] using hp9, HSL.out.pass.trans hs9⟩;clear hp9 hs9 HSL;go_wp2_with fail
  exact bodyPost_end (results_none Tryz.results40 _ _ _) rfl ⟨rfl, v9, HF.out⟩
theorem expr_2 (xl : List Tr) (t : ByteArray) (vt vn n xa : Int) : PartIs 40 nt qt P (.mk 2 t vt vn n xl xa) := by
  intro w c B v l cs h hN hX ht;have e1 : prT nt qt (.mk 2 t vt vn n xl xa) = [⟨#[116, 114, 117, 101]⟩] := by simp [prT, prN]
  rw [e1] at ht ⊢;simp only [llc, lln] at ht;obtain ⟨sv, rfl, hl⟩ := nds.1 hX;obtain ⟨ao, ln, cp, rfl⟩ := slice_of hl;have hS := Stt.mk0 h hN hX;obtain ⟨W0, HW0⟩ := nm (w.alloc (nb (ncs 2 t vt vn n (.slice ao ln cp) xa)));rw [HW0.out] at hS;have s0 : W0.heap.size = w.heap.size + 1 := by rw [← HW0.out]; simp
  have HS : Hid _ := hS;have HT : Hid (l.length + 1 ≤ 1000000 ∧ (⟨#[116, 114, 117, 101]⟩ : ByteArray).toList ≠ []) := ⟨by omega, (by rw [btl]; decide)⟩;unfold nb ncs at HW0;clear h hN hX hl hS ht e1;unfold ncs;go_enter Tryz.func40, Tryz.ntmps40
  go_wp2_with fail
  rw [HW0.out]
  try rw [← s0]
  refine cmo (put_new HS.out.pr [⟨#[116, 114, 117, 101]⟩] (by simp) (by have := HT.out.1; simp only [llc, lln]; omega) (by intro t ht; rw [lms.1 ht]; exact HT.out.2)) ?_;rintro r W9 ⟨rfl, v9, hp9, hs9⟩;have HSL := HS;clear HS HW0;have HF : Hid (Pr W9 c B v9 (l ++ ([⟨#[116, 114, 117, 101]⟩])) ∧ Pass c v w v9 W9) := ⟨by simpa only [laa, lca, lna] using hp9, HSL.out.pass.trans hs9⟩;clear hp9 hs9 HSL;go_wp2_with fail
  exact bodyPost_end (results_none Tryz.results40 _ _ _) rfl ⟨rfl, v9, HF.out⟩
theorem expr_3 (xl : List Tr) (t : ByteArray) (vt vn n xa : Int) : PartIs 40 nt qt P (.mk 3 t vt vn n xl xa) := by
  intro w c B v l cs h hN hX ht;have e1 : prT nt qt (.mk 3 t vt vn n xl xa) = [⟨#[102, 97, 108, 115, 101]⟩] := by simp [prT, prN]
  rw [e1] at ht ⊢;simp only [llc, lln] at ht;obtain ⟨sv, rfl, hl⟩ := nds.1 hX;obtain ⟨ao, ln, cp, rfl⟩ := slice_of hl;have hS := Stt.mk0 h hN hX;obtain ⟨W0, HW0⟩ := nm (w.alloc (nb (ncs 3 t vt vn n (.slice ao ln cp) xa)));rw [HW0.out] at hS;have s0 : W0.heap.size = w.heap.size + 1 := by rw [← HW0.out]; simp
  have HS : Hid _ := hS;have HT : Hid (l.length + 1 ≤ 1000000 ∧ (⟨#[102, 97, 108, 115, 101]⟩ : ByteArray).toList ≠ []) := ⟨by omega, (by rw [btl]; decide)⟩;unfold nb ncs at HW0;clear h hN hX hl hS ht e1;unfold ncs;go_enter Tryz.func40, Tryz.ntmps40
  go_wp2_with fail
  rw [HW0.out]
  try rw [← s0]
  refine cmo (put_new HS.out.pr [⟨#[102, 97, 108, 115, 101]⟩] (by simp) (by have := HT.out.1; simp only [llc, lln]; omega) (by intro t ht; rw [lms.1 ht]; exact HT.out.2)) ?_;rintro r W9 ⟨rfl, v9, hp9, hs9⟩;have HSL := HS;clear HS HW0;have HF : Hid (Pr W9 c B v9 (l ++ ([⟨#[102, 97, 108, 115, 101]⟩])) ∧ Pass c v w v9 W9) := ⟨by simpa only [laa, lca, lna] using hp9, HSL.out.pass.trans hs9⟩;clear hp9 hs9 HSL;go_wp2_with fail
  exact bodyPost_end (results_none Tryz.results40 _ _ _) rfl ⟨rfl, v9, HF.out⟩
theorem stmt_28 (xl : List Tr) (t : ByteArray) (vt vn n xa : Int) : PartIs 41 nt qt P (.mk 28 t vt vn n xl xa) := by
  intro w c B v l cs h hN hX ht;have e1 : prT nt qt (.mk 28 t vt vn n xl xa) = [⟨#[98, 114, 101, 97, 107]⟩] := by simp [prT, prN]
  rw [e1] at ht ⊢;simp only [llc, lln] at ht;obtain ⟨sv, rfl, hl⟩ := nds.1 hX;obtain ⟨ao, ln, cp, rfl⟩ := slice_of hl;have hS := Stt.mk0 h hN hX;obtain ⟨W0, HW0⟩ := nm (w.alloc (nb (ncs 28 t vt vn n (.slice ao ln cp) xa)));rw [HW0.out] at hS;have s0 : W0.heap.size = w.heap.size + 1 := by rw [← HW0.out]; simp
  have HS : Hid _ := hS;have HT : Hid (l.length + 1 ≤ 1000000 ∧ (⟨#[98, 114, 101, 97, 107]⟩ : ByteArray).toList ≠ []) := ⟨by omega, (by rw [btl]; decide)⟩;unfold nb ncs at HW0;clear h hN hX hl hS ht e1;unfold ncs;go_enter Tryz.func41, Tryz.ntmps41
  go_wp2_with fail
  rw [HW0.out]
  try rw [← s0]
  refine cmo (put_new HS.out.pr [⟨#[98, 114, 101, 97, 107]⟩] (by simp) (by have := HT.out.1; simp only [llc, lln]; omega) (by intro t ht; rw [lms.1 ht]; exact HT.out.2)) ?_;rintro r W9 ⟨rfl, v9, hp9, hs9⟩;have HSL := HS;clear HS HW0;have HF : Hid (Pr W9 c B v9 (l ++ ([⟨#[98, 114, 101, 97, 107]⟩])) ∧ Pass c v w v9 W9) := ⟨by simpa only [laa, lca, lna] using hp9, HSL.out.pass.trans hs9⟩;clear hp9 hs9 HSL;go_wp2_with fail
  exact bodyPost_end (results_none Tryz.results41 _ _ _) rfl ⟨rfl, v9, HF.out⟩
theorem expr_5 (xl : List Tr) (t : ByteArray) (vt vn n xa : Int) (hne : (qt t).toList ≠ []) (hq : ∀ W, Calls Tryz.prog 87 #[.string t] W fun r w' => r = .returned (.string (qt t)) ∧ Kept No W w') : PartIs 40 nt qt P (.mk 5 t vt vn n xl xa) := by
  intro w c B v l cs h hN hX ht;have e1 : prT nt qt (.mk 5 t vt vn n xl xa) = [qt t] := by simp [prT, prN]
  rw [e1] at ht ⊢;simp only [llc, lln] at ht;obtain ⟨sv, rfl, hl⟩ := nds.1 hX;obtain ⟨ao, ln, cp, rfl⟩ := slice_of hl;have hS := Stt.mk0 h hN hX;obtain ⟨W0, HW0⟩ := nm (w.alloc (nb (ncs 5 t vt vn n (.slice ao ln cp) xa)));rw [HW0.out] at hS;have s0 : W0.heap.size = w.heap.size + 1 := by rw [← HW0.out]; simp
  have HS : Hid _ := hS;have HT : Hid (l.length + 1 ≤ 1000000 ∧ (qt t : ByteArray).toList ≠ []) := ⟨by omega, hne⟩;have HQ : Hid _ := hq W0;clear hq hne;unfold nb ncs at HW0;clear h hN hX hl hS ht e1;unfold ncs;go_enter Tryz.func40, Tryz.ntmps40
  go_wp2_with fail
  rw [HW0.out]
  try rw [← s0]
  refine cmo HQ.out ?_;rintro r W1 ⟨rfl, hk1⟩;have HS' : Hid _ := HS.out.no hk1;clear HS;have HS := HS';clear hk1 HQ HS';go_wp2_with fail
  refine cmo (put_new HS.out.pr [qt t] (by simp) (by have := HT.out.1; simp only [llc, lln]; omega) (by intro t ht; rw [lms.1 ht]; exact HT.out.2)) ?_;rintro r W9 ⟨rfl, v9, hp9, hs9⟩;have HSL := HS;clear HS HW0;have HF : Hid (Pr W9 c B v9 (l ++ ([qt t])) ∧ Pass c v w v9 W9) := ⟨by simpa only [laa, lca, lna] using hp9, HSL.out.pass.trans hs9⟩;clear hp9 hs9 HSL;go_wp2_with fail
  exact bodyPost_end (results_none Tryz.results40 _ _ _) rfl ⟨rfl, v9, HF.out⟩
theorem expr_9 {x : Tr} (hx : TreeIs nt qt P x) (t : ByteArray) (hne : Hid (t.toList ≠ [])) (vt vn n xa : Int) : PartIs 40 nt qt P (.mk 9 t vt vn n [x] xa) := by
  intro w c B v l cs h hN hX ht;have e1 : prT nt qt (.mk 9 t vt vn n [x] xa) = [⟨#[40]⟩, t] ++ prT nt qt x ++ [⟨#[41]⟩] := by simp [prT, prTs, prN]
  rw [e1] at ht ⊢;obtain ⟨sv, rfl, hl⟩ := nds.1 hX;obtain ⟨b, o, cp, rfl, hcp⟩ := slice_some hl (by simp);have hS := Stt.mk0 h hN hX;obtain ⟨W0, HW0⟩ := nm (w.alloc (nb (ncs 9 t vt vn n (.slice (some ⟨b, o, none⟩) [x].length cp) xa)));rw [HW0.out] at hS;have s0 : W0.heap.size = w.heap.size + 1 := by rw [← HW0.out]; simp
  obtain ⟨xk, xt, xvt, xvn, xn, xl, xxa⟩ := x;have HS0 : Hid _ := hS;have Hx : Hid _ := hx;obtain ⟨tx, HTx⟩ := nm (prT nt qt (Tr.mk xk xt xvt xvn xn xl xxa));rw [HTx.out] at ht ⊢
  try simp only [lla, llc, lln] at ht
  have HT : Hid (l.length + tx.length + 3 ≤ 1000000 ∧ True) := ⟨by omega, trivial⟩;unfold nb ncs at HW0;simp only [llc, lln, Nat.zero_add, Nat.reduceAdd] at HW0;clear h hN hX hl hS ht e1 hcp hx;unfold ncs
  try simp only [llc, lln, Nat.zero_add, Nat.reduceAdd]
  go_enter Tryz.func40, Tryz.ntmps40
  go_wp2_with fail
  rw [HW0.out]
  try rw [← s0]
  refine cmo (put_new HS0.out.pr [⟨#[40]⟩, t] (by simp) (by have := HT.out.1; simp only [lla, llc, lln]; omega) (by intro t0 h0; simp only [List.mem_cons, List.not_mem_nil, or_false] at h0; rcases h0 with rfl | rfl; exact (by rw [btl]; decide); exact hne.out)) ?_;rintro r W1 ⟨rfl, v1, hp1, hs1⟩;have HS1 : Hid _ := HS0.out.go hp1 hs1;clear hp1 hs1 HS0;obtain ⟨r0, r1, r2, r3, r4, r5, r6⟩ := nb_cells HS1.out.box;obtain ⟨aox, lnx, cpx, dx, z0, z1, z2, z3, z4, z5, z6⟩ := child_at HS1.out.node 0 (by simp) rfl;simp only [Nat.zero_mul, Nat.one_mul, Nat.add_zero] at z0 z1 z2 z3 z4 z5 z6;have HCx : Hid _ := Hx.out W1 c B v1 _ _ HS1.out.pr HS1.out.num dx (by have := HT.out.1; have e := congrArg List.length HTx.out; (try simp only [keyP, doP, lla, llc, lln] at e ⊢); omega);rw [HTx.out] at HCx;clear dx;go_wp2_with fail
  refine cmo HCx.out ?_;rintro r W2 ⟨rfl, v2, hp2, hs2⟩;have HS2 : Hid _ := HS1.out.go hp2 hs2;clear r0 r1 r2 r3 r4 r5 r6;clear hp2 hs2 HS1 HCx z0 z1 z2 z3 z4 z5 z6;obtain ⟨r0, r1, r2, r3, r4, r5, r6⟩ := nb_cells HS2.out.box;go_wp2_with fail
  refine cmo (put_new HS2.out.pr [⟨#[41]⟩] (by simp) (by have := HT.out.1; simp only [lla, llc, lln]; omega) (by intro t0 h0; rw [lms.1 h0]; exact (by rw [btl]; decide))) ?_;rintro r W9 ⟨rfl, v9, hp9, hs9⟩;have HF : Hid (Pr W9 c B v9 (l ++ ([⟨#[40]⟩, t] ++ tx ++ [⟨#[41]⟩])) ∧ Pass c v w v9 W9) := ⟨by simpa only [laa, lca, lna] using hp9, HS2.out.pass.trans hs9⟩;clear hp9 hs9 HS2 r0 r1 r2 r3 r4 r5 r6;go_wp2_with fail
  exact bodyPost_end (results_none Tryz.results40 _ _ _) rfl ⟨rfl, v9, HF.out⟩
theorem expr_10 {x y : Tr} (hx : TreeIs nt qt P x) (hy : TreeIs nt qt P y) (t : ByteArray) (vt vn n xa : Int) : PartIs 40 nt qt P (.mk 10 t vt vn n [x, y] xa) := by
  intro w c B v l cs h hN hX ht;have e1 : prT nt qt (.mk 10 t vt vn n [x, y] xa) = headP x.k (prT nt qt x) ++ keyP (prT nt qt y) := by simp [prT, prTs, prN]
  rw [e1] at ht ⊢;obtain ⟨sv, rfl, hl⟩ := nds.1 hX;obtain ⟨b, o, cp, rfl, hcp⟩ := slice_some hl (by simp);have hS := Stt.mk0 h hN hX;obtain ⟨W0, HW0⟩ := nm (w.alloc (nb (ncs 10 t vt vn n (.slice (some ⟨b, o, none⟩) [x, y].length cp) xa)));rw [HW0.out] at hS;have s0 : W0.heap.size = w.heap.size + 1 := by rw [← HW0.out]; simp
  obtain ⟨xk, xt, xvt, xvn, xn, xl, xxa⟩ := x;obtain ⟨yk, yt, yvt, yvn, yn, yl, yxa⟩ := y;have HS0 : Hid _ := hS;have Hx : Hid _ := hx;have Hy : Hid _ := hy;obtain ⟨tx, HTx⟩ := nm (headP (Tr.mk xk xt xvt xvn xn xl xxa).k (prT nt qt (Tr.mk xk xt xvt xvn xn xl xxa)));obtain ⟨ty, HTy⟩ := nm (keyP (prT nt qt (Tr.mk yk yt yvt yvn yn yl yxa)));rw [HTx.out, HTy.out] at ht ⊢
  try simp only [lla, llc, lln] at ht
  have HT : Hid (l.length + tx.length + ty.length + 0 ≤ 1000000 ∧ True) := ⟨by omega, trivial⟩;unfold nb ncs at HW0;simp only [llc, lln, Nat.zero_add, Nat.reduceAdd] at HW0;clear h hN hX hl hS ht e1 hcp hx hy;obtain ⟨aox, lnx, cpx, dx, z0, z1, z2, z3, z4, z5, z6⟩ := child_at HS0.out.node 0 (by simp) rfl;simp only [Nat.zero_mul, Nat.one_mul, Nat.add_zero] at z0 z1 z2 z3 z4 z5 z6;have HCx : Hid _ := head_pr Hx.out HS0.out.pr HS0.out.num dx (by have := HT.out.1; have e := congrArg List.length HTx.out; (try simp only [keyP, doP, lla, llc, lln] at e ⊢); omega);rw [HTx.out] at HCx;clear dx;rw [← HW0.out] at z0 z1 z2 z3 z4 z5 z6;unfold ncs
  try simp only [llc, lln, Nat.zero_add, Nat.reduceAdd]
  go_enter Tryz.func40, Tryz.ntmps40
  go_wp2_with fail
  rw [HW0.out]
  try rw [← s0]
  refine cmo HCx.out ?_;rintro r W1 ⟨rfl, v1, hp1, hs1⟩;have HS1 : Hid _ := HS0.out.go hp1 hs1;clear hp1 hs1 HS0 HCx z0 z1 z2 z3 z4 z5 z6;obtain ⟨r0, r1, r2, r3, r4, r5, r6⟩ := nb_cells HS1.out.box;obtain ⟨aoy, lny, cpy, dy, z0, z1, z2, z3, z4, z5, z6⟩ := child_at HS1.out.node 1 (by simp) rfl;simp only [Nat.zero_mul, Nat.one_mul, Nat.add_zero] at z0 z1 z2 z3 z4 z5 z6;have HCy : Hid _ := key_pr Hy.out HS1.out.pr HS1.out.num dy (by have := HT.out.1; have e := congrArg List.length HTy.out; (try simp only [keyP, doP, lla, llc, lln] at e ⊢); omega);rw [HTy.out] at HCy;clear dy;go_wp2_with fail
  refine cmo HCy.out ?_;rintro r W9 ⟨rfl, v9, hp9, hs9⟩;have HF : Hid (Pr W9 c B v9 (l ++ (tx ++ ty)) ∧ Pass c v w v9 W9) := ⟨by simpa only [laa, lca, lna] using hp9, HS1.out.pass.trans hs9⟩;clear hp9 hs9 HS1 HCy z0 z1 z2 z3 z4 z5 z6 r0 r1 r2 r3 r4 r5 r6;go_wp2_with fail
  exact bodyPost_end (results_none Tryz.results40 _ _ _) rfl ⟨rfl, v9, HF.out⟩
theorem expr_13 {x : Tr} (hx : TreeIs nt qt P x) (t : ByteArray) (vt vn n xa : Int) : PartIs 40 nt qt P (.mk 13 t vt vn n [x] xa) := by
  intro w c B v l cs h hN hX ht;have e1 : prT nt qt (.mk 13 t vt vn n [x] xa) = prT nt qt x := by simp [prT, prTs, prN]
  rw [e1] at ht ⊢;obtain ⟨sv, rfl, hl⟩ := nds.1 hX;obtain ⟨b, o, cp, rfl, hcp⟩ := slice_some hl (by simp);have hS := Stt.mk0 h hN hX;obtain ⟨W0, HW0⟩ := nm (w.alloc (nb (ncs 13 t vt vn n (.slice (some ⟨b, o, none⟩) [x].length cp) xa)));rw [HW0.out] at hS;have s0 : W0.heap.size = w.heap.size + 1 := by rw [← HW0.out]; simp
  obtain ⟨xk, xt, xvt, xvn, xn, xl, xxa⟩ := x;have HS0 : Hid _ := hS;have Hx : Hid _ := hx;obtain ⟨tx, HTx⟩ := nm (prT nt qt (Tr.mk xk xt xvt xvn xn xl xxa));rw [HTx.out] at ht ⊢
  try simp only [lla, llc, lln] at ht
  have HT : Hid (l.length + tx.length + 0 ≤ 1000000 ∧ True) := ⟨by omega, trivial⟩;unfold nb ncs at HW0;simp only [llc, lln, Nat.zero_add, Nat.reduceAdd] at HW0;clear h hN hX hl hS ht e1 hcp hx;obtain ⟨aox, lnx, cpx, dx, z0, z1, z2, z3, z4, z5, z6⟩ := child_at HS0.out.node 0 (by simp) rfl;simp only [Nat.zero_mul, Nat.one_mul, Nat.add_zero] at z0 z1 z2 z3 z4 z5 z6;have HCx : Hid _ := Hx.out W0 c B v _ _ HS0.out.pr HS0.out.num dx (by have := HT.out.1; have e := congrArg List.length HTx.out; (try simp only [keyP, doP, lla, llc, lln] at e ⊢); omega);rw [HTx.out] at HCx;clear dx;rw [← HW0.out] at z0 z1 z2 z3 z4 z5 z6;unfold ncs
  try simp only [llc, lln, Nat.zero_add, Nat.reduceAdd]
  go_enter Tryz.func40, Tryz.ntmps40
  go_wp2_with fail
  rw [HW0.out]
  try rw [← s0]
  refine cmo HCx.out ?_;rintro r W9 ⟨rfl, v9, hp9, hs9⟩;have HF : Hid (Pr W9 c B v9 (l ++ (tx)) ∧ Pass c v w v9 W9) := ⟨by simpa only [laa, lca, lna] using hp9, HS0.out.pass.trans hs9⟩;clear hp9 hs9 HS0 HCx z0 z1 z2 z3 z4 z5 z6;go_wp2_with fail
  exact bodyPost_end (results_none Tryz.results40 _ _ _) rfl ⟨rfl, v9, HF.out⟩
theorem expr_14 {x y : Tr} (hx : TreeIs nt qt P x) (hy : TreeIs nt qt P y) (t : ByteArray) (vt vn n xa : Int) : PartIs 40 nt qt P (.mk 14 t vt vn n [x, y] xa) := by
  intro w c B v l cs h hN hX ht;have e1 : prT nt qt (.mk 14 t vt vn n [x, y] xa) = keyP (prT nt qt x) ++ [⟨#[61]⟩] ++ prT nt qt y := by simp [prT, prTs, prN]
  rw [e1] at ht ⊢;obtain ⟨sv, rfl, hl⟩ := nds.1 hX;obtain ⟨b, o, cp, rfl, hcp⟩ := slice_some hl (by simp);have hS := Stt.mk0 h hN hX;obtain ⟨W0, HW0⟩ := nm (w.alloc (nb (ncs 14 t vt vn n (.slice (some ⟨b, o, none⟩) [x, y].length cp) xa)));rw [HW0.out] at hS;have s0 : W0.heap.size = w.heap.size + 1 := by rw [← HW0.out]; simp
  obtain ⟨xk, xt, xvt, xvn, xn, xl, xxa⟩ := x;obtain ⟨yk, yt, yvt, yvn, yn, yl, yxa⟩ := y;have HS0 : Hid _ := hS;have Hx : Hid _ := hx;have Hy : Hid _ := hy;obtain ⟨tx, HTx⟩ := nm (keyP (prT nt qt (Tr.mk xk xt xvt xvn xn xl xxa)));obtain ⟨ty, HTy⟩ := nm (prT nt qt (Tr.mk yk yt yvt yvn yn yl yxa));rw [HTx.out, HTy.out] at ht ⊢
  try simp only [lla, llc, lln] at ht
  have HT : Hid (l.length + tx.length + ty.length + 1 ≤ 1000000 ∧ True) := ⟨by omega, trivial⟩;unfold nb ncs at HW0;simp only [llc, lln, Nat.zero_add, Nat.reduceAdd] at HW0;clear h hN hX hl hS ht e1 hcp hx hy;obtain ⟨aox, lnx, cpx, dx, z0, z1, z2, z3, z4, z5, z6⟩ := child_at HS0.out.node 0 (by simp) rfl;simp only [Nat.zero_mul, Nat.one_mul, Nat.add_zero] at z0 z1 z2 z3 z4 z5 z6;have HCx : Hid _ := key_pr Hx.out HS0.out.pr HS0.out.num dx (by have := HT.out.1; have e := congrArg List.length HTx.out; (try simp only [keyP, doP, lla, llc, lln] at e ⊢); omega);rw [HTx.out] at HCx;clear dx;rw [← HW0.out] at z0 z1 z2 z3 z4 z5 z6;unfold ncs
  try simp only [llc, lln, Nat.zero_add, Nat.reduceAdd]
  go_enter Tryz.func40, Tryz.ntmps40
  go_wp2_with fail
  rw [HW0.out]
  try rw [← s0]
  refine cmo HCx.out ?_;rintro r W1 ⟨rfl, v1, hp1, hs1⟩;have HS1 : Hid _ := HS0.out.go hp1 hs1;clear hp1 hs1 HS0 HCx z0 z1 z2 z3 z4 z5 z6;obtain ⟨r0, r1, r2, r3, r4, r5, r6⟩ := nb_cells HS1.out.box;go_wp2_with fail
  refine cmo (put_new HS1.out.pr [⟨#[61]⟩] (by simp) (by have := HT.out.1; simp only [lla, llc, lln]; omega) (by intro t0 h0; rw [lms.1 h0]; exact (by rw [btl]; decide))) ?_;rintro r W2 ⟨rfl, v2, hp2, hs2⟩;have HS2 : Hid _ := HS1.out.go hp2 hs2;clear r0 r1 r2 r3 r4 r5 r6;clear hp2 hs2 HS1;obtain ⟨r0, r1, r2, r3, r4, r5, r6⟩ := nb_cells HS2.out.box;obtain ⟨aoy, lny, cpy, dy, z0, z1, z2, z3, z4, z5, z6⟩ := child_at HS2.out.node 1 (by simp) rfl;simp only [Nat.zero_mul, Nat.one_mul, Nat.add_zero] at z0 z1 z2 z3 z4 z5 z6;have HCy : Hid _ := Hy.out W2 c B v2 _ _ HS2.out.pr HS2.out.num dy (by have := HT.out.1; have e := congrArg List.length HTy.out; (try simp only [keyP, doP, lla, llc, lln] at e ⊢); omega);rw [HTy.out] at HCy;clear dy;go_wp2_with fail
  refine cmo HCy.out ?_;rintro r W9 ⟨rfl, v9, hp9, hs9⟩;have HF : Hid (Pr W9 c B v9 (l ++ (tx ++ [⟨#[61]⟩] ++ ty)) ∧ Pass c v w v9 W9) := ⟨by simpa only [laa, lca, lna] using hp9, HS2.out.pass.trans hs9⟩;clear hp9 hs9 HS2 HCy z0 z1 z2 z3 z4 z5 z6 r0 r1 r2 r3 r4 r5 r6;go_wp2_with fail
  exact bodyPost_end (results_none Tryz.results40 _ _ _) rfl ⟨rfl, v9, HF.out⟩
theorem stmt_23 {x : Tr} (hx : TreeIs nt qt P x) (t : ByteArray) (vt vn n xa : Int) : PartIs 41 nt qt P (.mk 23 t vt vn n [x] xa) := by
  intro w c B v l cs h hN hX ht;have e1 : prT nt qt (.mk 23 t vt vn n [x] xa) = prT nt qt x := by simp [prT, prTs, prN]
  rw [e1] at ht ⊢;obtain ⟨sv, rfl, hl⟩ := nds.1 hX;obtain ⟨b, o, cp, rfl, hcp⟩ := slice_some hl (by simp);have hS := Stt.mk0 h hN hX;obtain ⟨W0, HW0⟩ := nm (w.alloc (nb (ncs 23 t vt vn n (.slice (some ⟨b, o, none⟩) [x].length cp) xa)));rw [HW0.out] at hS;have s0 : W0.heap.size = w.heap.size + 1 := by rw [← HW0.out]; simp
  obtain ⟨xk, xt, xvt, xvn, xn, xl, xxa⟩ := x;have HS0 : Hid _ := hS;have Hx : Hid _ := hx;obtain ⟨tx, HTx⟩ := nm (prT nt qt (Tr.mk xk xt xvt xvn xn xl xxa));rw [HTx.out] at ht ⊢
  try simp only [lla, llc, lln] at ht
  have HT : Hid (l.length + tx.length + 0 ≤ 1000000 ∧ True) := ⟨by omega, trivial⟩;unfold nb ncs at HW0;simp only [llc, lln, Nat.zero_add, Nat.reduceAdd] at HW0;clear h hN hX hl hS ht e1 hcp hx;obtain ⟨aox, lnx, cpx, dx, z0, z1, z2, z3, z4, z5, z6⟩ := child_at HS0.out.node 0 (by simp) rfl;simp only [Nat.zero_mul, Nat.one_mul, Nat.add_zero] at z0 z1 z2 z3 z4 z5 z6;have HCx : Hid _ := Hx.out W0 c B v _ _ HS0.out.pr HS0.out.num dx (by have := HT.out.1; have e := congrArg List.length HTx.out; (try simp only [keyP, doP, lla, llc, lln] at e ⊢); omega);rw [HTx.out] at HCx;clear dx;rw [← HW0.out] at z0 z1 z2 z3 z4 z5 z6;unfold ncs
  try simp only [llc, lln, Nat.zero_add, Nat.reduceAdd]
  go_enter Tryz.func41, Tryz.ntmps41
  go_wp2_with fail
  rw [HW0.out]
  try rw [← s0]
  refine cmo HCx.out ?_;rintro r W9 ⟨rfl, v9, hp9, hs9⟩;have HF : Hid (Pr W9 c B v9 (l ++ (tx)) ∧ Pass c v w v9 W9) := ⟨by simpa only [laa, lca, lna] using hp9, HS0.out.pass.trans hs9⟩;clear hp9 hs9 HS0 HCx z0 z1 z2 z3 z4 z5 z6;go_wp2_with fail
  exact bodyPost_end (results_none Tryz.results41 _ _ _) rfl ⟨rfl, v9, HF.out⟩
theorem stmt_25 {x y : Tr} (hx : TreeIs nt qt P x) (hy : TreeIs nt qt P y) (t : ByteArray) (vt vn n xa : Int) : PartIs 41 nt qt P (.mk 25 t vt vn n [x, y] xa) := by
  intro w c B v l cs h hN hX ht;have e1 : prT nt qt (.mk 25 t vt vn n [x, y] xa) = [⟨#[119, 104, 105, 108, 101]⟩] ++ prT nt qt x ++ doP (prT nt qt y) := by simp [prT, prTs, prN]
  rw [e1] at ht ⊢;obtain ⟨sv, rfl, hl⟩ := nds.1 hX;obtain ⟨b, o, cp, rfl, hcp⟩ := slice_some hl (by simp);have hS := Stt.mk0 h hN hX;obtain ⟨W0, HW0⟩ := nm (w.alloc (nb (ncs 25 t vt vn n (.slice (some ⟨b, o, none⟩) [x, y].length cp) xa)));rw [HW0.out] at hS;have s0 : W0.heap.size = w.heap.size + 1 := by rw [← HW0.out]; simp
  obtain ⟨xk, xt, xvt, xvn, xn, xl, xxa⟩ := x;obtain ⟨yk, yt, yvt, yvn, yn, yl, yxa⟩ := y;have HS0 : Hid _ := hS;have Hx : Hid _ := hx;have Hy : Hid _ := hy;obtain ⟨tx, HTx⟩ := nm (prT nt qt (Tr.mk xk xt xvt xvn xn xl xxa));obtain ⟨ty, HTy⟩ := nm (doP (prT nt qt (Tr.mk yk yt yvt yvn yn yl yxa)));rw [HTx.out, HTy.out] at ht ⊢
  try simp only [lla, llc, lln] at ht
  have HT : Hid (l.length + tx.length + ty.length + 1 ≤ 1000000 ∧ True) := ⟨by omega, trivial⟩;unfold nb ncs at HW0;simp only [llc, lln, Nat.zero_add, Nat.reduceAdd] at HW0;clear h hN hX hl hS ht e1 hcp hx hy;unfold ncs
  try simp only [llc, lln, Nat.zero_add, Nat.reduceAdd]
  go_enter Tryz.func41, Tryz.ntmps41
  go_wp2_with fail
  rw [HW0.out]
  try rw [← s0]
  refine cmo (put_new HS0.out.pr [⟨#[119, 104, 105, 108, 101]⟩] (by simp) (by have := HT.out.1; simp only [lla, llc, lln]; omega) (by intro t0 h0; rw [lms.1 h0]; exact (by rw [btl]; decide))) ?_;rintro r W1 ⟨rfl, v1, hp1, hs1⟩;have HS1 : Hid _ := HS0.out.go hp1 hs1;clear hp1 hs1 HS0;obtain ⟨r0, r1, r2, r3, r4, r5, r6⟩ := nb_cells HS1.out.box;obtain ⟨aox, lnx, cpx, dx, z0, z1, z2, z3, z4, z5, z6⟩ := child_at HS1.out.node 0 (by simp) rfl;simp only [Nat.zero_mul, Nat.one_mul, Nat.add_zero] at z0 z1 z2 z3 z4 z5 z6;have HCx : Hid _ := Hx.out W1 c B v1 _ _ HS1.out.pr HS1.out.num dx (by have := HT.out.1; have e := congrArg List.length HTx.out; (try simp only [keyP, doP, lla, llc, lln] at e ⊢); omega);rw [HTx.out] at HCx;clear dx;go_wp2_with fail
  refine cmo HCx.out ?_;rintro r W2 ⟨rfl, v2, hp2, hs2⟩;have HS2 : Hid _ := HS1.out.go hp2 hs2;clear r0 r1 r2 r3 r4 r5 r6;clear hp2 hs2 HS1 HCx z0 z1 z2 z3 z4 z5 z6;obtain ⟨r0, r1, r2, r3, r4, r5, r6⟩ := nb_cells HS2.out.box;obtain ⟨aoy, lny, cpy, dy, z0, z1, z2, z3, z4, z5, z6⟩ := child_at HS2.out.node 1 (by simp) rfl;simp only [Nat.zero_mul, Nat.one_mul, Nat.add_zero] at z0 z1 z2 z3 z4 z5 z6;have HCy : Hid _ := do_pr Hy.out HS2.out.pr HS2.out.num dy (by have := HT.out.1; have e := congrArg List.length HTy.out; (try simp only [keyP, doP, lla, llc, lln] at e ⊢); omega);rw [HTy.out] at HCy;clear dy;go_wp2_with fail
  refine cmo HCy.out ?_;rintro r W9 ⟨rfl, v9, hp9, hs9⟩;have HF : Hid (Pr W9 c B v9 (l ++ ([⟨#[119, 104, 105, 108, 101]⟩] ++ tx ++ ty)) ∧ Pass c v w v9 W9) := ⟨by simpa only [laa, lca, lna] using hp9, HS2.out.pass.trans hs9⟩;clear hp9 hs9 HS2 HCy z0 z1 z2 z3 z4 z5 z6 r0 r1 r2 r3 r4 r5 r6;go_wp2_with fail
  exact bodyPost_end (results_none Tryz.results41 _ _ _) rfl ⟨rfl, v9, HF.out⟩
theorem stmt_30 {x : Tr} (hx : TreeIs nt qt P x) (t : ByteArray) (vt vn n xa : Int) : PartIs 41 nt qt P (.mk 30 t vt vn n [x] xa) := by
  intro w c B v l cs h hN hX ht;have e1 : prT nt qt (.mk 30 t vt vn n [x] xa) = doP (prT nt qt x) := by simp [prT, prTs, prN]
  rw [e1] at ht ⊢;obtain ⟨sv, rfl, hl⟩ := nds.1 hX;obtain ⟨b, o, cp, rfl, hcp⟩ := slice_some hl (by simp);have hS := Stt.mk0 h hN hX;obtain ⟨W0, HW0⟩ := nm (w.alloc (nb (ncs 30 t vt vn n (.slice (some ⟨b, o, none⟩) [x].length cp) xa)));rw [HW0.out] at hS;have s0 : W0.heap.size = w.heap.size + 1 := by rw [← HW0.out]; simp
  obtain ⟨xk, xt, xvt, xvn, xn, xl, xxa⟩ := x;have HS0 : Hid _ := hS;have Hx : Hid _ := hx;obtain ⟨tx, HTx⟩ := nm (doP (prT nt qt (Tr.mk xk xt xvt xvn xn xl xxa)));rw [HTx.out] at ht ⊢
  try simp only [lla, llc, lln] at ht
  have HT : Hid (l.length + tx.length + 0 ≤ 1000000 ∧ True) := ⟨by omega, trivial⟩;unfold nb ncs at HW0;simp only [llc, lln, Nat.zero_add, Nat.reduceAdd] at HW0;clear h hN hX hl hS ht e1 hcp hx;obtain ⟨aox, lnx, cpx, dx, z0, z1, z2, z3, z4, z5, z6⟩ := child_at HS0.out.node 0 (by simp) rfl;simp only [Nat.zero_mul, Nat.one_mul, Nat.add_zero] at z0 z1 z2 z3 z4 z5 z6;have HCx : Hid _ := do_pr Hx.out HS0.out.pr HS0.out.num dx (by have := HT.out.1; have e := congrArg List.length HTx.out; (try simp only [keyP, doP, lla, llc, lln] at e ⊢); omega);rw [HTx.out] at HCx;clear dx;rw [← HW0.out] at z0 z1 z2 z3 z4 z5 z6;unfold ncs
  try simp only [llc, lln, Nat.zero_add, Nat.reduceAdd]
  go_enter Tryz.func41, Tryz.ntmps41
  go_wp2_with fail
  rw [HW0.out]
  try rw [← s0]
  refine cmo HCx.out ?_;rintro r W9 ⟨rfl, v9, hp9, hs9⟩;have HF : Hid (Pr W9 c B v9 (l ++ (tx)) ∧ Pass c v w v9 W9) := ⟨by simpa only [laa, lca, lna] using hp9, HS0.out.pass.trans hs9⟩;clear hp9 hs9 HS0 HCx z0 z1 z2 z3 z4 z5 z6;go_wp2_with fail
  exact bodyPost_end (results_none Tryz.results41 _ _ _) rfl ⟨rfl, v9, HF.out⟩
end Go.Proofs.YtmoiikpjegbokaaGreatDoor
