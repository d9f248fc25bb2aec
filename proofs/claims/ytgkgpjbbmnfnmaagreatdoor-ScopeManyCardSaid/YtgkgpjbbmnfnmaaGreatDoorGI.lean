/- Joined: TI TJ0 TJ1 TJ2. -/
import Derived.Test.YtgkgpjbbmnfnmaaGreatDoorRV
import Derived.Test.YtgkgpjbbmnfnmaaGreatDoorTH
import Derived.Deep.DeepCutAuto
import Derived.Laws.OwnMore
import Derived.Test.YtgkgpjbbmnfnmaaGreatDoorGA
/- above. -/
namespace Go.Proofs.YtgkgpjbbmnfnmaaGreatDoor
open Go.RowKit
set_option linter.unusedSimpArgs false
set_option linter.unusedVariables false

/-- Two trees in a row that was just made. -/
theorem pair_list {S : Nat → Prop} {w : World} {x y : Tr} {cs ds : List Value} (hx : NodeIs S w x cs) (hy : NodeIs S w y ds) (hS : ¬ S w.heap.size) : ListIs S (w.alloc (nb (cs ++ ds))) [x, y] (.slice (some ⟨w.heap.size, 0, none⟩) 2 2) := by
 have hl := hx.len
 have hl2 := hy.len
 have hk : Kept S w (w.alloc (nb (cs ++ ds))) := ((Kept.refl No w).alloc _).no
 have hc := cell_of (World.alloc_heap_new w (nb (cs ++ ds)))
 refine .inr ⟨w.heap.size, 0, 2, rfl, hS, by simp, row_of [x, y] [cs, ds] 0 rfl (fun i h1 h2 => ?_) (fun k hk' i hi => ?_)⟩
 ·have e : i = 0 ∨ i = 1 := by simp at h1; omega
  rcases e with rfl | rfl
  ·exact NodeIs.kept hk _ _ hx
  ·exact NodeIs.kept hk _ _ hy
 ·have e : k = 0 ∨ k = 1 := by simp at hk'; omega
  rcases e with rfl | rfl
  ·rw [hc]
   simp only [nb, List.getElem?_toArray]
   rw [List.getElem?_append_left (by omega)]
   congr 1; omega
  ·rw [hc]
   simp only [nb, List.getElem?_toArray]
   rw [List.getElem?_append_right (by omega)]
   simp only [List.getElem_cons_succ, List.getElem_cons_zero]
   congr 1; omega
theorem bind_le (s : List UInt8) : bindOf s ≤ 6 := by
 unfold bindOf
 repeat' split
 all_goals omega
theorem bind_nil : bindOf [] = 0 := by decide
theorem bind_cat : bindOf [46, 46] = 4 := by decide

set_option maxRecDepth 20000 in
set_option maxHeartbeats 16000000 in
theorem above_any {w : World} {c : Nat} {V : Env} {p : Nat} {G : Lev} {l : Nat} (hG : LevIs V G (l + 1)) (hl : l ≤ 40) (h : Ps w c V p) (bd : Nat)
  (hS : ∀ {w' : World}, Ps w' c V p → Calls Tryz.prog 169 #[.pointer (some ⟨c, 0, none⟩), .int .i64 (l : Int)] w' (PResB c V w' (suffE V G p))) :
  Calls Tryz.prog 187 #[.pointer (some ⟨c, 0, none⟩), .int .i64 (bd : Int), .int .i64 (l : Int)] w (PRes c V w (aboveE V G bd p)) := by
 obtain ⟨W0, HW0⟩ : ∃ W0, Hid (w.alloc (nb nz) = W0) := ⟨_, show _ = _ from rfl⟩
 have HK0 : Hid (Kept No w W0 ∧ W0.heap.size = w.heap.size + 1) := by
  refine ⟨?_, ?_⟩
  ·rw [← HW0.out]; exact (Kept.refl No w).alloc _
  ·rw [← HW0.out]; simp
 have HT0 : Hid (W0.heap[w.heap.size]? = some (nb nz)) := by show _ = _; rw [← HW0.out]; exact World.alloc_heap_new w _
 have hcl := h.lt
 have hlen := h.len
 have HBg : Hid _ := begin_ok (h.no HK0.out.1) l hl
 have HOp : Hid (∀ {w' : World}, Ps w' c V p → Calls Tryz.prog 197 #[.pointer (some ⟨c, 0, none⟩), .int .i64 (l : Int)] w' (PRes c V w' (operandE V G p))) := fun hq => operand_any hG hq hS
 have HAb : Hid (∀ {w' : World} {q : Nat} (b : Nat), b ≤ 7 → Ps w' c V q → Calls Tryz.prog 187 #[.pointer (some ⟨c, 0, none⟩), .int .i64 (b : Int), .int .i64 ((l : Int) + 1)] w' (PRes c V w' (G.above b q))) := fun b hb hq => by
  have := hG.above b hb hq
  rw [show ((l + 1 : Nat) : Int) = (l : Int) + 1 by omega] at this
  exact this
 have HGo : Hid (∀ b, Gos V (G.above b)) := fun b => hG.go.above b
 have HOg : Hid (Gos V (operandE V G)) := operandE_go hG.go
 have HP0 : Hid (Ps W0 c V p) := h.no HK0.out.1
 obtain ⟨RR, HRd⟩ : ∃ RR, Hid (aboveE V G bd p = RR) := ⟨_, show _ = _ from rfl⟩
 rw [HRd.out]
 have u1 : IntKind.i64.wrap ((l : Int) + 1) = (l : Int) + 1 := by rw [IntKind.wrap_i64]; omega
 unfold nb nz ncs at HW0
 clear h hG hS
 go_enter Tryz.func187, Tryz.ntmps187
 go_wp2_with fail
 rw [HW0.out]
 refine Calls.mono HBg.out ?_
 rintro r W1 ⟨rfl, hk1⟩
 have HK1 : Hid (Kept No w W1 ∧ W1.heap[w.heap.size]? = some (nb nz) ∧ w.heap.size + 1 ≤ W1.heap.size ∧ Ps W1 c V p) :=
  ⟨HK0.out.1.trans hk1, hk1.heap HT0.out id, by have := hk1.size; have := HK0.out.2; omega, HP0.out.no hk1⟩
 clear hk1 HBg HK0 HT0 HP0 HW0
 have HO1 : Hid _ := HOp.out HK1.out.2.2.2
 clear HOp
 go_wp2_with fail
 cases hO : operandE V G p with
 | error e =>
  obtain ⟨a, x⟩ := e
  rw [hO] at HO1
  have HRe : Hid (RR = .error (a, x)) := by show _ = _; rw [← HRd.out]; unfold aboveE; rw [hO]
  clear hO HRd
  refine Calls.mono HO1.out ?_
  rintro r W2 ⟨hk2, rfl⟩
  have HF : Hid (Kept (fun b => b = c) w W2) := HK1.out.1.no.trans hk2
  clear hk2 HO1 HK1
  go_wp2_with fail
  refine ⟨rfl, ?_⟩
  show PRes c V w RR _ _
  rw [HRe.out]
  exact ⟨HF.out, rfl⟩
 | ok y =>
  obtain ⟨n, q⟩ := y
  have hgo := HOg.out _ _ _ hO
  rw [hO] at HO1
  have HRf : Hid (RR = bins V G bd (V.L.length + 1) n q) := by show _ = _; rw [← HRd.out]; unfold aboveE; rw [hO]
  clear hO HRd HOg
  refine Calls.mono HO1.out ?_
  rintro r W2 ⟨hk2, ⟨cs, rfl, hn⟩, hp2⟩
  obtain ⟨k0, t0', vt0, vn0, n0, l0, a0⟩ := n
  obtain ⟨sv, rfl, hls⟩ := NodeIs.cs.1 hn
  obtain ⟨ao, ln, cp, rfl⟩ := slice_of hls
  obtain ⟨W3, HW3⟩ : ∃ W3, Hid (W2.alloc (nb (ncs k0 t0' vt0 vn0 n0 (.slice ao ln cp) a0)) = W3) := ⟨_, show _ = _ from rfl⟩
  obtain ⟨lb, Hlb⟩ : ∃ lb, Hid (W2.heap.size = lb) := ⟨_, show _ = _ from rfl⟩
  have HF3 : Hid (Kept (fun b => b = c) w W3 ∧ Ps W3 c V q ∧ W3.heap[w.heap.size]? = some (nb nz) ∧ W3.heap[lb]? = some (nb (ncs k0 t0' vt0 vn0 n0 (.slice ao ln cp) a0)) ∧ NodeIs (fun b => b ≤ w.heap.size ∨ b = lb) W3 (.mk k0 t0' vt0 vn0 n0 l0 a0) (ncs k0 t0' vt0 vn0 n0 (.slice ao ln cp) a0) ∧ w.heap.size < lb ∧ lb < W3.heap.size) := by
   have ka : Kept No W2 W3 := by rw [← HW3.out]; exact (Kept.refl No W2).alloc _
   have hz2 : w.heap.size < W2.heap.size := Nat.lt_of_lt_of_le (Nat.lt_of_succ_le HK1.out.2.2.1) hk2.size
   refine ⟨(HK1.out.1.no.trans hk2).trans ka.no, hp2.no ka, ka.heap (hk2.heap HK1.out.2.1 (show ¬ w.heap.size = c by omega)) id, ?_, ?_, ?_, ?_⟩
   ·rw [← HW3.out, ← Hlb.out]; exact World.alloc_heap_new W2 _
   ·refine NodeIs.kept ka.no _ _ (NodeIs.mono ?_ _ _ (NodeIs.more _ _ hn))
    rintro b (hb | hb)
    ·exact .inl (by have := HK1.out.2.2.1; omega)
    ·exact .inr (by rw [hb, Hlb.out]; exact Nat.le_refl _)
   ·rw [← Hlb.out]; exact hz2
   ·rw [← HW3.out, ← Hlb.out]; simp
  unfold nb ncs at HW3
  clear hk2 hn hp2 hls HO1 HK1
  unfold ncs
  go_wp2_with fail
  rw [HW3.out]
  try rw [Hlb.out]
  clear HW3 Hlb
  have hrlb := HF3.out.2.2.2.2.2.1
  go_loopw [8, 9, 10, 11] (fun _ _ _ _ wr => ∃ (n : Tr) (cs : List Value) (q f : Nat), q ≤ V.L.length ∧ V.L.length + 1 ≤ q + f ∧ Hid (RR = bins V G bd f n q) ∧ Hid (Kept (fun b => b = c) w wr ∧ Ps wr c V q ∧ wr.heap[w.heap.size]? = some (nb nz) ∧ wr.heap[lb]? = some (nb cs) ∧ NodeIs (fun b => b ≤ w.heap.size ∨ b = lb) wr n cs ∧ lb < wr.heap.size)) (fun _ _ _ _ wr => V.L.length - pos c wr)
  case atStart => exact ⟨_, _, q, V.L.length + 1, hgo.2, by omega, HRf.out, HF3.out.1, HF3.out.2.1, HF3.out.2.2.1, HF3.out.2.2.2.1, HF3.out.2.2.2.2.1, HF3.out.2.2.2.2.2.2⟩
  case round =>
   clear HF3 HRf hgo
   obtain ⟨n, cs, q, f, hq, hf, HRf, HF⟩ := hrel
   obtain ⟨f, rfl⟩ : ∃ f', f = f' + 1 := ⟨f - 1, by omega⟩
   have HLk : Hid _ := look_any HF.out.2.1
   obtain ⟨x, HX⟩ : ∃ x, Hid (V.tk q = x) := ⟨_, show _ = _ from rfl⟩
   rw [HX.out] at HLk
   have ft := fun w => fd45t x w
   have HRg : Hid (RR = if bindOf x.t.data.toList ≤ bd then .ok (n, q) else match G.above (if x.t.data.toList == [46, 46] then bindOf x.t.data.toList - 1 else bindOf x.t.data.toList) (q + 1) with
    | .error e => .error e
    | .ok (y, q') => bins V G bd f (.mk 8 x.t 0 0 0 [n, y] n.a) q') := by
    show _ = _
    rw [HRf.out, bins]
    simp only [HX.out]
    split
    ·rfl
    ·generalize G.above _ _ = A
     cases A with
     | error e => rfl
     | ok z => obtain ⟨y, q'⟩ := z; rfl
   have hqt : bindOf x.t.data.toList ≠ 0 → q < V.L.length := fun hb => tk_lt HX.out (.inr (fun e => hb (by rw [e]; exact bind_nil)))
   clear HRf
   obtain ⟨xk, xt, xvt, xvn, xsy, xa, xe⟩ := x
   dsimp only at ft HRg hqt
   obtain ⟨k0, t0', vt0, vn0, n0, l0, a0⟩ := n
   obtain ⟨sv, rfl, hls⟩ := NodeIs.cs.1 HF.out.2.2.2.2.1
   obtain ⟨ao, ln, cp, rfl⟩ := slice_of hls
   clear hls
   have hpos := HF.out.2.1.pos
   go_wp2_with fail
   refine Calls.mono HLk.out ?_
   rintro r X1 ⟨rfl, hk1⟩
   have HF1 : Hid (Kept (fun b => b = c) w X1 ∧ Ps X1 c V q ∧ X1.heap[w.heap.size]? = some (nb nz) ∧ X1.heap[lb]? = some (nb (ncs k0 t0' vt0 vn0 n0 (.slice ao ln cp) a0)) ∧ NodeIs (fun b => b ≤ w.heap.size ∨ b = lb) X1 (.mk k0 t0' vt0 vn0 n0 l0 a0) (ncs k0 t0' vt0 vn0 n0 (.slice ao ln cp) a0) ∧ lb < X1.heap.size) :=
    ⟨HF.out.1.trans hk1.no, HF.out.2.1.no hk1, hk1.heap HF.out.2.2.1 id, hk1.heap HF.out.2.2.2.1 id, NodeIs.kept hk1.no _ _ HF.out.2.2.2.2.1, Nat.lt_of_lt_of_le HF.out.2.2.2.2.2 hk1.size⟩
   clear hk1 HLk HF
   unfold tv
   dsimp only
   have HBi : Hid _ := binding_any xt X1
   go_wp2_with fail
   refine Calls.mono HBi.out ?_
   rintro r X1' ⟨rfl, rfl⟩
   clear HBi
   have hb6 := bind_le xt.data.toList
   by_cases hbd : bindOf xt.data.toList ≤ bd
   ·have hRe : RR = .ok (.mk k0 t0' vt0 vn0 n0 l0 a0, q) := by rw [HRg.out, if_pos hbd]
    have HRe : Hid _ := hRe
    clear hRe HRg hqt
    have zb : (bindOf xt.data.toList : Int) ≤ (bd : Int) := by omega
    obtain ⟨r0, r1, r2, r3, r4, r5, r6⟩ := nb_cells HF1.out.2.2.1
    obtain ⟨s0, s1, s2, s3, s4, s5, s6⟩ := nb_cells HF1.out.2.2.2.1
    have rf := fun o => nb_frozen HF1.out.2.2.1 o
    go_wp2_with fail
    refine bodyPost_ret (v := .agg (ncs k0 t0' vt0 vn0 n0 (.slice ao ln cp) a0).toArray) (by simp [results, Tryz.results187, go_sem, ncs, r0, r1, r2, r3, r4, r5, r6]) rfl ?_
    show PRes c V w RR _ _
    rw [HRe.out]
    refine ⟨?_, ⟨_, rfl, NodeIs.mono (fun b (hb : b < w.heap.size) => .inl (by omega)) _ _ (NodeIs.kept ?_ _ _ HF1.out.2.2.2.2.1)⟩, HF1.out.2.1.low (fun k hk => ?_)⟩
    ·repeat refine Kept.set ?_ _ _ _ (Or.inr (Nat.le_refl _))
     exact HF1.out.1
    ·repeat refine Kept.set ?_ _ _ _ (Or.inl (.inl (Nat.le_refl _)))
     exact Kept.refl _ _
    ·have hkR : k ≠ w.heap.size := by omega
     repeat rw [set_low _ _ _ hkR]
   ·have zb : ¬ (bindOf xt.data.toList : Int) ≤ (bd : Int) := by omega
    have hqL := hqt (by omega)
    have hRg := HRg.out
    rw [if_neg hbd] at hRg
    clear HRg hqt
    have HTk : Hid _ := take_any HF1.out.2.1 hqL
    go_wp2_with fail
    refine Calls.mono HTk.out ?_
    rintro r X2 ⟨rfl, hk2, hp2⟩
    have HF2 : Hid (Kept (fun b => b = c) w X2 ∧ Ps X2 c V (q + 1) ∧ X2.heap[w.heap.size]? = some (nb nz) ∧ X2.heap[lb]? = some (nb (ncs k0 t0' vt0 vn0 n0 (.slice ao ln cp) a0)) ∧ NodeIs (fun b => b ≤ w.heap.size ∨ b = lb) X2 (.mk k0 t0' vt0 vn0 n0 l0 a0) (ncs k0 t0' vt0 vn0 n0 (.slice ao ln cp) a0) ∧ lb < X2.heap.size) :=
     ⟨HF1.out.1.trans hk2, hp2, hk2.heap HF1.out.2.2.1 (show ¬ w.heap.size = c by omega), hk2.heap HF1.out.2.2.2.1 (show ¬ lb = c by omega), NodeIs.kept (hk2.mono (fun b (hb : b = c) => .inl (by omega))) _ _ HF1.out.2.2.2.2.1, Nat.lt_of_lt_of_le HF1.out.2.2.2.2.2 hk2.size⟩
    clear hk2 hp2 HTk HF1
    unfold tv
    obtain ⟨ib, hib, HRh, HQ⟩ : ∃ ib : Nat, ib ≤ 7 ∧ Hid (RR = match G.above ib (q + 1) with
     | .error e => .error e
     | .ok (y, q') => bins V G bd f (.mk 8 xt 0 0 0 [.mk k0 t0' vt0 vn0 n0 l0 a0, y] a0) q') ∧ Hid ((xt.toList == [46, 46]) = true ∧ (bindOf xt.data.toList : Int) - 1 = (ib : Int) ∨ (xt.toList == [46, 46]) = false ∧ (bindOf xt.data.toList : Int) = (ib : Int)) := by
     cases hc : (xt.data.toList == [46, 46]) with
     | true =>
      have h4 : bindOf xt.data.toList = 4 := by rw [eq_of_beq hc]; exact bind_cat
      rw [hc, if_pos rfl, h4] at hRg
      exact ⟨3, by omega, hRg, .inl ⟨by rw [ByteArray.toList_eq]; exact hc, by rw [h4]; rfl⟩⟩
     | false =>
      rw [hc] at hRg
      exact ⟨bindOf xt.data.toList, by omega, hRg, .inr ⟨by rw [ByteArray.toList_eq]; exact hc, rfl⟩⟩
    clear hRg
    have HA2 : Hid _ := HAb.out (q := q + 1) ib hib HF2.out.2.1
    have HGo2 : Hid (Gos V (G.above ib)) := HGo.out ib
    have HQ2 : Hid (∃ bq, (xt.toList == [46, 46]) = bq ∧ (xt.toList == (⟨#[46, 46]⟩ : ByteArray).toList) = bq ∧ (bq = true ∧ (bindOf xt.data.toList : Int) - 1 = (ib : Int) ∨ bq = false ∧ (bindOf xt.data.toList : Int) = (ib : Int))) := by
     refine ⟨_, rfl, (bytes_eq xt [46, 46]).trans (bytes_eq2 xt [46, 46]).symm, ?_⟩
     rcases HQ.out with ⟨h1, h2⟩ | ⟨h1, h2⟩
     ·exact .inl ⟨h1, h2⟩
     ·exact .inr ⟨h1, h2⟩
    clear HQ
    obtain ⟨bq, q1, q2, ⟨rfl, q3⟩ | ⟨rfl, q3⟩⟩ := HQ2.out
    all_goals (
     clear HQ2
     go_wp2_with fail
     cases hA : G.above ib (q + 1) with
     | error e =>
      obtain ⟨a, z⟩ := e
      rw [hA] at HA2
      have HRe : Hid (RR = .error (a, z)) := by show _ = _; rw [HRh.out, hA]
      clear hA HRh
      refine Calls.mono HA2.out ?_
      rintro r X3 ⟨hk3, rfl⟩
      have HF : Hid (Kept (fun b => b = c) w X3) := HF2.out.1.trans hk3
      clear hk3 HA2 HF2
      go_wp2_with fail
      refine ⟨rfl, ?_⟩
      show PRes c V w RR _ _
      rw [HRe.out]
      exact ⟨HF.out, rfl⟩
     | ok z =>
      obtain ⟨y, q'⟩ := z
      have hgo2 := HGo2.out _ _ _ hA
      rw [hA] at HA2
      have HRf : Hid (RR = bins V G bd f (.mk 8 xt 0 0 0 [.mk k0 t0' vt0 vn0 n0 l0 a0, y] a0) q') := by show _ = _; rw [HRh.out, hA]
      clear hA HRh
      refine Calls.mono HA2.out ?_
      rintro r X3 ⟨hk3, ⟨ds, rfl, hy⟩, hp3⟩
      obtain ⟨yk, yt, yvt, yvn, yn, yl, ya⟩ := y
      obtain ⟨sv, rfl, hls⟩ := NodeIs.cs.1 hy
      obtain ⟨yo, yln, yc, rfl⟩ := slice_of hls
      clear hls
      obtain ⟨X4, HX4⟩ : ∃ X4, Hid (X4 = X3.alloc (nb (ncs yk yt yvt yvn yn (.slice yo yln yc) ya))) := ⟨_, show _ = _ from rfl⟩
      obtain ⟨X5, HX5⟩ : ∃ X5, Hid (X5 = X4.alloc (nb (ncs k0 t0' vt0 vn0 n0 (.slice ao ln cp) a0 ++ ncs yk yt yvt yvn yn (.slice yo yln yc) ya))) := ⟨_, show _ = _ from rfl⟩
      have k4 : Kept No X3 X4 := by rw [HX4.out]; exact (Kept.refl No X3).alloc _
      have k5 : Kept No X4 X5 := by rw [HX5.out]; exact (Kept.refl No X4).alloc _
      have hn4 : NodeIs (fun b => b ≤ w.heap.size ∨ b = lb) X4 (.mk k0 t0' vt0 vn0 n0 l0 a0) (ncs k0 t0' vt0 vn0 n0 (.slice ao ln cp) a0) := NodeIs.kept k4.no _ _ (NodeIs.kept (hk3.mono (fun b (hb : b = c) => .inl (by omega))) _ _ HF2.out.2.2.2.2.1)
      have hy4 : NodeIs (fun b => b ≤ w.heap.size ∨ b = lb) X4 (.mk yk yt yvt yvn yn yl ya) (ncs yk yt yvt yvn yn (.slice yo yln yc) ya) := NodeIs.kept k4.no _ _ (NodeIs.mono (fun b (hb : b ≤ w.heap.size ∨ b = lb) => by have := HF2.out.2.2.2.2.2; show b < _; omega) _ _ hy)
      have hz4 : lb < X4.heap.size := Nat.lt_of_lt_of_le HF2.out.2.2.2.2.2 (Nat.le_trans hk3.size k4.size)
      have HL5 : Hid (ListIs (fun b => b ≤ w.heap.size ∨ b = lb) X5 [.mk k0 t0' vt0 vn0 n0 l0 a0, .mk yk yt yvt yvn yn yl ya] (.slice (some ⟨X4.heap.size, 0, none⟩) 2 2)) := by
       show ListIs _ _ _ _
       rw [HX5.out]
       exact pair_list hn4 hy4 (by omega)
      have hlb4 : X4.heap[lb]? = some (nb (ncs k0 t0' vt0 vn0 n0 (.slice ao ln cp) a0)) := k4.heap (hk3.heap HF2.out.2.2.2.1 (show ¬ lb = c by omega)) id
      have hlb5 := k5.heap hlb4 id
      have hrb4 : X4.heap[X3.heap.size]? = some (nb (ncs yk yt yvt yvn yn (.slice yo yln yc) ya)) := by rw [HX4.out]; exact World.alloc_heap_new X3 _
      have HF5 : Hid (Kept (fun b => b = c) w X5 ∧ Ps X5 c V q' ∧ X5.heap[w.heap.size]? = some (nb nz) ∧ lb < X5.heap.size) := ⟨(HF2.out.1.trans hk3).trans (k4.trans k5).no, hp3.no (k4.trans k5), (k4.trans k5).heap (hk3.heap HF2.out.2.2.1 (show ¬ w.heap.size = c by omega)) id, Nat.lt_of_lt_of_le hz4 k5.size⟩
      obtain ⟨s0, s1, s2, s3, s4, s5, s6⟩ := nb_cells hlb4
      obtain ⟨r0, r1, r2, r3, r4, r5, r6⟩ := nb_cells hrb4
      obtain ⟨t0, t1, t2, t3, t4, t5, t6⟩ := nb_cells hlb5
      have tf := fun o => nb_frozen hlb5 o
      have HT5 : Hid _ := hlb5
      unfold nb ncs at HX4 HX5
      simp only [List.cons_append, List.nil_append] at HX5
      clear hk3 hy hp3 HA2 HF2 k4 k5 hn4 hy4 hlb4 hlb5 hrb4
      unfold ncs
      go_wp2_with (first | rw [← HX4.out] | rw [← HX5.out])
      go_roundw
      case rel =>
       refine ⟨.mk 8 xt 0 0 0 [.mk k0 t0' vt0 vn0 n0 l0 a0, .mk yk yt yvt yvn yn yl ya] a0, ncs 8 xt 0 0 0 (.slice (some ⟨X4.heap.size, 0, none⟩) 2 2) a0, q', f, hgo2.2, by omega, HRf.out, ?_, HF5.out.2.1.low (fun k hk => ?_), ?_, ?_, NodeIs.cs.2 ⟨_, rfl, ListIs.kept ?_ HL5.out⟩, ?_⟩
       ·repeat refine Kept.set ?_ _ _ _ (Or.inr (Nat.le_of_lt hrlb))
        exact HF5.out.1
       ·have hkR : k ≠ lb := by omega
        repeat rw [set_low _ _ _ hkR]
       ·repeat refine set_other ?_ _ _ (by omega)
        exact HF5.out.2.2.1
       ·exact set_same (set_same (set_same (set_same (set_same (set_same (set_same HT5.out 0 _) 1 _) 2 _) 3 _) 4 _) 5 _) 6 _
       ·repeat refine Kept.set ?_ _ _ _ (Or.inl (.inr rfl))
        exact Kept.refl _ _
       ·have h6 : lb < X5.heap.size := HF5.out.2.2.2
        simpa [World.setCell] using h6
      case measure =>
       have hp6 : ∀ X6 : World, (∀ k, k ≤ c → X6.heap[k]? = X5.heap[k]?) → pos c X6 = q' := fun X6 h6 => Ps.pos (HF5.out.2.1.low h6)
       rw [hpos, hp6]
       ·omega
       ·intro k hk
        have hkR : k ≠ lb := by omega
        repeat rw [set_low _ _ _ hkR])
end Go.Proofs.YtgkgpjbbmnfnmaaGreatDoor

/- A list of nodes is put behind a row. -/
namespace Go.Proofs.YtgkgpjbbmnfnmaaGreatDoor
open Go.RowKit
set_option linter.unusedSimpArgs false
set_option linter.unusedVariables false

/-- The cells of a row of trees. -/
theorem row_ex {S : Nat → Prop} {w : World} {b o : Nat} : ∀ (l : List Tr) (j : Nat), RowAt S w b o l j → ∃ css : List (List Value), css.length = l.length ∧ (∀ i (h1 : i < l.length) (h2 : i < css.length), NodeIs S w l[i] css[i]) ∧ ∀ k (hk : k < css.length) i, i < 7 → w.cell? ⟨b, o + (j + k) * 7 + i, none⟩ = css[k][i]?
 | [], _, _ => ⟨[], rfl, fun i h => by simp at h, fun k h => by simp at h⟩
 | x :: r, j, h => by
  unfold RowAt at h
  obtain ⟨⟨cs, h1, h2⟩, h3⟩ := h
  obtain ⟨css, e, hn, hc⟩ := row_ex r (j + 1) h3
  refine ⟨cs :: css, by simp [e], fun i a1 a2 => ?_, fun k hk i hi => ?_⟩
  ·cases i with
   | zero => exact h1
   | succ i => exact hn i (by simpa using a1) (by simpa using a2)
  ·cases k with
   | zero => simpa using h2 i hi
   | succ k =>
    have := hc k (by simpa using hk) i hi
    rw [show j + 1 + k = j + (k + 1) by omega] at this
    simpa using this
theorem flat_len (css : List (List Value)) (h7 : ∀ cs ∈ css, cs.length = 7) : css.flatten.length = css.length * 7 := by
 induction css with
 | nil => rfl
 | cons x r ih =>
  rw [List.flatten_cons, List.length_append, ih (fun cs h => h7 cs (by simp [h])), h7 x (by simp)]
  simp; omega
/-- More are put behind. -/
theorem Bld.more {B : Nat} {w w' : World} {v v' : Value} {l m : List Tr} (h : Bld B w v l) {css dss : List (List Value)} (he : css.length = l.length) (hd : dss.length = m.length)
  (hn : ∀ j (h1 : j < l.length) (h2 : j < css.length), NodeIs (Out B v) w l[j] css[j]) (hm : ∀ j (h1 : j < m.length) (h2 : j < dss.length), NodeIs (Out B v) w m[j] dss[j])
  (hown : w'.ownsRow B 43 7 v' (l.length + m.length) (css.flatten ++ dss.flatten)) (hg : w.grownBy w' v.ownBlock) (hv : v'.ownBlock = v.ownBlock ∨ ∀ k, v'.ownBlock = some k → w.heap.size ≤ k) : Bld B w' v' (l ++ m) := by
 have hk : Kept (Out B v) w w' := (Kept.refl _ w).grown hg (fun k e => .inl (.inr e))
 have key : ∀ y ds, NodeIs (Out B v) w y ds → NodeIs (Out B v') w' y ds := by
  intro y ds hy
  rcases hv with hv | hv
  ·have := NodeIs.kept hk y ds hy
   unfold Out at this ⊢
   rw [hv]; exact this
  ·have h1 := NodeIs.kept (hk.mono (fun b hb => .inl hb)) y ds (NodeIs.more y ds hy)
   refine NodeIs.mono ?_ y ds h1
   rintro b (hb | hb)
   ·exact .inl (.inl hb)
   ·exact .inr (hv b hb)
 refine ⟨⟨css ++ dss, by simp [he, hd], by rw [List.flatten_append, List.length_append]; exact hown, fun j h1 h2 => ?_⟩⟩
 by_cases hj : j < l.length
 ·have hj2 : j < css.length := by omega
  rw [List.getElem_append_left hj, List.getElem_append_left hj2]
  exact key _ _ (hn j hj hj2)
 ·have h1' := h1
  rw [List.length_append] at h1'
  rw [List.getElem_append_right (by omega), List.getElem_append_right (by omega)]
  simp only [he]
  exact key _ _ (hm _ (by omega) (by omega))
theorem node_one {S : Nat → Prop} {w : World} {x : Tr} {cs : List Value} (h : NodeIs S w x cs) : ∀ u ∈ cs, u.oneCell' = true := by
 obtain ⟨k, t, vt, vn, n, l, a⟩ := x
 obtain ⟨sv, rfl, hl⟩ := NodeIs.cs.1 h
 exact ncs_one hl k t vt vn n a
/-- What an append of a list of trees does. -/
theorem run_app_list {w : World} {ty : TypeId} {B : Nat} {v xv : Value} {l m : List Tr} (hb : Bld B w v l) (hm : ListIs (Out B v) w m xv) (hl : l.length ≤ 10000) (hml : m.length ≤ 10000) (hB : B ≤ w.heap.size) :
  ∃ v' w', (Builtin.append_ #[41, 41] ty #[v, xv]).run Tryz.prog w = .ok v' w' ∧ Bld B w' v' (l ++ m) ∧ w.grownBy w' v.ownBlock ∧ (∃ ao n cap, v' = .slice ao n cap) := by
 obtain ⟨i0, hi, hz0, hz1, hz2⟩ := info_parts infoN
 obtain ⟨css, hce, hown, hcn⟩ := hb.ex
 rcases hm with ⟨rfl, rfl⟩ | ⟨b, o, cap, rfl, hbS, hbl, hrow⟩
 ·refine ⟨v, w, run_append_owned_none (P := Tryz.prog) w B 41 ty 43 i0 7 Tryz.underlying41 hi v _ _ hown, by rw [List.append_nil]; exact hb, ⟨rfl, rfl, rfl, Nat.le_refl _, fun _ _ _ => rfl⟩, ?_⟩
  rcases hown.2 with ⟨hv, _⟩ | ⟨g, cap, cur, hv, _⟩
  ·exact ⟨_, _, _, hv⟩
  ·exact ⟨_, _, _, hv⟩
 ·obtain ⟨dss, hd, hdn, hdc⟩ := row_ex m 0 hrow
  have h7 : ∀ cs ∈ dss, cs.length = 7 := fun cs hcs => by
   obtain ⟨j, hj, rfl⟩ := List.getElem_of_mem hcs
   exact (hdn j (by omega) hj).len
  have hfl := flat_len dss h7
  obtain ⟨v', w', hr, h2, h3, h4, h5⟩ := run_append_own_at (P := Tryz.prog) w B 41 ty 43 i0 (.agg #[.int .i64 0, .string ⟨#[]⟩, .int .i64 0, .int .i64 0, .int .i64 0, .slice none 0 0, .int .i64 0]) 7 80 Tryz.underlying41 hi hz0 hz1 hz2 rfl (by decide) v l.length css.flatten hown ⟨b, o, none⟩ m.length cap dss.flatten (by rw [hfl, hd])
   (fun j u hu => by
    have hj : j < dss.flatten.length := (List.getElem?_eq_some_iff.1 hu).1
    have h1 : j / 7 < dss.length := by omega
    have h2 := flat_at dss h7 (j / 7) h1 (j % 7) (Nat.mod_lt _ (by decide))
    have h3 := hdc (j / 7) h1 (j % 7) (Nat.mod_lt _ (by decide))
    rw [show j / 7 * 7 + j % 7 = j by omega, hu] at h2
    rw [← h2] at h3
    rw [show o + (0 + j / 7) * 7 + j % 7 = o + j by omega] at h3
    rw [show (⟨b, o, none⟩ : Addr).add j = ⟨b, o + j, none⟩ by simp [Addr.add]]
    exact h3)
   (fun u hu => by
    obtain ⟨cs, hcs, hu⟩ := List.mem_flatten.1 hu
    obtain ⟨j, hj, rfl⟩ := List.getElem_of_mem hcs
    exact node_one (hdn j (by omega) hj) u hu) (by unfold maxLen; omega) (by omega) hB
  refine ⟨v', w', hr, hb.more hce hd hcn hdn h2 h3 ?_, h3, ?_⟩
  ·rcases h5 with h | h
   ·exact .inl h
   ·refine .inr (fun k e => ?_)
    rw [h] at e
    injection e with e
    exact Nat.le_of_eq e
  ·rcases h2.2 with ⟨hv, _⟩ | ⟨g, cap, cur, hv, _⟩
   ·exact ⟨_, _, _, hv⟩
   ·exact ⟨_, _, _, hv⟩
/-- .. in a region that draws its order. -/
theorem app_list {o : Oper} {a : Act} {K : Act → World → Prop} {Q : Exit → Act → World → Prop} {w : World} (s x : Operand) (ho : o.op = .call { callee := .builtin .append, args := #[s, x], argTypes := #[41, 41] })
  {B : Nat} {v xv : Value} {l m : List Tr} (hs : a.eval s = v) (hx : a.eval x = xv) (hb : Bld B w v l) (hm : ListIs (Out B v) w m xv) (hl : l.length ≤ 10000) (hml : m.length ≤ 10000) (hB : B ≤ w.heap.size)
  (h : ∀ v' w', Bld B w' v' (l ++ m) → w.grownBy w' v.ownBlock → (∃ ao n cap, v' = .slice ao n cap) → K (a.put o.dst v') w') : o.wp Tryz.prog a w K Q := by
 obtain ⟨v', w', hr, h1, h2, h3⟩ := run_app_list (ty := o.type) hb hm hl hml hB
 unfold Oper.wp execOp
 simp only [ho, resolve, invoke, builtin, Sem.run_bind, Sem.run_pure, Result.andThen_ok, List.map_toArray, List.map_cons, List.map_nil, hs, hx, hr]
 exact h v' w' h1 h2 h3
end Go.Proofs.YtgkgpjbbmnfnmaaGreatDoor

/- suffixed. -/
namespace Go.Proofs.YtgkgpjbbmnfnmaaGreatDoor
open Go.RowKit
set_option linter.unusedSimpArgs false
set_option linter.unusedVariables false

/-- A suffixed expression so far: it lies in the result's box. -/
structure Sx (w : World) (c : Nat) (V : Env) (q : Nat) (n : Tr) (cs : List Value) (X : World) : Prop where
 kept : Kept (fun b => b = c) w X
 ps : Ps X c V q
 box : X.heap[w.heap.size]? = some (nb cs)
 node : NodeIs (fun b => b ≤ w.heap.size) X n cs
theorem Sx.no {w X X' : World} {c q : Nat} {V : Env} {n : Tr} {cs : List Value} (h : Sx w c V q n cs X) (hk : Kept No X X') : Sx w c V q n cs X' :=
 ⟨h.kept.trans hk.no, h.ps.no hk, hk.heap h.box id, NodeIs.kept hk.no _ _ h.node⟩
theorem Sx.go {w X X' : World} {c q q' : Nat} {V : Env} {n : Tr} {cs : List Value} (h : Sx w c V q n cs X) (hc : c < w.heap.size) (hk : Kept (fun b => b = c) X X') (hp : Ps X' c V q') : Sx w c V q' n cs X' :=
 ⟨h.kept.trans hk, hp, hk.heap h.box (show ¬ w.heap.size = c by omega), NodeIs.kept (hk.mono (fun b (hb : b = c) => by show b ≤ _; omega)) _ _ h.node⟩
theorem len7 {cs : List Value} (h : cs.length = 7) : ∃ c0 c1 c2 c3 c4 c5 c6, cs = [c0, c1, c2, c3, c4, c5, c6] := by
 rcases cs with _ | ⟨c0, cs⟩
 ·simp at h
 rcases cs with _ | ⟨c1, cs⟩
 ·simp at h
 rcases cs with _ | ⟨c2, cs⟩
 ·simp at h
 rcases cs with _ | ⟨c3, cs⟩
 ·simp at h
 rcases cs with _ | ⟨c4, cs⟩
 ·simp at h
 rcases cs with _ | ⟨c5, cs⟩
 ·simp at h
 rcases cs with _ | ⟨c6, cs⟩
 ·simp at h
 rcases cs with _ | ⟨c7, cs⟩
 ·exact ⟨_, _, _, _, _, _, _, rfl⟩
 ·simp at h
/-- Another tree is put into the box. -/
theorem Sx.put {w X X' : World} {c q : Nat} {V : Env} {l : List Tr} {cs : List Value} {k : Int} {t : ByteArray} {vt vn m a : Int} {sv : Value} (hc : c < w.heap.size) (hk : Kept (fun b => b = c) w X) (hp : Ps X c V q) (hb : X.heap[w.heap.size]? = some (nb cs)) (h7 : cs.length = 7) (hl : ListIs (fun b => b ≤ w.heap.size) X l sv)
  (hX : X' = ((((((X.setCell ⟨w.heap.size, 0, none⟩ (.int .i64 k)).setCell ⟨w.heap.size, 1, none⟩ (.string t)).setCell ⟨w.heap.size, 2, none⟩ (.int .i64 vt)).setCell ⟨w.heap.size, 3, none⟩ (.int .i64 vn)).setCell ⟨w.heap.size, 4, none⟩ (.int .i64 m)).setCell ⟨w.heap.size, 5, none⟩ sv).setCell ⟨w.heap.size, 6, none⟩ (.int .i64 a)) :
  Sx w c V q (.mk k t vt vn m l a) (ncs k t vt vn m sv a) X' := by
 subst hX
 have ks : Kept (fun b => b = w.heap.size) X (((((((X.setCell ⟨w.heap.size, 0, none⟩ (.int .i64 k)).setCell ⟨w.heap.size, 1, none⟩ (.string t)).setCell ⟨w.heap.size, 2, none⟩ (.int .i64 vt)).setCell ⟨w.heap.size, 3, none⟩ (.int .i64 vn)).setCell ⟨w.heap.size, 4, none⟩ (.int .i64 m)).setCell ⟨w.heap.size, 5, none⟩ sv).setCell ⟨w.heap.size, 6, none⟩ (.int .i64 a)) := by
  repeat refine Kept.set ?_ _ _ _ (Or.inl rfl)
  exact Kept.refl _ _
 refine ⟨hk.trans' ks (fun i e => .inr (by omega)), hp.low (fun j hj => ks.block j (Nat.lt_of_le_of_lt hj hp.lt) (by omega)), ?_, NodeIs.cs.2 ⟨_, rfl, ListIs.kept (ks.mono (fun b (hb : b = w.heap.size) => by show b ≤ _; omega)) hl⟩⟩
 have := set_same (set_same (set_same (set_same (set_same (set_same (set_same hb 0 (.int .i64 k)) 1 (.string t)) 2 (.int .i64 vt)) 3 (.int .i64 vn)) 4 (.int .i64 m)) 5 sv) 6 (.int .i64 a)
 rw [this]
 obtain ⟨c0, c1, c2, c3, c4, c5, c6, rfl⟩ := len7 h7
 rfl
/-- A list has no more trees than it has tokens. -/
theorem sep_le {V : Env} {f : Nat → PR Tr} (hf : Gos V f) : ∀ n p l q, V.sep f n p = .ok (l, q) → p + l.length ≤ q
 | 0, p, l, q, h => by
  unfold Env.sep at h
  cases hx : f p with
  | error e => rw [hx] at h; cases h
  | ok y =>
   obtain ⟨x, r⟩ := y
   rw [hx] at h
   cases h
   have := (hf _ _ _ hx).1
   simp; omega
 | n + 1, p, l, q, h => by
  unfold Env.sep at h
  cases hx : f p with
  | error e => rw [hx] at h; cases h
  | ok y =>
   obtain ⟨x, r⟩ := y
   rw [hx] at h
   have h1 := (hf _ _ _ hx).1
   dsimp only at h
   split at h
   ·cases hs : V.sep f n (r + 1) with
    | error e => rw [hs] at h; cases h
    | ok z =>
     obtain ⟨m, s⟩ := z
     rw [hs] at h
     cases h
     have := sep_le hf n _ _ _ hs
     simp; omega
   ·cases h
    simp; omega
theorem list_more {S : Nat → Prop} {w : World} {l : List Tr} {sv : Value} (h : ListIs S w l sv) : ListIs (fun b => S b ∨ w.heap.size ≤ b) w l sv := by
 rcases h with h | ⟨b, o, cap, h1, h2, h3, h4⟩
 ·exact .inl h
 ·exact .inr ⟨b, o, cap, h1, fun e => e.elim h2 (fun e => by omega), h3, RowAt.more b o l 0 h4⟩
theorem args_le {V : Env} {G : Lev} (hG : LevGo V G) (p : Nat) (l : List Tr) (q : Nat) (h : argsE V G p = .ok (l, q)) : l.length ≤ V.L.length := by
 have hq := (argsE_go hG _ _ _ h).2
 unfold argsE at h
 split at h
 ·cases h; simp
 ·cases hx : listE V G p with
  | error e => rw [hx] at h; cases h
  | ok y =>
   obtain ⟨m, r⟩ := y
   rw [hx] at h
   have h1 := sep_le (hG.above 0) _ _ _ _ hx
   have h2 := (listE_go hG _ _ _ hx).2
   dsimp only at h
   cases hn : V.need [41] r with
   | error e => rw [hn] at h; cases h
   | ok z =>
    obtain ⟨u, s⟩ := z
    rw [hn] at h
    cases h
    omega
end Go.Proofs.YtgkgpjbbmnfnmaaGreatDoor

/- suffixed: the walk. -/
namespace Go.Proofs.YtgkgpjbbmnfnmaaGreatDoor
open Go.RowKit
set_option linter.unusedSimpArgs false
set_option linter.unusedVariables false

set_option maxRecDepth 20000 in
set_option maxHeartbeats 16000000 in
theorem suffixed_any {w : World} {c : Nat} {V : Env} {p : Nat} {G : Lev} {l : Nat} (hG : LevIs V G (l + 1)) (hl : l ≤ 40) (h : Ps w c V p) :
  Calls Tryz.prog 169 #[.pointer (some ⟨c, 0, none⟩), .int .i64 (l : Int)] w (PResB c V w (suffE V G p)) := by
 obtain ⟨W0, HW0⟩ : ∃ W0, Hid (w.alloc (nb nz) = W0) := ⟨_, show _ = _ from rfl⟩
 have HS00 : Hid (Sx w c V p (.mk 0 ⟨#[]⟩ 0 0 0 [] 0) nz W0) := by
  have ka : Kept No w W0 := by rw [← HW0.out]; exact (Kept.refl No w).alloc _
  exact ⟨ka.no, h.no ka, by rw [← HW0.out]; exact World.alloc_heap_new w _, leaf_is _ _ _ _ _ _ _ _⟩
 have hcl := h.lt
 have hlen := h.len
 have hple := h.le
 obtain ⟨ap, Hap⟩ : ∃ ap, Hid (V.at p = ap) := ⟨_, show _ = _ from rfl⟩
 have HBg : Hid _ := begin_ok HS00.out.ps l hl
 rw [Hap.out] at HBg
 have HSt : Hid (∀ {w' : World}, Ps w' c V p → Calls Tryz.prog 189 #[.pointer (some ⟨c, 0, none⟩), .int .i64 (l : Int)] w' (PRes c V w' (stemE V G p))) := fun hq => stem_any hG hq
 have HEx : Hid (∀ {w' : World} {q : Nat}, Ps w' c V q → Calls Tryz.prog 163 #[.pointer (some ⟨c, 0, none⟩), .int .i64 ((l : Int) + 1)] w' (PRes c V w' (G.above 0 q))) := fun hq => by
  have := expr_any hG hq
  rw [show ((l + 1 : Nat) : Int) = (l : Int) + 1 by omega] at this
  exact this
 have HAr : Hid (∀ {w' : World} {q : Nat}, Ps w' c V q → Calls Tryz.prog 191 #[.pointer (some ⟨c, 0, none⟩), .int .i64 ((l : Int) + 1)] w' (PResL c V w' (argsE V G q))) := fun hq => by
  have := args_any hG hq
  rw [show ((l + 1 : Nat) : Int) = (l : Int) + 1 by omega] at this
  exact this
 have HGa : Hid (Gos V (G.above 0)) := hG.go.above 0
 have HGr : Hid (Gos V (argsE V G)) := argsE_go hG.go
 have HGs : Hid (Gos V (stemE V G)) := stemE_go hG.go
 have HLf : Hid (∀ p l q, argsE V G p = .ok (l, q) → l.length ≤ V.L.length) := fun p l q h => args_le hG.go p l q h
 obtain ⟨RR, HRd0⟩ : ∃ RR, Hid (suffE V G p = RR) := ⟨_, show _ = _ from rfl⟩
 rw [HRd0.out]
 have u1 : IntKind.i64.wrap ((l : Int) + 1) = (l : Int) + 1 := by rw [IntKind.wrap_i64]; omega
 unfold nb nz ncs at HW0
 clear h hG
 go_enter Tryz.func169, Tryz.ntmps169
 go_wp2_with fail
 rw [HW0.out]
 refine Calls.mono HBg.out ?_
 rintro r W1 ⟨rfl, hk1⟩
 have HS01 : Hid (Sx w c V p (.mk 0 ⟨#[]⟩ 0 0 0 [] 0) nz W1) := HS00.out.no hk1
 have HIs : Hid _ := is_any HS01.out.ps ⟨#[40]⟩
 clear hk1 HBg HS00 HW0
 go_wp2_with fail
 refine Calls.mono HIs.out ?_
 rintro r W2 ⟨rfl, hk2⟩
 have HS02 : Hid (Sx w c V p (.mk 0 ⟨#[]⟩ 0 0 0 [] 0) nz W2) := HS01.out.no hk2
 have HEs : Hid _ := HSt.out HS02.out.ps
 clear hk2 HIs HS01 HSt
 go_wp2_with fail
 cases hst : stemE V G p with
 | error e =>
  obtain ⟨ea, ex⟩ := e
  rw [hst] at HEs
  have HRe : Hid (RR = .error (ea, ex)) := by show _ = _; rw [← HRd0.out]; unfold suffE; rw [hst]
  clear hst HRd0
  refine Calls.mono HEs.out ?_
  rintro r W3 ⟨hk3, rfl⟩
  have HF : Hid (Kept (fun b => b = c) w W3) := HS02.out.kept.trans hk3
  clear hk3 HEs HS02
  go_wp2_with fail
  refine ⟨rfl, ?_⟩
  show PResB c V w RR _ _
  rw [HRe.out]
  exact ⟨HF.out, rfl⟩
 | ok y =>
  obtain ⟨⟨nk, nt, nvt, nvn, nn, nl, na⟩, q⟩ := y
  have hgo := HGs.out _ _ _ hst
  rw [hst] at HEs
  have HRf0 : Hid (RR = sufs V G ap (V.L.length + 1) (.mk nk nt nvt nvn nn nl na) (V.is [40] p) q) := by show _ = _; rw [← HRd0.out]; unfold suffE; rw [hst, ← Hap.out]
  clear hst HRd0 HGs
  refine Calls.mono HEs.out ?_
  rintro r W3 ⟨hk3, ⟨cs, rfl, hn⟩, hp3⟩
  obtain ⟨sv, rfl, hls⟩ := NodeIs.cs.1 hn
  obtain ⟨no, nln, nc, rfl⟩ := slice_of hls
  have hb3 := hk3.heap HS02.out.box (show ¬ w.heap.size = c by omega)
  obtain ⟨g0, g1, g2, g3, g4, g5, g6⟩ := nb_cells hb3
  have gf := fun o => nb_frozen hb3 o
  have HS4 : Hid (Sx w c V q (.mk nk nt nvt nvn nn nl na) (ncs nk nt nvt nvn nn (.slice no nln nc) na) _) := Sx.put hcl (HS02.out.kept.trans hk3) hp3 hb3 rfl (ListIs.mono (fun b (hb : b ≤ w.heap.size) => by have := hp_lt HS02.out.box; show b < _; omega) hls) rfl
  clear hk3 hn hp3 hls hb3 HEs HS02
  unfold ncs
  go_wp2_with fail
  generalize ((((((W3.setCell ⟨w.heap.size, 0, none⟩ (.int .i64 nk)).setCell ⟨w.heap.size, 1, none⟩ (.string nt)).setCell ⟨w.heap.size, 2, none⟩ (.int .i64 nvt)).setCell ⟨w.heap.size, 3, none⟩ (.int .i64 nvn)).setCell ⟨w.heap.size, 4, none⟩ (.int .i64 nn)).setCell ⟨w.heap.size, 5, none⟩ (.slice no nln nc)).setCell ⟨w.heap.size, 6, none⟩ (.int .i64 na) = W4 at HS4 ⊢
  clear g0 g1 g2 g3 g4 g5 g6 gf
  go_loopw [5, 17, 18, 19, 20, 21, 22, 23, 24, 25, 26, 27, 28, 29, 30, 31, 32, 33, 34, 35, 36, 37, 38, 39, 40, 41, 42, 43, 44, 45, 46, 47, 48, 49, 50, 51, 52, 53, 54, 55, 56, 57, 58] (fun g _ _ _ _ _ _ _ _ _ _ _ _ _ _ _ _ _ _ _ _ _ _ _ _ _ _ _ _ _ _ _ _ _ _ _ _ _ _ _ _ _ _ wr => ∃ (n : Tr) (cs : List Value) (gb : Bool) (q f : Nat), g = .bool gb ∧ q ≤ V.L.length ∧ V.L.length + 1 ≤ q + f ∧ Hid (RR = sufs V G ap f n gb q) ∧ Hid (Sx w c V q n cs wr)) (fun g _ _ _ _ _ _ _ _ _ _ _ _ _ _ _ _ _ _ _ _ _ _ _ _ _ _ _ _ _ _ _ _ _ _ _ _ _ _ _ _ _ _ wr => V.L.length - pos c wr)
  case atStart => exact ⟨_, _, _, q, V.L.length + 1, rfl, hgo.2, by omega, HRf0.out, HS4.out⟩
  case round =>
   clear HS4 HRf0 hgo
   obtain ⟨n, cs, gb, q, f, rfl, hq, hf, HRf, HS0⟩ := hrel
   obtain ⟨f, rfl⟩ : ∃ f', f = f' + 1 := ⟨f - 1, by omega⟩
   obtain ⟨nk, nt, nvt, nvn, nn, nl, na⟩ := n
   obtain ⟨sv, rfl, hls⟩ := NodeIs.cs.1 HS0.out.node
   obtain ⟨no, nln, nc, rfl⟩ := slice_of hls
   clear hls
   have hpos := HS0.out.ps.pos
   cases hb46 : V.is [46] q with
   | true =>
    have HTo : Hid (Calls Tryz.prog 98 #[.pointer (some ⟨c, 0, none⟩), .string ⟨#[46]⟩] wr fun r w' => r = .returned (.bool true) ∧ Kept (fun b => b = c) wr w' ∧ Ps w' c V (q + 1)) := by
     have := took_any HS0.out.ps ⟨#[46]⟩ (by decide)
     rw [show V.is (⟨#[46]⟩ : ByteArray).data.toList q = true from hb46, if_pos rfl] at this
     exact this
    have hqL := is_lt hb46 (by decide)
    go_wp2_with fail
    refine Calls.mono HTo.out ?_
    rintro r X1 ⟨rfl, hk1, hp1⟩
    have HS1 : Hid (Sx w c V (q + 1) (.mk nk nt nvt nvn nn nl na) (ncs nk nt nvt nvn nn (.slice no nln nc) na) X1) := HS0.out.go hcl hk1 hp1
    clear hk1 hp1 HTo HS0
    have HRc : Hid (RR = match V.key (q + 1) with | .error e => .error e | .ok (k, r) => sufs V G ap f (nd 10 [.mk nk nt nvt nvn nn nl na, k] ap) false r) := by show _ = _; rw [HRf.out, sufs, hb46]; rfl
    clear HRf hb46
    go_wp2_with fail
    refine regionU (fun X => X.heap[w.heap.size]? = some (nb (ncs nk nt nvt nvn nn (.slice no nln nc) na))) 6 (show X1.drew.heap[_]? = _ from HS1.out.box) (fun hSS => ?_)
    have HS2 : Hid (Sx w c V (q + 1) (.mk nk nt nvt nvn nn nl na) (ncs nk nt nvt nvn nn (.slice no nln nc) na) X1.drew) := HS1.out.no (Kept.refl No X1).drew
    generalize X1.drew = X2 at HS2 hSS ⊢
    clear HS1
    have HEc : Hid _ := key_any HS2.out.ps
    have HGf : Hid (Gos V V.key) := key_go
    refine tkU 0 (.int .i64 ap) rfl hSS ?_
    try simp only [sm]
    refine tkU 1 (.agg #[.int .i64 nk, .string nt, .int .i64 nvt, .int .i64 nvn, .int .i64 nn, .slice no nln nc, .int .i64 na]) rfl hSS ?_ (hy := fun w2 hw2 => by obtain ⟨g0, g1, g2, g3, g4, g5, g6⟩ := nb_cells hw2; go_simp)
    try simp only [sm]
    refine tkU 2 (.pointer (some ⟨c, 0, none⟩)) rfl hSS ?_
    try simp only [sm]
    refine rdU 3 rfl (fun K hK => ?_)
    go_simp
    cases hfn : V.key (q + 1) with
    | error e =>
     obtain ⟨ea, ex⟩ := e
     rw [hfn] at HEc
     have HRe : Hid (RR = .error (ea, ex)) := by show _ = _; rw [HRc.out, hfn]
     clear hfn HRc
     refine Calls.mono HEc.out ?_
     rintro r X3 ⟨hk3, rfl⟩
     have HF : Hid (Kept (fun b => b = c) w X3) := HS2.out.kept.trans hk3
     clear hk3 HEc HS2
     try go_wp2_with fail
     refine ⟨rfl, ?_⟩
     show PResB c V w RR _ _
     rw [HRe.out]
     exact ⟨HF.out, rfl⟩
    | ok z =>
     obtain ⟨⟨yk, yt, yvt, yvn, yn, yl, ya⟩, q'⟩ := z
     have hgo := HGf.out _ _ _ hfn
     rw [hfn] at HEc
     have HRd : Hid (RR = sufs V G ap f (nd 10 [.mk nk nt nvt nvn nn nl na, .mk yk yt yvt yvn yn yl ya] ap) false q') := by show _ = _; rw [HRc.out, hfn]
     clear hfn HRc
     refine Calls.mono HEc.out ?_
     rintro r X3 ⟨hk3, ⟨ds, rfl, hy⟩, hp3⟩
     obtain ⟨sv, rfl, hls⟩ := NodeIs.cs.1 hy
     obtain ⟨yo, yln, yc, rfl⟩ := slice_of hls
     have HS3 : Hid (Sx w c V q' (.mk nk nt nvt nvn nn nl na) (ncs nk nt nvt nvn nn (.slice no nln nc) na) X3) := HS2.out.go hcl hk3 hp3
     have HY3 : Hid (NodeIs (fun b => b ≤ w.heap.size) X3 (.mk yk yt yvt yvn yn yl ya) (ncs yk yt yvt yvn yn (.slice yo yln yc) ya)) := NodeIs.mono (fun b (hb : b ≤ w.heap.size) => by have := hp_lt HS2.out.box; show b < _; omega) _ _ hy
     clear hk3 hy hp3 hls HEc HS2
     unfold ncs
     refine hK.out _ _ (fun _ => HS3.out.box) ?_
     clear hK K
     try simp only [sm]
     refine rdU 4 rfl (fun K hK => ?_)
     go_simp
     refine hK.out _ _ (fun _ => ((Kept.refl No X3).alloc _).heap HS3.out.box id) ?_
     clear hK K
     have HX5 : Hid _ := pair_list HS3.out.node HY3.out (show ¬ X3.heap.size ≤ w.heap.size by have := hp_lt HS3.out.box; omega)
     have hka : Kept No X3 (X3.alloc (nb (ncs nk nt nvt nvn nn (.slice no nln nc) na ++ ncs yk yt yvt yvn yn (.slice yo yln yc) ya))) := (Kept.refl No X3).alloc _
     have HK5 : Hid _ := HS3.out.kept.trans hka.no
     have HP5 : Hid _ := HS3.out.ps.no hka
     have HB5 : Hid _ := hka.heap HS3.out.box id
     have HL5 : Hid _ := HX5.out
     unfold nb ncs at HX5
     clear hka HS3 HY3
     obtain ⟨rb, hrb⟩ : ∃ rb, X3.heap.size = rb := ⟨_, rfl⟩
     rw [hrb] at HL5 ⊢
     clear hrb HX5
     obtain ⟨X5, hX5⟩ : ∃ X5, X3.alloc (nb (ncs nk nt nvt nvn nn (.slice no nln nc) na ++ ncs yk yt yvt yvn yn (.slice yo yln yc) ya)) = X5 := ⟨_, rfl⟩
     rw [hX5] at HK5 HP5 HB5 HL5
     unfold nb ncs at hX5
     simp only [List.cons_append, List.nil_append] at hX5
     rw [hX5]
     clear hX5
     try simp only [sm]
     have hSS := HB5.out
     refine tkU 5 (.agg #[.int .i64 10, .string ⟨#[]⟩, .int .i64 0, .int .i64 0, .int .i64 0, .slice (some ⟨rb, 0, none⟩) 2 2, .int .i64 ap]) rfl hSS ?_
     try simp only [sm]
     refine rdU 6 rfl (fun K hK => ?_)
     obtain ⟨g0, g1, g2, g3, g4, g5, g6⟩ := nb_cells HB5.out
     have gf := fun o => nb_frozen HB5.out o
     go_simp
     try go_wp2_with fail
     refine hK.out _ _ (fun e => absurd rfl e) ?_
     clear hK K g0 g1 g2 g3 g4 g5 g6 gf
     have HS6 : Hid (Sx w c V q' (nd 10 [.mk nk nt nvt nvn nn nl na, .mk yk yt yvt yvn yn yl ya] ap) (ncs 10 ⟨#[]⟩ 0 0 0 (.slice (some ⟨rb, 0, none⟩) 2 2) ap) _) := Sx.put hcl HK5.out HP5.out HB5.out rfl HL5.out rfl
     generalize ((((((X5.setCell ⟨w.heap.size, 0, none⟩ (.int .i64 10)).setCell ⟨w.heap.size, 1, none⟩ (.string ⟨#[]⟩)).setCell ⟨w.heap.size, 2, none⟩ (.int .i64 0)).setCell ⟨w.heap.size, 3, none⟩ (.int .i64 0)).setCell ⟨w.heap.size, 4, none⟩ (.int .i64 0)).setCell ⟨w.heap.size, 5, none⟩ (.slice (some ⟨rb, 0, none⟩) 2 2)).setCell ⟨w.heap.size, 6, none⟩ (.int .i64 ap) = X6 at HS6 ⊢
     clear HK5 HP5 HB5 HL5
     try simp only [sm]
     refine dnU ?_ (by kernel_rfl) _
     go_wp2_with fail
     go_roundw
     case rel => exact ⟨_, _, false, q', f, rfl, hgo.2, by omega, HRd.out, HS6.out⟩
     case measure => rw [hpos, HS6.out.ps.pos]; omega
   | false =>
    have HTo : Hid (Calls Tryz.prog 98 #[.pointer (some ⟨c, 0, none⟩), .string ⟨#[46]⟩] wr fun r w' => r = .returned (.bool false) ∧ Kept (fun b => b = c) wr w' ∧ Ps w' c V q) := by
     have := took_any HS0.out.ps ⟨#[46]⟩ (by decide)
     rw [show V.is (⟨#[46]⟩ : ByteArray).data.toList q = false from hb46, if_neg (by decide)] at this
     exact this
    go_wp2_with fail
    refine Calls.mono HTo.out ?_
    rintro r Xb ⟨rfl, hk1, hp1⟩
    have HSb : Hid (Sx w c V q (.mk nk nt nvt nvn nn nl na) (ncs nk nt nvt nvn nn (.slice no nln nc) na) Xb) := HS0.out.go hcl hk1 hp1
    clear hk1 hp1 HTo HS0
    cases hb91 : V.is [91] q with
    | true =>
     have HTo : Hid (Calls Tryz.prog 98 #[.pointer (some ⟨c, 0, none⟩), .string ⟨#[91]⟩] Xb fun r w' => r = .returned (.bool true) ∧ Kept (fun b => b = c) Xb w' ∧ Ps w' c V (q + 1)) := by
      have := took_any HSb.out.ps ⟨#[91]⟩ (by decide)
      rw [show V.is (⟨#[91]⟩ : ByteArray).data.toList q = true from hb91, if_pos rfl] at this
      exact this
     have hqL := is_lt hb91 (by decide)
     go_wp2_with fail
     refine Calls.mono HTo.out ?_
     rintro r X1 ⟨rfl, hk1, hp1⟩
     have HS1 : Hid (Sx w c V (q + 1) (.mk nk nt nvt nvn nn nl na) (ncs nk nt nvt nvn nn (.slice no nln nc) na) X1) := HSb.out.go hcl hk1 hp1
     clear hk1 hp1 HTo HSb
     have HRc : Hid (RR = match G.above 0 (q + 1) with | .error e => .error e | .ok (k, r) => (match V.need [93] r with | .error e => .error e | .ok (_, r) => sufs V G ap f (nd 10 [.mk nk nt nvt nvn nn nl na, k] ap) false r)) := by show _ = _; rw [HRf.out, sufs, hb46, hb91]; rfl
     clear HRf hb46 hb91
     go_wp2_with fail
     refine regionU (fun X => X.heap[w.heap.size]? = some (nb (ncs nk nt nvt nvn nn (.slice no nln nc) na))) 8 (show X1.drew.heap[_]? = _ from HS1.out.box) (fun hSS => ?_)
     have HS2 : Hid (Sx w c V (q + 1) (.mk nk nt nvt nvn nn nl na) (ncs nk nt nvt nvn nn (.slice no nln nc) na) X1.drew) := HS1.out.no (Kept.refl No X1).drew
     generalize X1.drew = X2 at HS2 hSS ⊢
     clear HS1
     have HEc : Hid _ := HEx.out HS2.out.ps
     have HGf : Hid (Gos V (G.above 0)) := HGa.out
     refine tkU 0 (.int .i64 ap) rfl hSS ?_
     try simp only [sm]
     refine tkU 1 (.agg #[.int .i64 nk, .string nt, .int .i64 nvt, .int .i64 nvn, .int .i64 nn, .slice no nln nc, .int .i64 na]) rfl hSS ?_ (hy := fun w2 hw2 => by obtain ⟨g0, g1, g2, g3, g4, g5, g6⟩ := nb_cells hw2; go_simp)
     try simp only [sm]
     refine tkU 2 (.pointer (some ⟨c, 0, none⟩)) rfl hSS ?_
     try simp only [sm]
     refine tkU 3 (.int .i64 (l : Int)) rfl hSS ?_
     try simp only [sm]
     refine tkU 4 (.int .i64 ((l : Int) + 1)) rfl hSS ?_
     try simp only [sm]
     refine rdU 5 rfl (fun K hK => ?_)
     go_simp
     cases hfn : G.above 0 (q + 1) with
     | error e =>
      obtain ⟨ea, ex⟩ := e
      rw [hfn] at HEc
      have HRe : Hid (RR = .error (ea, ex)) := by show _ = _; rw [HRc.out, hfn]
      clear hfn HRc
      refine Calls.mono HEc.out ?_
      rintro r X3 ⟨hk3, rfl⟩
      have HF : Hid (Kept (fun b => b = c) w X3) := HS2.out.kept.trans hk3
      clear hk3 HEc HS2
      try go_wp2_with fail
      refine ⟨rfl, ?_⟩
      show PResB c V w RR _ _
      rw [HRe.out]
      exact ⟨HF.out, rfl⟩
     | ok z =>
      obtain ⟨⟨yk, yt, yvt, yvn, yn, yl, ya⟩, q'⟩ := z
      have hgo := HGf.out _ _ _ hfn
      rw [hfn] at HEc
      have HRd : Hid (RR = match V.need [93] q' with | .error e => .error e | .ok (_, r) => sufs V G ap f (nd 10 [.mk nk nt nvt nvn nn nl na, .mk yk yt yvt yvn yn yl ya] ap) false r) := by show _ = _; rw [HRc.out, hfn]
      clear hfn HRc
      refine Calls.mono HEc.out ?_
      rintro r X3 ⟨hk3, ⟨ds, rfl, hy⟩, hp3⟩
      obtain ⟨sv, rfl, hls⟩ := NodeIs.cs.1 hy
      obtain ⟨yo, yln, yc, rfl⟩ := slice_of hls
      have HS3 : Hid (Sx w c V q' (.mk nk nt nvt nvn nn nl na) (ncs nk nt nvt nvn nn (.slice no nln nc) na) X3) := HS2.out.go hcl hk3 hp3
      have HY3 : Hid (NodeIs (fun b => b ≤ w.heap.size) X3 (.mk yk yt yvt yvn yn yl ya) (ncs yk yt yvt yvn yn (.slice yo yln yc) ya)) := NodeIs.mono (fun b (hb : b ≤ w.heap.size) => by have := hp_lt HS2.out.box; show b < _; omega) _ _ hy
      clear hk3 hy hp3 hls HEc HS2
      unfold ncs
      refine hK.out _ _ (fun _ => HS3.out.box) ?_
      clear hK K
      try simp only [sm]
      refine rdU 6 rfl (fun K hK => ?_)
      go_simp
      refine hK.out _ _ (fun _ => ((Kept.refl No X3).alloc _).heap HS3.out.box id) ?_
      clear hK K
      have HX5 : Hid _ := pair_list HS3.out.node HY3.out (show ¬ X3.heap.size ≤ w.heap.size by have := hp_lt HS3.out.box; omega)
      have hka : Kept No X3 (X3.alloc (nb (ncs nk nt nvt nvn nn (.slice no nln nc) na ++ ncs yk yt yvt yvn yn (.slice yo yln yc) ya))) := (Kept.refl No X3).alloc _
      have HK5 : Hid _ := HS3.out.kept.trans hka.no
      have HP5 : Hid _ := HS3.out.ps.no hka
      have HB5 : Hid _ := hka.heap HS3.out.box id
      have HL5 : Hid _ := HX5.out
      unfold nb ncs at HX5
      clear hka HS3 HY3
      obtain ⟨rb, hrb⟩ : ∃ rb, X3.heap.size = rb := ⟨_, rfl⟩
      rw [hrb] at HL5 ⊢
      clear hrb HX5
      obtain ⟨X5, hX5⟩ : ∃ X5, X3.alloc (nb (ncs nk nt nvt nvn nn (.slice no nln nc) na ++ ncs yk yt yvt yvn yn (.slice yo yln yc) ya)) = X5 := ⟨_, rfl⟩
      rw [hX5] at HK5 HP5 HB5 HL5
      unfold nb ncs at hX5
      simp only [List.cons_append, List.nil_append] at hX5
      rw [hX5]
      clear hX5
      try simp only [sm]
      have hSS := HB5.out
      refine tkU 7 (.agg #[.int .i64 10, .string ⟨#[]⟩, .int .i64 0, .int .i64 0, .int .i64 0, .slice (some ⟨rb, 0, none⟩) 2 2, .int .i64 ap]) rfl hSS ?_
      try simp only [sm]
      refine rdU 8 rfl (fun K hK => ?_)
      obtain ⟨g0, g1, g2, g3, g4, g5, g6⟩ := nb_cells HB5.out
      have gf := fun o => nb_frozen HB5.out o
      go_simp
      try go_wp2_with fail
      refine hK.out _ _ (fun e => absurd rfl e) ?_
      clear hK K g0 g1 g2 g3 g4 g5 g6 gf
      have HS6 : Hid (Sx w c V q' (nd 10 [.mk nk nt nvt nvn nn nl na, .mk yk yt yvt yvn yn yl ya] ap) (ncs 10 ⟨#[]⟩ 0 0 0 (.slice (some ⟨rb, 0, none⟩) 2 2) ap) _) := Sx.put hcl HK5.out HP5.out HB5.out rfl HL5.out rfl
      generalize ((((((X5.setCell ⟨w.heap.size, 0, none⟩ (.int .i64 10)).setCell ⟨w.heap.size, 1, none⟩ (.string ⟨#[]⟩)).setCell ⟨w.heap.size, 2, none⟩ (.int .i64 0)).setCell ⟨w.heap.size, 3, none⟩ (.int .i64 0)).setCell ⟨w.heap.size, 4, none⟩ (.int .i64 0)).setCell ⟨w.heap.size, 5, none⟩ (.slice (some ⟨rb, 0, none⟩) 2 2)).setCell ⟨w.heap.size, 6, none⟩ (.int .i64 ap) = X6 at HS6 ⊢
      clear HK5 HP5 HB5 HL5
      try simp only [sm]
      refine dnU ?_ (by kernel_rfl) _
      go_wp2_with fail
      cases hbn : V.is [93] q' with
      | false =>
       have HN : Hid (Calls Tryz.prog 166 #[.pointer (some ⟨c, 0, none⟩), .string ⟨#[93]⟩] X6 fun r w' => r = stopW (V.at q') 6 ∧ Kept (fun b => b = c) X6 w') := need_bad HS6.out.ps ⟨#[93]⟩ (by decide) hbn
       have HRe : Hid (RR = .error (V.at q', 6)) := by show _ = _; rw [HRd.out]; unfold Env.need Env.wrong; rw [hbn]; rfl
       refine Calls.mono HN.out ?_
       rintro r X9 ⟨rfl, hk9⟩
       have HF9 : Hid (Kept (fun b => b = c) w X9) := HS6.out.kept.trans hk9
       clear hk9 HN HS6 HRd
       go_wp2_with fail
       refine ⟨rfl, ?_⟩
       show PResB c V w RR _ _
       rw [HRe.out]
       exact ⟨HF9.out, rfl⟩
      | true =>
       have HN : Hid (Calls Tryz.prog 166 #[.pointer (some ⟨c, 0, none⟩), .string ⟨#[93]⟩] X6 fun r w' => r = .returned (.tuple #[]) ∧ Kept (fun b => b = c) X6 w' ∧ Ps w' c V (q' + 1)) := need_ok HS6.out.ps ⟨#[93]⟩ (by decide) hbn
       have hq2 := is_lt hbn (by decide)
       have HRe : Hid (RR = sufs V G ap f (nd 10 [.mk nk nt nvt nvn nn nl na, .mk yk yt yvt yvn yn yl ya] ap) false (q' + 1)) := by show _ = _; rw [HRd.out]; unfold Env.need; rw [hbn]; rfl
       refine Calls.mono HN.out ?_
       rintro r X9 ⟨rfl, hk9, hp9⟩
       have HS9 : Hid _ := HS6.out.go hcl hk9 hp9
       clear hk9 hp9 HN HS6 HRd
       go_wp2_with fail
       go_roundw
       case rel => exact ⟨_, _, false, q' + 1, f, rfl, by omega, by omega, HRe.out, HS9.out⟩
       case measure => rw [hpos, HS9.out.ps.pos]; omega
    | false =>
     have HTo : Hid (Calls Tryz.prog 98 #[.pointer (some ⟨c, 0, none⟩), .string ⟨#[91]⟩] Xb fun r w' => r = .returned (.bool false) ∧ Kept (fun b => b = c) Xb w' ∧ Ps w' c V q) := by
      have := took_any HSb.out.ps ⟨#[91]⟩ (by decide)
      rw [show V.is (⟨#[91]⟩ : ByteArray).data.toList q = false from hb91, if_neg (by decide)] at this
      exact this
     go_wp2_with fail
     refine Calls.mono HTo.out ?_
     rintro r Xc ⟨rfl, hk1, hp1⟩
     have HSc : Hid (Sx w c V q (.mk nk nt nvt nvn nn nl na) (ncs nk nt nvt nvn nn (.slice no nln nc) na) Xc) := HSb.out.go hcl hk1 hp1
     clear hk1 hp1 HTo HSb
     cases hb40 : V.is [40] q with
     | true =>
      have HTo : Hid (Calls Tryz.prog 98 #[.pointer (some ⟨c, 0, none⟩), .string ⟨#[40]⟩] Xc fun r w' => r = .returned (.bool true) ∧ Kept (fun b => b = c) Xc w' ∧ Ps w' c V (q + 1)) := by
       have := took_any HSc.out.ps ⟨#[40]⟩ (by decide)
       rw [show V.is (⟨#[40]⟩ : ByteArray).data.toList q = true from hb40, if_pos rfl] at this
       exact this
      have hqL := is_lt hb40 (by decide)
      go_wp2_with fail
      refine Calls.mono HTo.out ?_
      rintro r X1 ⟨rfl, hk1, hp1⟩
      have HS1 : Hid (Sx w c V (q + 1) (.mk nk nt nvt nvn nn nl na) (ncs nk nt nvt nvn nn (.slice no nln nc) na) X1) := HSc.out.go hcl hk1 hp1
      clear hk1 hp1 HTo HSc
      have HRc : Hid (RR = match argsE V G (q + 1) with | .error e => .error e | .ok (m, r) => sufs V G ap f (nd 11 (.mk nk nt nvt nvn nn nl na :: m) ap) false r) := by show _ = _; rw [HRf.out, sufs, hb46, hb91, hb40]; rfl
      clear HRf hb46 hb91 hb40
      go_wp2_with fail
      refine regionU (fun X => X.heap[w.heap.size]? = some (nb (ncs nk nt nvt nvn nn (.slice no nln nc) na))) 9 (show X1.drew.heap[_]? = _ from HS1.out.box) (fun hSS => ?_)
      have HS2 : Hid (Sx w c V (q + 1) (.mk nk nt nvt nvn nn nl na) (ncs nk nt nvt nvn nn (.slice no nln nc) na) X1.drew) := HS1.out.no (Kept.refl No X1).drew
      generalize X1.drew = X2 at HS2 hSS ⊢
      clear HS1
      refine tkU 0 (.int .i64 ap) rfl hSS ?_
      try simp only [sm]
      refine tkU 1 (.agg #[.int .i64 nk, .string nt, .int .i64 nvt, .int .i64 nvn, .int .i64 nn, .slice no nln nc, .int .i64 na]) rfl hSS ?_ (hy := fun w2 hw2 => by obtain ⟨g0, g1, g2, g3, g4, g5, g6⟩ := nb_cells hw2; go_simp)
      try simp only [sm]
      refine tkU 3 (.pointer (some ⟨c, 0, none⟩)) rfl hSS ?_
      try simp only [sm]
      refine tkU 4 (.int .i64 (l : Int)) rfl hSS ?_
      try simp only [sm]
      refine tkU 5 (.int .i64 ((l : Int) + 1)) rfl hSS ?_
      try simp only [sm]
      refine rdU2 2 6 rfl rfl (fun K hK => ?_) (fun K hK => ?_)
      ·go_simp
       refine hK.out _ _ (fun _ => ((Kept.refl No X2).alloc _).heap HS2.out.box id) ?_
       clear hK K
       have hz0 := hp_lt HS2.out.box
       have hka : Kept No X2 (X2.alloc (nb (ncs nk nt nvt nvn nn (.slice no nln nc) na))) := (Kept.refl No X2).alloc _
       have HBl : Hid (Bld (w.heap.size + 1) (X2.alloc (nb (ncs nk nt nvt nvn nn (.slice no nln nc) na))) (.slice (some ⟨X2.heap.size, 0, none⟩) 1 1) [.mk nk nt nvt nvn nn nl na]) := Bld.one (by omega) (NodeIs.mono (fun b (hb : b < w.heap.size + 1) => Nat.le_of_lt_succ hb) _ _ HS2.out.node)
       have HSr : Hid (Sx w c V (q + 1) (.mk nk nt nvt nvn nn nl na) (ncs nk nt nvt nvn nn (.slice no nln nc) na) (X2.alloc (nb (ncs nk nt nvt nvn nn (.slice no nln nc) na)))) := HS2.out.no hka
       have hrl : X2.heap.size < (X2.alloc (nb (ncs nk nt nvt nvn nn (.slice no nln nc) na))).heap.size := by simp
       obtain ⟨XR, hXR⟩ : ∃ XR, X2.alloc (nb (ncs nk nt nvt nvn nn (.slice no nln nc) na)) = XR := ⟨_, rfl⟩
       rw [hXR] at HBl HSr hrl 
       obtain ⟨rb, hrb⟩ : ∃ rb, X2.heap.size = rb := ⟨_, rfl⟩
       rw [hrb] at HBl hrl 
       try rw [hrb]
       unfold nb ncs at hXR
       rw [hXR]
       have Hrb : Hid (rb < XR.heap.size) := hrl
       clear hka hXR hrb hrl hz0 HS2
       try simp only [sm]
       have HS2 := HSr
       clear HSr
       have HEc : Hid _ := HAr.out HS2.out.ps
       refine rdU 6 rfl (fun K hK => ?_)
       go_simp
       cases hfn : argsE V G (q + 1) with
       | error e =>
        obtain ⟨ea, ex⟩ := e
        rw [hfn] at HEc
        have HRe : Hid (RR = .error (ea, ex)) := by show _ = _; rw [HRc.out, hfn]
        clear hfn HRc
        refine Calls.mono HEc.out ?_
        rintro r X3 ⟨hk3, rfl⟩
        have HF : Hid (Kept (fun b => b = c) w X3) := HS2.out.kept.trans hk3
        clear hk3 HEc HS2
        try go_wp2_with fail
        refine ⟨rfl, ?_⟩
        show PResB c V w RR _ _
        rw [HRe.out]
        exact ⟨HF.out, rfl⟩
       | ok z =>
        obtain ⟨ys, q'⟩ := z
        have hgo := HGr.out _ _ _ hfn
        have hysl := HLf.out _ _ _ hfn
        rw [hfn] at HEc
        have HRd : Hid (RR = sufs V G ap f (nd 11 (.mk nk nt nvt nvn nn nl na :: ys) ap) false q') := by show _ = _; rw [HRc.out, hfn]
        clear hfn HRc
        refine Calls.mono HEc.out ?_
        rintro r X3 ⟨hk3, ⟨sv, rfl, hls⟩, hp3⟩
        obtain ⟨yo, yln, yc, rfl⟩ := slice_of hls
        have HS3 : Hid (Sx w c V q' (.mk nk nt nvt nvn nn nl na) (ncs nk nt nvt nvn nn (.slice no nln nc) na) X3) := HS2.out.go hcl hk3 hp3
        have hB3 := HBl.out.go (show c < w.heap.size + 1 by omega) hk3
        have HA3 : Hid (ListIs (Out (w.heap.size + 1) (.slice (some ⟨rb, 0, none⟩) 1 1)) X3 ys (.slice yo yln yc)) := ListIs.mono (fun b hb => by
         have h0 := hp_lt HS2.out.box
         rcases hb with hb | hb
         ·show b < _; omega
         ·simp [Value.ownBlock] at hb; have := Hrb.out; show b < _; omega) hls
        have HB3 : Hid (Bld (w.heap.size + 1) X3 (.slice (some ⟨rb, 0, none⟩) 1 1) [.mk nk nt nvt nvn nn nl na]) := hB3
        clear hk3 hp3 hls HEc HS2 hB3 HBl
        try unfold ncs
        refine hK.out _ _ (fun _ => HS3.out.box) ?_
        clear hK K
        try simp only [sm]
        refine rdU 7 rfl (fun K hK => ?_)
        rw [if_pos (by rfl)]
        refine app_list _ _ rfl rfl rfl HB3.out HA3.out (by simp) (by omega) (by have := hp_lt HS3.out.box; omega) (fun v' X5 hB5 hg5 hv5 => ?_)
        obtain ⟨vo, vln, vc, rfl⟩ := hv5
        have hol := fun k e => HB3.out.own_lt k e
        have HK5 : Hid (Kept (fun b => b = c) w X5) := HS3.out.kept.grown hg5 (fun k e => .inr (by have := (hol k e).1; omega))
        have HP5 : Hid (Ps X5 c V q') := HS3.out.ps.low (fun k hk => hg5.block k (Nat.lt_of_le_of_lt hk HS3.out.ps.lt) (fun e => by have := (hol k e.symm).1; omega))
        have HB5 : Hid (X5.heap[w.heap.size]? = some (nb (ncs nk nt nvt nvn nn (.slice no nln nc) na))) := (hg5.block w.heap.size (hp_lt HS3.out.box) (fun e => by have := (hol w.heap.size e.symm).1; omega)).trans HS3.out.box
        have HL5 : Hid (ListIs (fun b => b ≤ w.heap.size) X5 (.mk nk nt nvt nvn nn nl na :: ys) (.slice vo vln vc)) := ListIs.mono (fun b (hb : b ≤ w.heap.size) => Nat.lt_succ_of_le hb) hB5.list
        refine hK.out _ _ (fun _ => HB5.out) ?_
        clear hK K hB5 hg5 hol HS3 HB3 HA3
        try simp only [sm]
        have hSS := HB5.out
        refine tkU 8 (.agg #[.int .i64 11, .string ⟨#[]⟩, .int .i64 0, .int .i64 0, .int .i64 0, .slice vo vln vc, .int .i64 ap]) rfl hSS ?_
        try simp only [sm]
        refine rdU 9 rfl (fun K hK => ?_)
        obtain ⟨g0, g1, g2, g3, g4, g5, g6⟩ := nb_cells HB5.out
        have gf := fun o => nb_frozen HB5.out o
        go_simp
        try go_wp2_with fail
        refine hK.out _ _ (fun e => absurd rfl e) ?_
        clear hK K g0 g1 g2 g3 g4 g5 g6 gf
        have HS6 : Hid (Sx w c V q' (nd 11 (.mk nk nt nvt nvn nn nl na :: ys) ap) (ncs 11 ⟨#[]⟩ 0 0 0 (.slice vo vln vc) ap) _) := Sx.put hcl HK5.out HP5.out HB5.out rfl HL5.out rfl
        generalize ((((((X5.setCell ⟨w.heap.size, 0, none⟩ (.int .i64 11)).setCell ⟨w.heap.size, 1, none⟩ (.string ⟨#[]⟩)).setCell ⟨w.heap.size, 2, none⟩ (.int .i64 0)).setCell ⟨w.heap.size, 3, none⟩ (.int .i64 0)).setCell ⟨w.heap.size, 4, none⟩ (.int .i64 0)).setCell ⟨w.heap.size, 5, none⟩ (.slice vo vln vc)).setCell ⟨w.heap.size, 6, none⟩ (.int .i64 ap) = X6 at HS6 ⊢
        clear HK5 HP5 HB5 HL5
        try simp only [sm]
        refine dnU ?_ (by kernel_rfl) _
        go_wp2_with fail
        go_roundw
        case rel => exact ⟨_, _, false, q', f, rfl, hgo.2, by omega, HRd.out, HS6.out⟩
        case measure => rw [hpos, HS6.out.ps.pos]; omega
      ·go_simp
       have HEc : Hid _ := HAr.out HS2.out.ps
       cases hfn : argsE V G (q + 1) with
       | error e =>
        obtain ⟨ea, ex⟩ := e
        rw [hfn] at HEc
        have HRe : Hid (RR = .error (ea, ex)) := by show _ = _; rw [HRc.out, hfn]
        clear hfn HRc
        refine Calls.mono HEc.out ?_
        rintro r X3 ⟨hk3, rfl⟩
        have HF : Hid (Kept (fun b => b = c) w X3) := HS2.out.kept.trans hk3
        clear hk3 HEc HS2
        try go_wp2_with fail
        refine ⟨rfl, ?_⟩
        show PResB c V w RR _ _
        rw [HRe.out]
        exact ⟨HF.out, rfl⟩
       | ok z =>
        obtain ⟨ys, q'⟩ := z
        have hgo := HGr.out _ _ _ hfn
        have hysl := HLf.out _ _ _ hfn
        rw [hfn] at HEc
        have HRd : Hid (RR = sufs V G ap f (nd 11 (.mk nk nt nvt nvn nn nl na :: ys) ap) false q') := by show _ = _; rw [HRc.out, hfn]
        clear hfn HRc
        refine Calls.mono HEc.out ?_
        rintro r X3 ⟨hk3, ⟨sv, rfl, hls⟩, hp3⟩
        obtain ⟨yo, yln, yc, rfl⟩ := slice_of hls
        have HS3 : Hid (Sx w c V q' (.mk nk nt nvt nvn nn nl na) (ncs nk nt nvt nvn nn (.slice no nln nc) na) X3) := HS2.out.go hcl hk3 hp3
        have HA3 : Hid (ListIs (fun b => b < w.heap.size + 1 ∨ X3.heap.size ≤ b) X3 ys (.slice yo yln yc)) := ListIs.mono (fun b hb => by
         have h0 := hp_lt HS2.out.box
         rcases hb with hb | hb
         ·exact .inl (by omega)
         ·exact .inr hb) (list_more hls)
        clear hk3 hp3 hls HEc HS2
        try unfold ncs
        refine hK.out _ _ (fun _ => HS3.out.box) ?_
        clear hK K
        try simp only [sm]
        refine rdU 2 rfl (fun K hK => ?_)
        go_simp
        refine hK.out _ _ (fun _ => ((Kept.refl No X3).alloc _).heap HS3.out.box id) ?_
        clear hK K
        have hz0 := hp_lt HS3.out.box
        have hka : Kept No X3 (X3.alloc (nb (ncs nk nt nvt nvn nn (.slice no nln nc) na))) := (Kept.refl No X3).alloc _
        have HBl : Hid (Bld (w.heap.size + 1) (X3.alloc (nb (ncs nk nt nvt nvn nn (.slice no nln nc) na))) (.slice (some ⟨X3.heap.size, 0, none⟩) 1 1) [.mk nk nt nvt nvn nn nl na]) := Bld.one (by omega) (NodeIs.mono (fun b (hb : b < w.heap.size + 1) => Nat.le_of_lt_succ hb) _ _ HS3.out.node)
        have HSr : Hid (Sx w c V q' (.mk nk nt nvt nvn nn nl na) (ncs nk nt nvt nvn nn (.slice no nln nc) na) (X3.alloc (nb (ncs nk nt nvt nvn nn (.slice no nln nc) na)))) := HS3.out.no hka
        have hrl : X3.heap.size < (X3.alloc (nb (ncs nk nt nvt nvn nn (.slice no nln nc) na))).heap.size := by simp
        have HA3' : Hid (ListIs (Out (w.heap.size + 1) (.slice (some ⟨X3.heap.size, 0, none⟩) 1 1)) (X3.alloc (nb (ncs nk nt nvt nvn nn (.slice no nln nc) na))) ys (.slice yo yln yc)) := ListIs.mono (fun b hb => by
         rcases hb with hb | hb
         ·exact .inl hb
         ·simp [Value.ownBlock] at hb; exact .inr (by omega)) (ListIs.kept hka.no HA3.out)
        clear HA3
        obtain ⟨XR, hXR⟩ : ∃ XR, X3.alloc (nb (ncs nk nt nvt nvn nn (.slice no nln nc) na)) = XR := ⟨_, rfl⟩
        rw [hXR] at HBl HSr hrl HA3'
        obtain ⟨rb, hrb⟩ : ∃ rb, X3.heap.size = rb := ⟨_, rfl⟩
        rw [hrb] at HBl hrl HA3'
        try rw [hrb]
        unfold nb ncs at hXR
        rw [hXR]
        have Hrb : Hid (rb < XR.heap.size) := hrl
        clear hka hXR hrb hrl hz0 HS3
        try simp only [sm]
        have HS3 := HSr
        have HB3 := HBl
        have HA3 := HA3'
        clear HSr HBl HA3'
        refine rdU 7 rfl (fun K hK => ?_)
        rw [if_pos (by rfl)]
        refine app_list _ _ rfl rfl rfl HB3.out HA3.out (by simp) (by omega) (by have := hp_lt HS3.out.box; omega) (fun v' X5 hB5 hg5 hv5 => ?_)
        obtain ⟨vo, vln, vc, rfl⟩ := hv5
        have hol := fun k e => HB3.out.own_lt k e
        have HK5 : Hid (Kept (fun b => b = c) w X5) := HS3.out.kept.grown hg5 (fun k e => .inr (by have := (hol k e).1; omega))
        have HP5 : Hid (Ps X5 c V q') := HS3.out.ps.low (fun k hk => hg5.block k (Nat.lt_of_le_of_lt hk HS3.out.ps.lt) (fun e => by have := (hol k e.symm).1; omega))
        have HB5 : Hid (X5.heap[w.heap.size]? = some (nb (ncs nk nt nvt nvn nn (.slice no nln nc) na))) := (hg5.block w.heap.size (hp_lt HS3.out.box) (fun e => by have := (hol w.heap.size e.symm).1; omega)).trans HS3.out.box
        have HL5 : Hid (ListIs (fun b => b ≤ w.heap.size) X5 (.mk nk nt nvt nvn nn nl na :: ys) (.slice vo vln vc)) := ListIs.mono (fun b (hb : b ≤ w.heap.size) => Nat.lt_succ_of_le hb) hB5.list
        refine hK.out _ _ (fun _ => HB5.out) ?_
        clear hK K hB5 hg5 hol HS3 HB3 HA3
        try simp only [sm]
        have hSS := HB5.out
        refine tkU 8 (.agg #[.int .i64 11, .string ⟨#[]⟩, .int .i64 0, .int .i64 0, .int .i64 0, .slice vo vln vc, .int .i64 ap]) rfl hSS ?_
        try simp only [sm]
        refine rdU 9 rfl (fun K hK => ?_)
        obtain ⟨g0, g1, g2, g3, g4, g5, g6⟩ := nb_cells HB5.out
        have gf := fun o => nb_frozen HB5.out o
        go_simp
        try go_wp2_with fail
        refine hK.out _ _ (fun e => absurd rfl e) ?_
        clear hK K g0 g1 g2 g3 g4 g5 g6 gf
        have HS6 : Hid (Sx w c V q' (nd 11 (.mk nk nt nvt nvn nn nl na :: ys) ap) (ncs 11 ⟨#[]⟩ 0 0 0 (.slice vo vln vc) ap) _) := Sx.put hcl HK5.out HP5.out HB5.out rfl HL5.out rfl
        generalize ((((((X5.setCell ⟨w.heap.size, 0, none⟩ (.int .i64 11)).setCell ⟨w.heap.size, 1, none⟩ (.string ⟨#[]⟩)).setCell ⟨w.heap.size, 2, none⟩ (.int .i64 0)).setCell ⟨w.heap.size, 3, none⟩ (.int .i64 0)).setCell ⟨w.heap.size, 4, none⟩ (.int .i64 0)).setCell ⟨w.heap.size, 5, none⟩ (.slice vo vln vc)).setCell ⟨w.heap.size, 6, none⟩ (.int .i64 ap) = X6 at HS6 ⊢
        clear HK5 HP5 HB5 HL5
        try simp only [sm]
        refine dnU ?_ (by kernel_rfl) _
        go_wp2_with fail
        go_roundw
        case rel => exact ⟨_, _, false, q', f, rfl, hgo.2, by omega, HRd.out, HS6.out⟩
        case measure => rw [hpos, HS6.out.ps.pos]; omega
     | false =>
      have HTo : Hid (Calls Tryz.prog 98 #[.pointer (some ⟨c, 0, none⟩), .string ⟨#[40]⟩] Xc fun r w' => r = .returned (.bool false) ∧ Kept (fun b => b = c) Xc w' ∧ Ps w' c V q) := by
       have := took_any HSc.out.ps ⟨#[40]⟩ (by decide)
       rw [show V.is (⟨#[40]⟩ : ByteArray).data.toList q = false from hb40, if_neg (by decide)] at this
       exact this
      go_wp2_with fail
      refine Calls.mono HTo.out ?_
      rintro r Xd ⟨rfl, hk1, hp1⟩
      have HSd : Hid (Sx w c V q (.mk nk nt nvt nvn nn nl na) (ncs nk nt nvt nvn nn (.slice no nln nc) na) Xd) := HSc.out.go hcl hk1 hp1
      clear hk1 hp1 HTo HSc
      have HRe : Hid (RR = .ok ((.mk nk nt nvt nvn nn nl na, gb), q)) := by show _ = _; rw [HRf.out, sufs, hb46, hb91, hb40]; rfl
      clear HRf
      obtain ⟨g0, g1, g2, g3, g4, g5, g6⟩ := nb_cells HSd.out.box
      have gf := fun o => nb_frozen HSd.out.box o
      go_wp2_with fail
      refine bodyPost_ret (v := .tuple #[.agg (ncs nk nt nvt nvn nn (.slice no nln nc) na).toArray, .bool gb]) (by simp [results, Tryz.results169, go_sem, ncs, g0, g1, g2, g3, g4, g5, g6]) rfl ?_
      show PResB c V w RR _ _
      rw [HRe.out]
      refine ⟨?_, ⟨_, rfl, NodeIs.mono (fun b (hb : b < w.heap.size) => Nat.le_of_lt hb) _ _ (NodeIs.kept ?_ _ _ HSd.out.node)⟩, HSd.out.ps.low (fun k hk => ?_)⟩
      ·repeat refine Kept.set ?_ _ _ _ (Or.inr (Nat.le_refl _))
       exact HSd.out.kept
      ·repeat refine Kept.set ?_ _ _ _ (Or.inl (Nat.le_refl _))
       exact Kept.refl _ _
      ·have hkR : k ≠ w.heap.size := by omega
       repeat rw [set_low _ _ _ hkR]
end Go.Proofs.YtgkgpjbbmnfnmaaGreatDoor
