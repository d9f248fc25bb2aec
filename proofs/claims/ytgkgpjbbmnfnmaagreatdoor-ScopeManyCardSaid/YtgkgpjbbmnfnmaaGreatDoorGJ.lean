/- Joined: TK TL TM TN TO TP. -/
import Derived.Test.YtgkgpjbbmnfnmaaGreatDoorGI
import Derived.Test.YtgkgpjbbmnfnmaaGreatDoorGA
/- endsBlock, checkTarget, doBlock. -/
namespace Go.Proofs.YtgkgpjbbmnfnmaaGreatDoor
open Go.RowKit
set_option linter.unusedSimpArgs false
set_option linter.unusedVariables false

set_option maxRecDepth 20000 in
set_option maxHeartbeats 4000000 in
theorem endsBlock_any {w : World} {c : Nat} {V : Env} {p : Nat} (h : Ps w c V p) :
  Calls Tryz.prog 97 #[.pointer (some ⟨c, 0, none⟩)] w fun r w' => r = .returned (.bool (V.ends p)) ∧ Kept No w w' := by
 have HP : Hid (Ps w c V p) := h
 have HE : Hid _ := ended_any h
 have HI1 : Hid (∀ X, Kept No w X → Calls Tryz.prog 99 #[.pointer (some ⟨c, 0, none⟩), .string ⟨#[101, 110, 100]⟩] X fun r w' => r = .returned (.bool (V.is sEnd p)) ∧ Kept No X w') := fun X hX => is_any (HP.out.no hX) ⟨#[101, 110, 100]⟩
 have HI2 : Hid (∀ X, Kept No w X → Calls Tryz.prog 99 #[.pointer (some ⟨c, 0, none⟩), .string ⟨#[101, 108, 115, 101]⟩] X fun r w' => r = .returned (.bool (V.is sElse p)) ∧ Kept No X w') := fun X hX => is_any (HP.out.no hX) ⟨#[101, 108, 115, 101]⟩
 have HI3 : Hid (∀ X, Kept No w X → Calls Tryz.prog 99 #[.pointer (some ⟨c, 0, none⟩), .string ⟨#[101, 108, 115, 101, 105, 102]⟩] X fun r w' => r = .returned (.bool (V.is sElseif p)) ∧ Kept No X w') := fun X hX => is_any (HP.out.no hX) ⟨#[101, 108, 115, 101, 105, 102]⟩
 obtain ⟨RR, HR⟩ : ∃ RR, Hid (V.ends p = RR) := ⟨_, show _ = _ from rfl⟩
 rw [HR.out]
 have HR2 : Hid (RR = (V.ended p || V.is sEnd p || V.is sElse p || V.is sElseif p)) := HR.out.symm
 generalize V.ended p = b0 at HE HR2
 generalize V.is sEnd p = b1 at HI1 HR2
 generalize V.is sElse p = b2 at HI2 HR2
 generalize V.is sElseif p = b3 at HI3 HR2
 clear h HR HP
 go_enter Tryz.func97, Tryz.ntmps97
 go_wp2_with fail
 refine Calls.mono HE.out ?_
 rintro r W1 ⟨rfl, hk1⟩
 have HK1 : Hid (Kept No w W1) := hk1
 clear hk1 HE
 cases b0
 case true =>
  go_wp2_with fail
  go_ret
  exact ⟨by rw [HR2.out]; rfl, HK1.out⟩
 case false =>
  go_wp2_with fail
  refine Calls.mono (HI1.out _ HK1.out) ?_
  rintro r W2 ⟨rfl, hk2⟩
  have HK2 : Hid (Kept No w W2) := HK1.out.trans hk2
  clear hk2 HI1
  cases b1
  case true =>
   go_wp2_with fail
   go_ret
   exact ⟨by rw [HR2.out]; rfl, HK2.out⟩
  case false =>
   go_wp2_with fail
   refine Calls.mono (HI2.out _ HK2.out) ?_
   rintro r W3 ⟨rfl, hk3⟩
   have HK3 : Hid (Kept No w W3) := HK2.out.trans hk3
   clear hk3 HI2
   cases b2
   case true =>
    go_wp2_with fail
    go_ret
    exact ⟨by rw [HR2.out]; rfl, HK3.out⟩
   case false =>
    go_wp2_with fail
    refine Calls.mono (HI3.out _ HK3.out) ?_
    rintro r W4 ⟨rfl, hk4⟩
    have HK4 : Hid (Kept No w W4) := HK3.out.trans hk4
    clear hk4 HI3
    go_wp2_with fail
    go_ret
    exact ⟨by rw [HR2.out]; rfl, HK4.out⟩

set_option maxRecDepth 20000 in
set_option maxHeartbeats 4000000 in
theorem checkTarget_any {w : World} {c : Nat} {V : Env} {p : Nat} (h : Ps w c V p) (k : Int) (t : ByteArray) (vt vn n a : Int) (so : Option Addr) (sn sc : Nat) (l : List Tr) (g : Bool) :
  Calls Tryz.prog 170 #[.pointer (some ⟨c, 0, none⟩), .agg (ncs k t vt vn n (.slice so sn sc) a).toArray, .bool g] w fun r w' => r = (if isTarget (.mk k t vt vn n l a) g then .returned (.tuple #[]) else stopW (V.at p) 6) ∧ Kept No w w' := by
 obtain ⟨W0, HW0⟩ : ∃ W0, Hid (W0 = w.alloc (nb (ncs k t vt vn n (.slice so sn sc) a))) := ⟨_, show _ = _ from rfl⟩
 have HK0 : Hid (Kept No w W0) := by show Kept _ _ _; rw [HW0.out]; exact (Kept.refl No w).alloc _
 have hb : W0.heap[w.heap.size]? = some (nb (ncs k t vt vn n (.slice so sn sc) a)) := by rw [HW0.out]; exact World.alloc_heap_new w _
 obtain ⟨g0, _⟩ := nb_cells hb
 have HWr : Hid _ := wrong_any (h.no HK0.out)
 obtain ⟨b, Hb⟩ : ∃ b, Hid (isTarget (.mk k t vt vn n l a) g = b) := ⟨_, show _ = _ from rfl⟩
 rw [Hb.out]
 have HB2 : Hid (b = !(g || (k != 6 && k != 10))) := Hb.out.symm
 unfold nb ncs at HW0
 clear h hb Hb
 unfold ncs
 go_enter Tryz.func170, Tryz.ntmps170
 cases g
 case true =>
  have hb : b = false := by rw [HB2.out]; rfl
  subst hb
  clear HB2
  go_wp2_with (first | rw [← HW0.out])
  refine Calls.mono HWr.out ?_
  rintro r W1 ⟨rfl, hk1⟩
  have HK1 : Hid (Kept No w W1) := HK0.out.trans hk1
  clear hk1 HWr
  go_wp2_with fail
  exact ⟨rfl, rfl, HK1.out⟩
 case false =>
  by_cases h6 : k = 6
  ·subst h6
   have hb : b = true := by rw [HB2.out]; rfl
   subst hb
   clear HB2
   go_wp2_with (first | rw [← HW0.out])
   go_end0
   exact ⟨rfl, HK0.out⟩
  ·have z6 : (k != 6) = true := by simp [h6]
   by_cases h10 : k = 10
   ·subst h10
    have hb : b = true := by rw [HB2.out]; rfl
    subst hb
    clear HB2
    go_wp2_with (first | rw [← HW0.out])
    go_end0
    exact ⟨rfl, HK0.out⟩
   ·have z10 : (k != 10) = true := by simp [h10]
    have hb : b = false := by rw [HB2.out, z6, z10]; rfl
    subst hb
    clear HB2
    go_wp2_with (first | rw [← HW0.out])
    refine Calls.mono HWr.out ?_
    rintro r W1 ⟨rfl, hk1⟩
    have HK1 : Hid (Kept No w W1) := HK0.out.trans hk1
    clear hk1 HWr
    go_wp2_with fail
    exact ⟨rfl, rfl, HK1.out⟩

set_option maxRecDepth 20000 in
set_option maxHeartbeats 8000000 in
theorem doBlock_any {w : World} {c : Nat} {V : Env} {p : Nat} {G : Lev} {l : Nat} (hG : LevIs V G (l + 1)) (h : Ps w c V p) :
  Calls Tryz.prog 140 #[.pointer (some ⟨c, 0, none⟩), .int .i64 (l : Int)] w (PRes c V w (doS V G p)) := by
 obtain ⟨W0, HW0⟩ : ∃ W0, Hid (w.alloc (nb nz) = W0) := ⟨_, show _ = _ from rfl⟩
 have HS0 : Hid (Sx w c V p (.mk 0 ⟨#[]⟩ 0 0 0 [] 0) nz W0) := by
  have ka : Kept No w W0 := by rw [← HW0.out]; exact (Kept.refl No w).alloc _
  exact ⟨ka.no, h.no ka, by rw [← HW0.out]; exact World.alloc_heap_new w _, leaf_is _ _ _ _ _ _ _ _⟩
 have hcl := h.lt
 have hle := hG.le
 have HBl : Hid (∀ {w' : World} {q : Nat}, Ps w' c V q → Calls Tryz.prog 60 #[.pointer (some ⟨c, 0, none⟩), .int .i64 ((l : Int) + 1)] w' (PRes c V w' (G.block q))) := fun hq => by
  have := hG.block hq
  rw [show ((l + 1 : Nat) : Int) = (l : Int) + 1 by omega] at this
  exact this
 obtain ⟨RR, HR⟩ : ∃ RR, Hid (doS V G p = RR) := ⟨_, show _ = _ from rfl⟩
 rw [HR.out]
 have u1 : IntKind.i64.wrap ((l : Int) + 1) = (l : Int) + 1 := by rw [IntKind.wrap_i64]; omega
 unfold nb nz ncs at HW0
 clear h hG
 go_enter Tryz.func140, Tryz.ntmps140
 go_wp2_with fail
 rw [HW0.out]
 clear HW0
 cases hb0 : V.is sDo p with
 | false =>
  have HN : Hid (Calls Tryz.prog 166 #[.pointer (some ⟨c, 0, none⟩), .string ⟨#[100, 111]⟩] W0 fun r w' => r = stopW (V.at p) 6 ∧ Kept (fun b => b = c) W0 w') := need_bad HS0.out.ps ⟨#[100, 111]⟩ (by decide) hb0
  have HRe : Hid (RR = .error (V.at p, 6)) := by show _ = _; rw [← HR.out]; unfold doS Env.need Env.wrong; rw [hb0]; rfl
  refine Calls.mono HN.out ?_
  rintro r W1 ⟨rfl, hk1⟩
  have HF : Hid (Kept (fun b => b = c) w W1) := HS0.out.kept.trans hk1
  clear hk1 HN HS0
  go_wp2_with fail
  refine ⟨rfl, ?_⟩
  show PRes c V w RR _ _
  rw [HRe.out]
  exact ⟨HF.out, rfl⟩
 | true =>
  have HN : Hid (Calls Tryz.prog 166 #[.pointer (some ⟨c, 0, none⟩), .string ⟨#[100, 111]⟩] W0 fun r w' => r = .returned (.tuple #[]) ∧ Kept (fun b => b = c) W0 w' ∧ Ps w' c V (p + 1)) := need_ok HS0.out.ps ⟨#[100, 111]⟩ (by decide) hb0
  have HRf : Hid (RR = match G.block (p + 1) with | .error e => .error e | .ok (b, r) => match V.need sEnd r with | .error e => .error e | .ok (_, s) => .ok (b, s)) := by
                      show _ = _
                      rw [← HR.out]; unfold doS
                      rw [show V.need sDo p = .ok ((), p + 1) by unfold Env.need; rw [hb0]; rfl]
                      dsimp only
                      cases G.block (p + 1) with
                      | error e => rfl
                      | ok z =>
                       obtain ⟨b, r⟩ := z
                       dsimp only
                       cases V.need sEnd r with
                       | error e => rfl
                       | ok y => rfl
  clear HR hb0
  refine Calls.mono HN.out ?_
  rintro r W1 ⟨rfl, hk1, hp1⟩
  have HS1 : Hid (Sx w c V (p + 1) (.mk 0 ⟨#[]⟩ 0 0 0 [] 0) nz W1) := HS0.out.go hcl hk1 hp1
  have HE : Hid _ := HBl.out HS1.out.ps
  clear hk1 hp1 HN HS0 HBl
  go_wp2_with fail
  cases hbk : G.block (p + 1) with
  | error e =>
   obtain ⟨ea, ex⟩ := e
   rw [hbk] at HE
   have HRe : Hid (RR = .error (ea, ex)) := by show _ = _; rw [HRf.out, hbk]
   clear hbk HRf
   refine Calls.mono HE.out ?_
   rintro r W2 ⟨hk2, rfl⟩
   have HF : Hid (Kept (fun b => b = c) w W2) := HS1.out.kept.trans hk2
   clear hk2 HE HS1
   go_wp2_with fail
   refine ⟨rfl, ?_⟩
   show PRes c V w RR _ _
   rw [HRe.out]
   exact ⟨HF.out, rfl⟩
  | ok z =>
   obtain ⟨⟨yk, yt, yvt, yvn, yn, yl, ya⟩, q⟩ := z
   rw [hbk] at HE
   have HRg : Hid (RR = match V.need sEnd q with | .error e => .error e | .ok (_, s) => .ok (.mk yk yt yvt yvn yn yl ya, s)) := by show _ = _; rw [HRf.out, hbk]
   clear hbk HRf
   refine Calls.mono HE.out ?_
   rintro r W2 ⟨hk2, ⟨cs, rfl, hy⟩, hp2⟩
   obtain ⟨sv, rfl, hls⟩ := NodeIs.cs.1 hy
   obtain ⟨yo, yln, yc, rfl⟩ := slice_of hls
   obtain ⟨W3, HW3⟩ : ∃ W3, Hid (W3 = W2.alloc (nb (ncs yk yt yvt yvn yn (.slice yo yln yc) ya))) := ⟨_, show _ = _ from rfl⟩
   have ka : Kept No W2 W3 := by rw [HW3.out]; exact (Kept.refl No W2).alloc _
   obtain ⟨T, HT⟩ : ∃ T, Hid (W2.heap.size = T) := ⟨_, show _ = _ from rfl⟩
   have hz1 := hp_lt HS1.out.box
   have hz2 := hk2.size
   have HS3 : Hid (Sx w c V q (.mk 0 ⟨#[]⟩ 0 0 0 [] 0) nz W3) := (HS1.out.go hcl hk2 hp2).no ka
   have HB3 : Hid (W3.heap[T]? = some (nb (ncs yk yt yvt yvn yn (.slice yo yln yc) ya)) ∧ NodeIs (fun b => b ≤ w.heap.size ∨ b = T) W3 (.mk yk yt yvt yvn yn yl ya) (ncs yk yt yvt yvn yn (.slice yo yln yc) ya) ∧ w.heap.size < T) := by
    refine ⟨by rw [HW3.out, ← HT.out]; exact World.alloc_heap_new W2 _, NodeIs.kept ka.no _ _ (NodeIs.mono ?_ _ _ (NodeIs.more _ _ hy)), by have := HT.out; omega⟩
    rintro b (hb | hb)
    ·exact .inl (by omega)
    ·exact .inr (by rw [hb, HT.out]; exact Nat.le_refl _)
   unfold nb ncs at HW3
   clear hk2 hy hp2 hls ka HE HS1
   unfold ncs
   go_wp2_with (first | rw [← HW3.out])
   try rw [HT.out]
   clear HW3 HT hz1 hz2
   have hTw := HB3.out.2.2
   cases hb1 : V.is sEnd q with
   | false =>
    have HN : Hid (Calls Tryz.prog 166 #[.pointer (some ⟨c, 0, none⟩), .string ⟨#[101, 110, 100]⟩] W3 fun r w' => r = stopW (V.at q) 6 ∧ Kept (fun b => b = c) W3 w') := need_bad HS3.out.ps ⟨#[101, 110, 100]⟩ (by decide) hb1
    have HRe : Hid (RR = .error (V.at q, 6)) := by show _ = _; rw [HRg.out]; unfold Env.need Env.wrong; rw [hb1]; rfl
    refine Calls.mono HN.out ?_
    rintro r W4 ⟨rfl, hk4⟩
    have HF : Hid (Kept (fun b => b = c) w W4) := HS3.out.kept.trans hk4
    clear hk4 HN HS3 HRg HB3
    go_wp2_with fail
    refine ⟨rfl, ?_⟩
    show PRes c V w RR _ _
    rw [HRe.out]
    exact ⟨HF.out, rfl⟩
   | true =>
    have HN : Hid (Calls Tryz.prog 166 #[.pointer (some ⟨c, 0, none⟩), .string ⟨#[101, 110, 100]⟩] W3 fun r w' => r = .returned (.tuple #[]) ∧ Kept (fun b => b = c) W3 w' ∧ Ps w' c V (q + 1)) := need_ok HS3.out.ps ⟨#[101, 110, 100]⟩ (by decide) hb1
    have HRe : Hid (RR = .ok (.mk yk yt yvt yvn yn yl ya, q + 1)) := by show _ = _; rw [HRg.out]; unfold Env.need; rw [hb1]; rfl
    refine Calls.mono HN.out ?_
    rintro r W4 ⟨rfl, hk4, hp4⟩
    have HS4 : Hid (Sx w c V (q + 1) (.mk 0 ⟨#[]⟩ 0 0 0 [] 0) nz W4) := HS3.out.go hcl hk4 hp4
    have HN4 : Hid (NodeIs (fun b => b ≤ w.heap.size ∨ b = T) W4 (.mk yk yt yvt yvn yn yl ya) (ncs yk yt yvt yvn yn (.slice yo yln yc) ya)) := NodeIs.kept (hk4.mono (fun b (hb : b = c) => .inl (by omega))) _ _ HB3.out.2.1
    have hT4 := hk4.heap HB3.out.1 (show ¬ T = c by omega)
    obtain ⟨t0, t1, t2, t3, t4, t5, t6⟩ := nb_cells hT4
    obtain ⟨r0, r1, r2, r3, r4, r5, r6⟩ := nb_cells HS4.out.box
    have rf := fun o => nb_frozen HS4.out.box o
    clear hk4 hp4 HN HS3 HRg HB3 hT4
    go_wp2_with fail
    refine bodyPost_ret (v := .agg (ncs yk yt yvt yvn yn (.slice yo yln yc) ya).toArray) (by simp [results, Tryz.results140, go_sem, ncs, r0, r1, r2, r3, r4, r5, r6]) rfl ?_
    show PRes c V w RR _ _
    rw [HRe.out]
    refine ⟨?_, ⟨_, rfl, NodeIs.mono (fun b (hb : b < w.heap.size) => .inl (Nat.le_of_lt hb)) _ _ (NodeIs.kept ?_ _ _ HN4.out)⟩, HS4.out.ps.low (fun k hk => ?_)⟩
    ·repeat refine Kept.set ?_ _ _ _ (Or.inr (Nat.le_refl _))
     exact HS4.out.kept
    ·repeat refine Kept.set ?_ _ _ _ (Or.inl (.inl (Nat.le_refl _)))
     exact Kept.refl _ _
    ·have hkR : k ≠ w.heap.size := by omega
     repeat rw [set_low _ _ _ hkR]
end Go.Proofs.YtgkgpjbbmnfnmaaGreatDoor

/- while. -/
namespace Go.Proofs.YtgkgpjbbmnfnmaaGreatDoor
open Go.RowKit
set_option linter.unusedSimpArgs false
set_option linter.unusedVariables false

set_option maxRecDepth 20000 in
set_option maxHeartbeats 8000000 in
theorem while_any {w : World} {c : Nat} {V : Env} {p : Nat} {G : Lev} {l : Nat} (hG : LevIs V G (l + 1)) (h : Ps w c V p) (hp : p < V.L.length) :
  Calls Tryz.prog 138 #[.pointer (some ⟨c, 0, none⟩), .int .i64 (l : Int)] w (PRes c V w (whileS V G p)) := by
 obtain ⟨W0, HW0⟩ : ∃ W0, Hid (w.alloc (nb nz) = W0) := ⟨_, show _ = _ from rfl⟩
 have HS0 : Hid (Sx w c V p (.mk 0 ⟨#[]⟩ 0 0 0 [] 0) nz W0) := by
  have ka : Kept No w W0 := by rw [← HW0.out]; exact (Kept.refl No w).alloc _
  exact ⟨ka.no, h.no ka, by rw [← HW0.out]; exact World.alloc_heap_new w _, leaf_is _ _ _ _ _ _ _ _⟩
 have hcl := h.lt
 have hle := hG.le
 have HEx : Hid (∀ {w' : World} {q : Nat}, Ps w' c V q → Calls Tryz.prog 163 #[.pointer (some ⟨c, 0, none⟩), .int .i64 ((l : Int) + 1)] w' (PRes c V w' (G.above 0 q))) := fun hq => by
  have := expr_any hG hq
  rw [show ((l + 1 : Nat) : Int) = (l : Int) + 1 by omega] at this
  exact this
 have HDo : Hid (∀ {w' : World} {q : Nat}, Ps w' c V q → Calls Tryz.prog 140 #[.pointer (some ⟨c, 0, none⟩), .int .i64 (l : Int)] w' (PRes c V w' (doS V G q))) := fun hq => doBlock_any hG hq
 obtain ⟨ap, Hap⟩ : ∃ ap, Hid (V.at p = ap) := ⟨_, show _ = _ from rfl⟩
 obtain ⟨RR, HR⟩ : ∃ RR, Hid (whileS V G p = RR) := ⟨_, show _ = _ from rfl⟩
 rw [HR.out]
 have HTk : Hid _ := take_any HS0.out.ps hp
 obtain ⟨x, HX⟩ : ∃ x, Hid (V.tk p = x) := ⟨_, show _ = _ from rfl⟩
 have ea : ap = x.a := by rw [← Hap.out]; unfold Env.at; rw [HX.out]
 rw [HX.out] at HTk
 have fa := fun w => fd45a x w
 have HRf : Hid (RR = match G.above 0 (p + 1) with | .error e => .error e | .ok (x, q) => match doS V G q with | .error e => .error e | .ok (b, r) => .ok (nd 25 [x, b] ap, r)) := by
  show _ = _
  rw [← HR.out]; unfold whileS; rw [Hap.out]
  cases G.above 0 (p + 1) with
  | error e => rfl
  | ok z =>
   obtain ⟨b, r⟩ := z
   dsimp only
   cases doS V G r with
   | error e => rfl
   | ok y => rfl
 have u1 : IntKind.i64.wrap ((l : Int) + 1) = (l : Int) + 1 := by rw [IntKind.wrap_i64]; omega
 obtain ⟨zk, zt, zvt, zvn, zsy, za, ze⟩ := x
 dsimp only at fa ea
 subst ea
 unfold nb nz ncs at HW0
 clear h hG HR
 go_enter Tryz.func138, Tryz.ntmps138
 go_wp2_with fail
 rw [HW0.out]
 clear HW0
 refine Calls.mono HTk.out ?_
 rintro r W1 ⟨rfl, hk1, hp1⟩
 have HS1 : Hid (Sx w c V (p + 1) (.mk 0 ⟨#[]⟩ 0 0 0 [] 0) nz W1) := HS0.out.go hcl hk1 hp1
 have HE : Hid _ := HEx.out HS1.out.ps
 clear hk1 hp1 HTk HS0 HEx
 unfold tv
 dsimp only
 go_wp2_with fail
 cases hab : G.above 0 (p + 1) with
 | error e =>
  obtain ⟨ea, ex⟩ := e
  rw [hab] at HE
  have HRe : Hid (RR = .error (ea, ex)) := by show _ = _; rw [HRf.out, hab]
  clear hab HRf
  refine Calls.mono HE.out ?_
  rintro r W2 ⟨hk2, rfl⟩
  have HF : Hid (Kept (fun b => b = c) w W2) := HS1.out.kept.trans hk2
  clear hk2 HE HS1
  go_wp2_with fail
  refine ⟨rfl, ?_⟩
  show PRes c V w RR _ _
  rw [HRe.out]
  exact ⟨HF.out, rfl⟩
 | ok z =>
  obtain ⟨⟨xk, xt, xvt, xvn, xn, xl, xa⟩, q⟩ := z
  rw [hab] at HE
  have HRg : Hid (RR = match doS V G q with | .error e => .error e | .ok (b, r) => .ok (nd 25 [.mk xk xt xvt xvn xn xl xa, b] ap, r)) := by show _ = _; rw [HRf.out, hab]
  clear hab HRf
  refine Calls.mono HE.out ?_
  rintro r W2 ⟨hk2, ⟨cs, rfl, hy⟩, hp2⟩
  obtain ⟨sv, rfl, hls⟩ := NodeIs.cs.1 hy
  obtain ⟨xo, xln, xc, rfl⟩ := slice_of hls
  obtain ⟨W3, HW3⟩ : ∃ W3, Hid (W3 = W2.alloc (nb (ncs xk xt xvt xvn xn (.slice xo xln xc) xa))) := ⟨_, show _ = _ from rfl⟩
  have ka : Kept No W2 W3 := by rw [HW3.out]; exact (Kept.refl No W2).alloc _
  obtain ⟨T, HT⟩ : ∃ T, Hid (W2.heap.size = T) := ⟨_, show _ = _ from rfl⟩
  have hz1 := hp_lt HS1.out.box
  have hz2 := hk2.size
  have HS3 : Hid (Sx w c V q (.mk 0 ⟨#[]⟩ 0 0 0 [] 0) nz W3) := (HS1.out.go hcl hk2 hp2).no ka
  have hT3 : W3.heap[T]? = some (nb (ncs xk xt xvt xvn xn (.slice xo xln xc) xa)) := by rw [HW3.out, ← HT.out]; exact World.alloc_heap_new W2 _
  have HB3 : Hid (NodeIs (fun b => b ≤ w.heap.size) W3 (.mk xk xt xvt xvn xn xl xa) (ncs xk xt xvt xvn xn (.slice xo xln xc) xa)) := NodeIs.kept ka.no _ _ (NodeIs.mono (fun b (hb : b ≤ w.heap.size) => by show b < _; omega) _ _ hy)
  have hTw : w.heap.size < T := by have := HT.out; omega
  have HT3 : Hid _ := hT3
  unfold nb ncs at HW3
  clear hk2 hy hp2 hls ka HE HS1 hT3
  unfold ncs
  go_wp2_with (first | rw [← HW3.out])
  try rw [HT.out]
  clear HW3 HT hz1 hz2
  refine wp_region_held_drew (S := fun w' => w'.heap[T]? = some (nb (ncs xk xt xvt xvn xn (.slice xo xln xc) xa))) (by kernel_rfl) HT3.out (fun hSS => ?_)
  have HS4 : Hid (Sx w c V q (.mk 0 ⟨#[]⟩ 0 0 0 [] 0) nz W3.drew) := HS3.out.no (Kept.refl No W3).drew
  have HB4 : Hid (NodeIs (fun b => b ≤ w.heap.size) W3.drew (.mk xk xt xvt xvn xn xl xa) (ncs xk xt xvt xvn xn (.slice xo xln xc) xa)) := NodeIs.kept (Kept.refl No W3).drew.no _ _ HB3.out
  generalize W3.drew = W4 at HS4 HB4 hSS ⊢
  clear HS3 HB3 HT3
  have HD : Hid _ := HDo.out HS4.out.ps
  clear HDo
  refine tk1 0 (.int .i64 ap) rfl hSS ?_
  try simp only [sm]
  refine wpAnyH_take (i := 1) (v := .agg #[.int .i64 xk, .string xt, .int .i64 xvt, .int .i64 xvn, .int .i64 xn, .slice xo xln xc, .int .i64 xa]) rfl (by kernel_rfl) (by kernel_rfl) (by kernel_rfl) (fun _ _ _ h => h) (Or.inl ⟨by rfl, by intro w' hw; obtain ⟨g0, g1, g2, g3, g4, g5, g6⟩ := nb_cells hw; go_simp⟩) hSS ?_
  try simp only [sm]
  refine tk1 2 (.pointer (some ⟨c, 0, none⟩)) rfl hSS ?_
  try simp only [sm]
  refine tk1 3 (.int .i64 (l : Int)) rfl hSS ?_
  try simp only [sm]
  refine rd1 4 rfl (fun K hK => ?_)
  go_simp
  cases hfn : doS V G q with
  | error e =>
   obtain ⟨ea, ex⟩ := e
   rw [hfn] at HD
   have HRe : Hid (RR = .error (ea, ex)) := by show _ = _; rw [HRg.out, hfn]
   clear hfn HRg
   refine Calls.mono HD.out ?_
   rintro r W5 ⟨hk5, rfl⟩
   have HF : Hid (Kept (fun b => b = c) w W5) := HS4.out.kept.trans hk5
   clear hk5 HD HS4 HB4
   try go_wp2_with fail
   refine ⟨rfl, ?_⟩
   show PRes c V w RR _ _
   rw [HRe.out]
   exact ⟨HF.out, rfl⟩
  | ok z =>
   obtain ⟨⟨yk, yt, yvt, yvn, yn, yl, ya⟩, q'⟩ := z
   rw [hfn] at HD
   have HRe : Hid (RR = .ok (nd 25 [.mk xk xt xvt xvn xn xl xa, .mk yk yt yvt yvn yn yl ya] ap, q')) := by show _ = _; rw [HRg.out, hfn]
   clear hfn HRg
   refine Calls.mono HD.out ?_
   rintro r W5 ⟨hk5, ⟨ds, rfl, hy⟩, hp5⟩
   obtain ⟨sv, rfl, hls⟩ := NodeIs.cs.1 hy
   obtain ⟨yo, yln, yc, rfl⟩ := slice_of hls
   have hTb := hk5.heap hSS (show ¬ T = c by omega)
   have hz4 := hp_lt HS4.out.box
   have HS5 : Hid (Sx w c V q' (.mk 0 ⟨#[]⟩ 0 0 0 [] 0) nz W5) := HS4.out.go hcl hk5 hp5
   have HX5 : Hid (NodeIs (fun b => b ≤ w.heap.size) W5 (.mk xk xt xvt xvn xn xl xa) (ncs xk xt xvt xvn xn (.slice xo xln xc) xa)) := NodeIs.kept (hk5.mono (fun b (hb : b = c) => by show b ≤ _; omega)) _ _ HB4.out
   have HY5 : Hid (NodeIs (fun b => b ≤ w.heap.size) W5 (.mk yk yt yvt yvn yn yl ya) (ncs yk yt yvt yvn yn (.slice yo yln yc) ya)) := NodeIs.mono (fun b (hb : b ≤ w.heap.size) => by show b < _; omega) _ _ hy
   refine hK.out _ _ hTb (fun hSS => ?_)
   clear hK K HD hk5 hy hls hp5 HS4 HB4 hTb
   unfold ncs
   try simp only [sm]
   refine rd1 5 rfl (fun K hK => ?_)
   go_simp
   have hka : Kept No W5 (W5.alloc (nb (ncs xk xt xvt xvn xn (.slice xo xln xc) xa ++ ncs yk yt yvt yvn yn (.slice yo yln yc) ya))) := (Kept.refl No W5).alloc _
   refine hK.out _ _ (hka.heap hSS id) (fun hSS => ?_)
   clear hK K
   have hz5 := hp_lt HS5.out.box
   have HL6 : Hid _ := pair_list HX5.out HY5.out (show ¬ W5.heap.size ≤ w.heap.size by omega)
   have HK6 : Hid _ := HS5.out.kept.trans hka.no
   have HP6 : Hid _ := HS5.out.ps.no hka
   have HB6 : Hid _ := hka.heap HS5.out.box id
   obtain ⟨rb, hrb⟩ : ∃ rb, W5.heap.size = rb := ⟨_, rfl⟩
   rw [hrb] at HL6 ⊢
   obtain ⟨W6, hW6⟩ : ∃ W6, W5.alloc (nb (ncs xk xt xvt xvn xn (.slice xo xln xc) xa ++ ncs yk yt yvt yvn yn (.slice yo yln yc) ya)) = W6 := ⟨_, rfl⟩
   rw [hW6] at HK6 HP6 HB6 HL6
   unfold nb ncs at hW6
   simp only [List.cons_append, List.nil_append] at hW6
   rw [hW6] at hSS ⊢
   clear hka hW6 hrb hz5 HS5 HX5 HY5
   try simp only [sm]
   refine tk1 6 (.agg #[.int .i64 25, .string ⟨#[]⟩, .int .i64 0, .int .i64 0, .int .i64 0, .slice (some ⟨rb, 0, none⟩) 2 2, .int .i64 ap]) rfl hSS ?_
   try simp only [sm]
   refine rd1 7 rfl (fun K hK => ?_)
   obtain ⟨r0, r1, r2, r3, r4, r5, r6⟩ := nb_cells HB6.out
   have rf := fun o => nb_frozen HB6.out o
   have n1 : w.heap.size ≠ T := by omega
   have n2 : T ≠ w.heap.size := by omega
   go_simp
   try go_wp2_with fail
   refine hK.out _ _ ?_ (fun hSS => ?_)
   ·repeat refine set_other ?_ _ _ n2
    exact hSS
   clear hK K
   try simp only [sm]
   refine wpAnyH_done (by kernel_rfl) ?_ _
   go_wp2_with fail
   refine bodyPost_ret (v := .agg (ncs 25 ⟨#[]⟩ 0 0 0 (.slice (some ⟨rb, 0, none⟩) 2 2) ap).toArray) (by simp [results, Tryz.results138, go_sem, ncs, r0, r1, r2, r3, r4, r5, r6]) rfl ?_
   show PRes c V w RR _ _
   rw [HRe.out]
   have HS7 := Sx.put (k := 25) (t := ⟨#[]⟩) (vt := 0) (vn := 0) (m := 0) (a := ap) hcl HK6.out HP6.out HB6.out rfl HL6.out rfl
   exact ⟨HS7.kept, ⟨_, rfl, NodeIs.mono (fun b (hb : b < w.heap.size) => Nat.le_of_lt hb) _ _ HS7.node⟩, HS7.ps⟩
end Go.Proofs.YtgkgpjbbmnfnmaaGreatDoor

/- named. -/
namespace Go.Proofs.YtgkgpjbbmnfnmaaGreatDoor
open Go.RowKit
set_option linter.unusedSimpArgs false
set_option linter.unusedVariables false

/-- .. two trees, or stops. -/
def PResP (c : Nat) (V : Env) (w : World) (R : PR (Tr × Tr)) (r : Ending) (w' : World) : Prop := Kept (fun b => b = c) w w' ∧ match R with
 | .ok ((x, y), q) => (∃ cs ds, r = .returned (.tuple #[.agg cs.toArray, .agg ds.toArray]) ∧ NodeIs (fun b => b < w.heap.size) w' x cs ∧ NodeIs (fun b => b < w.heap.size) w' y ds) ∧ Ps w' c V q
 | .error (a, e) => r = stopW a e

set_option maxRecDepth 20000 in
set_option maxHeartbeats 8000000 in
theorem named_any {w : World} {c : Nat} {V : Env} {p : Nat} {G : Lev} {lv : Nat} (hG : LevIs V G lv) (h : Ps w c V p) :
  Calls Tryz.prog 164 #[.pointer (some ⟨c, 0, none⟩), .int .i64 (lv : Int)] w (PResP c V w (namedS V G p)) := by
 obtain ⟨W0, HW0⟩ : ∃ W0, Hid ((w.alloc (nb nz)).alloc (nb nz) = W0) := ⟨_, show _ = _ from rfl⟩
 have HF0 : Hid (Kept No w W0 ∧ Ps W0 c V p ∧ W0.heap[w.heap.size]? = some (nb nz) ∧ W0.heap[w.heap.size + 1]? = some (nb nz)) := by
  have k1 : Kept No w (w.alloc (nb nz)) := (Kept.refl No w).alloc _
  have k2 : Kept No (w.alloc (nb nz)) W0 := by rw [← HW0.out]; exact (Kept.refl No _).alloc _
  refine ⟨k1.trans k2, h.no (k1.trans k2), k2.heap (World.alloc_heap_new w _) id, ?_⟩
  rw [← HW0.out]
  have := World.alloc_heap_new (w.alloc (nb nz)) (nb nz)
  rw [show (w.alloc (nb nz)).heap.size = w.heap.size + 1 by simp] at this
  exact this
 have hcl := h.lt
 have hle := hG.le
 have hok := hG.ok
 obtain ⟨ap, Hap⟩ : ∃ ap, Hid (V.at p = ap) := ⟨_, show _ = _ from rfl⟩
 obtain ⟨RR, HR⟩ : ∃ RR, Hid (namedS V G p = RR) := ⟨_, show _ = _ from rfl⟩
 rw [HR.out]
 unfold nb nz ncs at HW0
 by_cases hlv : lv ≤ 40
 case neg =>
  have HBg : Hid _ := begin_bad HF0.out.2.1 lv hlv (by omega)
  have HRe : Hid (RR = .error (V.at p, 14)) := by show _ = _; rw [← HR.out]; unfold namedS Env.deep; rw [hok, decide_eq_false hlv]; rfl
  clear h hG HR hok
  go_enter Tryz.func164, Tryz.ntmps164
  go_wp2_with fail
  rw [HW0.out]
  clear HW0
  refine Calls.mono HBg.out ?_
  rintro r W1 ⟨rfl, hk1⟩
  have HF : Hid (Kept (fun b => b = c) w W1) := (HF0.out.1.trans hk1).no
  clear hk1 HBg HF0
  go_wp2_with fail
  refine ⟨rfl, ?_⟩
  show PResP c V w RR _ _
  rw [HRe.out]
  exact ⟨HF.out, rfl⟩
 case pos =>
  have HBg : Hid _ := begin_ok HF0.out.2.1 lv hlv
  rw [Hap.out] at HBg
  have HBo : Hid (∀ {w' : World} {q : Nat}, Ps w' c V q → Calls Tryz.prog 188 #[.pointer (some ⟨c, 0, none⟩), .int .i64 ap, .int .i64 (lv : Int)] w' (PRes c V w' (G.body ap q))) := fun hq => hG.body ap hq hlv
  have HRf : Hid (RR = match V.need sFunction p with | .error e => .error e | .ok (_, q) => match V.name q with | .error e => .error e | .ok (n, r) => match G.body ap r with | .error e => .error e | .ok (f, s) => .ok ((n, f), s)) := by
   show _ = _
   rw [← HR.out]; unfold namedS; rw [hok, decide_eq_true hlv, if_pos rfl, Hap.out]
   cases V.need sFunction p with
   | error e => rfl
   | ok z =>
    obtain ⟨b, r⟩ := z
    dsimp only
    cases V.name r with
    | error e => rfl
    | ok y =>
     obtain ⟨n, r'⟩ := y
     dsimp only
     cases G.body ap r' with
     | error e => rfl
     | ok x => rfl
  clear h hG HR hok
  go_enter Tryz.func164, Tryz.ntmps164
  go_wp2_with fail
  rw [HW0.out]
  clear HW0
  refine Calls.mono HBg.out ?_
  rintro r W1 ⟨rfl, hk1⟩
  have HF1 : Hid (Kept (fun b => b = c) w W1 ∧ Ps W1 c V p ∧ W1.heap[w.heap.size]? = some (nb nz) ∧ W1.heap[w.heap.size + 1]? = some (nb nz)) := ⟨(HF0.out.1.trans hk1).no, HF0.out.2.1.no hk1, hk1.heap HF0.out.2.2.1 id, hk1.heap HF0.out.2.2.2 id⟩
  clear hk1 HBg HF0
  go_wp2_with fail
  cases hb0 : V.is sFunction p with
  | false =>
   have HN : Hid (Calls Tryz.prog 166 #[.pointer (some ⟨c, 0, none⟩), .string ⟨#[102, 117, 110, 99, 116, 105, 111, 110]⟩] W1 fun r w' => r = stopW (V.at p) 6 ∧ Kept (fun b => b = c) W1 w') := need_bad HF1.out.2.1 ⟨#[102, 117, 110, 99, 116, 105, 111, 110]⟩ (by decide) hb0
   have HRe : Hid (RR = .error (V.at p, 6)) := by show _ = _; rw [HRf.out]; unfold Env.need Env.wrong; rw [hb0]; rfl
   refine Calls.mono HN.out ?_
   rintro r W2 ⟨rfl, hk2⟩
   have HF : Hid (Kept (fun b => b = c) w W2) := HF1.out.1.trans hk2
   clear hk2 HN HF1
   go_wp2_with fail
   refine ⟨rfl, ?_⟩
   show PResP c V w RR _ _
   rw [HRe.out]
   exact ⟨HF.out, rfl⟩
  | true =>
   have HN : Hid (Calls Tryz.prog 166 #[.pointer (some ⟨c, 0, none⟩), .string ⟨#[102, 117, 110, 99, 116, 105, 111, 110]⟩] W1 fun r w' => r = .returned (.tuple #[]) ∧ Kept (fun b => b = c) W1 w' ∧ Ps w' c V (p + 1)) := need_ok HF1.out.2.1 ⟨#[102, 117, 110, 99, 116, 105, 111, 110]⟩ (by decide) hb0
   have HRh : Hid (RR = match V.name (p + 1) with | .error e => .error e | .ok (n, r) => match G.body ap r with | .error e => .error e | .ok (f, s) => .ok ((n, f), s)) := by show _ = _; rw [HRf.out, show V.need sFunction p = .ok ((), p + 1) by unfold Env.need; rw [hb0]; rfl]
   clear HRf hb0
   refine Calls.mono HN.out ?_
   rintro r W2 ⟨rfl, hk2, hp2⟩
   have HF2 : Hid (Kept (fun b => b = c) w W2 ∧ Ps W2 c V (p + 1) ∧ W2.heap[w.heap.size]? = some (nb nz) ∧ W2.heap[w.heap.size + 1]? = some (nb nz)) := ⟨HF1.out.1.trans hk2, hp2, hk2.heap HF1.out.2.2.1 (show ¬ w.heap.size = c by omega), hk2.heap HF1.out.2.2.2 (show ¬ w.heap.size + 1 = c by omega)⟩
   have HNm : Hid _ := pname_any HF2.out.2.1
   clear hk2 hp2 HN HF1
   go_wp2_with fail
   cases hnm : V.name (p + 1) with
   | error e =>
    obtain ⟨ea, ex⟩ := e
    rw [hnm] at HNm
    have HRe : Hid (RR = .error (ea, ex)) := by show _ = _; rw [HRh.out, hnm]
    clear hnm HRh
    refine Calls.mono HNm.out ?_
    rintro r W3 ⟨hk3, rfl⟩
    have HF : Hid (Kept (fun b => b = c) w W3) := HF2.out.1.trans hk3
    clear hk3 HNm HF2
    go_wp2_with fail
    refine ⟨rfl, ?_⟩
    show PResP c V w RR _ _
    rw [HRe.out]
    exact ⟨HF.out, rfl⟩
   | ok z =>
    obtain ⟨⟨nk, nt, nvt, nvn, nn, nl, na⟩, q⟩ := z
    rw [hnm] at HNm
    have HRg : Hid (RR = match G.body ap q with | .error e => .error e | .ok (f, s) => .ok ((.mk nk nt nvt nvn nn nl na, f), s)) := by show _ = _; rw [HRh.out, hnm]
    clear hnm HRh
    refine Calls.mono HNm.out ?_
    rintro r W3 ⟨hk3, ⟨cs, rfl, hy⟩, hp3⟩
    obtain ⟨sv, rfl, hls⟩ := NodeIs.cs.1 hy
    obtain ⟨no, nln, nc, rfl⟩ := slice_of hls
    have hb3 := hk3.heap HF2.out.2.2.1 (show ¬ w.heap.size = c by omega)
    have hz2 := hp_lt HF2.out.2.2.2
    have HF3 : Hid (Kept (fun b => b = c) w W3 ∧ Ps W3 c V q ∧ W3.heap[w.heap.size]? = some (nb nz) ∧ W3.heap[w.heap.size + 1]? = some (nb nz) ∧ NodeIs (fun b => b ≤ w.heap.size + 1) W3 (.mk nk nt nvt nvn nn nl na) (ncs nk nt nvt nvn nn (.slice no nln nc) na)) := ⟨HF2.out.1.trans hk3, hp3, hb3, hk3.heap HF2.out.2.2.2 (show ¬ w.heap.size + 1 = c by omega), NodeIs.mono (fun b (hb : b ≤ w.heap.size + 1) => by show b < _; omega) _ _ hy⟩
    obtain ⟨g0, g1, g2, g3, g4, g5, g6⟩ := nb_cells hb3
    have gf := fun o => nb_frozen hb3 o
    clear hk3 hy hp3 hls HNm HF2 hz2
    unfold ncs
    go_wp2_with fail
    have hkw : Kept (fun b => b = w.heap.size) W3 (((((((W3.setCell ⟨w.heap.size, 0, none⟩ (.int .i64 nk)).setCell ⟨w.heap.size, 1, none⟩ (.string nt)).setCell ⟨w.heap.size, 2, none⟩ (.int .i64 nvt)).setCell ⟨w.heap.size, 3, none⟩ (.int .i64 nvn)).setCell ⟨w.heap.size, 4, none⟩ (.int .i64 nn)).setCell ⟨w.heap.size, 5, none⟩ (.slice no nln nc)).setCell ⟨w.heap.size, 6, none⟩ (.int .i64 na)) := by
     repeat refine Kept.set ?_ _ _ _ (Or.inl rfl)
     exact Kept.refl _ _
    have hsw : (((((((W3.setCell ⟨w.heap.size, 0, none⟩ (.int .i64 nk)).setCell ⟨w.heap.size, 1, none⟩ (.string nt)).setCell ⟨w.heap.size, 2, none⟩ (.int .i64 nvt)).setCell ⟨w.heap.size, 3, none⟩ (.int .i64 nvn)).setCell ⟨w.heap.size, 4, none⟩ (.int .i64 nn)).setCell ⟨w.heap.size, 5, none⟩ (.slice no nln nc)).setCell ⟨w.heap.size, 6, none⟩ (.int .i64 na)).heap[w.heap.size]? = some (nb (ncs nk nt nvt nvn nn (.slice no nln nc) na)) := set_same (set_same (set_same (set_same (set_same (set_same (set_same hb3 0 (.int .i64 nk)) 1 (.string nt)) 2 (.int .i64 nvt)) 3 (.int .i64 nvn)) 4 (.int .i64 nn)) 5 (.slice no nln nc)) 6 (.int .i64 na)
    generalize (((((((W3.setCell ⟨w.heap.size, 0, none⟩ (.int .i64 nk)).setCell ⟨w.heap.size, 1, none⟩ (.string nt)).setCell ⟨w.heap.size, 2, none⟩ (.int .i64 nvt)).setCell ⟨w.heap.size, 3, none⟩ (.int .i64 nvn)).setCell ⟨w.heap.size, 4, none⟩ (.int .i64 nn)).setCell ⟨w.heap.size, 5, none⟩ (.slice no nln nc)).setCell ⟨w.heap.size, 6, none⟩ (.int .i64 na)) = W4 at hkw hsw ⊢
    have HF4 : Hid (Kept (fun b => b = c) w W4 ∧ Ps W4 c V q ∧ W4.heap[w.heap.size + 1]? = some (nb nz) ∧ NodeIs (fun b => b ≤ w.heap.size + 1) W4 (.mk nk nt nvt nvn nn nl na) (ncs nk nt nvt nvn nn (.slice no nln nc) na)) := ⟨HF3.out.1.trans' hkw (fun i e => .inr (by omega)), HF3.out.2.1.low (fun k hk => hkw.block k (Nat.lt_of_le_of_lt hk HF3.out.2.1.lt) (by omega)), hkw.heap HF3.out.2.2.2.1 (by omega), NodeIs.kept (hkw.mono (fun b (hb : b = w.heap.size) => by show b ≤ _; omega)) _ _ HF3.out.2.2.2.2⟩
    clear hkw g0 g1 g2 g3 g4 g5 g6 gf hb3 HF3
    refine wp_region_held_drew (S := fun w' => w'.heap[w.heap.size]? = some (nb (ncs nk nt nvt nvn nn (.slice no nln nc) na))) (by kernel_rfl) hsw (fun hSS => ?_)
    have HF5 : Hid (Kept (fun b => b = c) w W4.drew ∧ Ps W4.drew c V q ∧ W4.drew.heap[w.heap.size + 1]? = some (nb nz) ∧ NodeIs (fun b => b ≤ w.heap.size + 1) W4.drew (.mk nk nt nvt nvn nn nl na) (ncs nk nt nvt nvn nn (.slice no nln nc) na)) := ⟨HF4.out.1.drew, HF4.out.2.1.no (Kept.refl No W4).drew, HF4.out.2.2.1, NodeIs.kept (Kept.refl No W4).drew.no _ _ HF4.out.2.2.2⟩
    generalize W4.drew = W5 at HF5 hSS ⊢
    clear HF4 hsw
    have HBc : Hid _ := HBo.out HF5.out.2.1
    refine wpAnyH_take (i := 0) (v := .agg #[.int .i64 nk, .string nt, .int .i64 nvt, .int .i64 nvn, .int .i64 nn, .slice no nln nc, .int .i64 na]) rfl (by kernel_rfl) (by kernel_rfl) (by kernel_rfl) (fun _ _ _ h => h) (Or.inl ⟨by rfl, by intro w' hw; obtain ⟨g0, g1, g2, g3, g4, g5, g6⟩ := nb_cells hw; go_simp⟩) hSS ?_
    try simp only [sm]
    refine tk1 1 (.pointer (some ⟨c, 0, none⟩)) rfl hSS ?_
    try simp only [sm]
    refine tk1 2 (.int .i64 ap) rfl hSS ?_
    try simp only [sm]
    refine tk1 3 (.int .i64 (lv : Int)) rfl hSS ?_
    try simp only [sm]
    refine rd1 4 rfl (fun K hK => ?_)
    go_simp
    cases hfn : G.body ap q with
    | error e =>
     obtain ⟨ea, ex⟩ := e
     rw [hfn] at HBc
     have HRe : Hid (RR = .error (ea, ex)) := by show _ = _; rw [HRg.out, hfn]
     clear hfn HRg
     refine Calls.mono HBc.out ?_
     rintro r W6 ⟨hk6, rfl⟩
     have HF : Hid (Kept (fun b => b = c) w W6) := HF5.out.1.trans hk6
     clear hk6 HBc HF5
     try go_wp2_with fail
     refine ⟨rfl, ?_⟩
     show PResP c V w RR _ _
     rw [HRe.out]
     exact ⟨HF.out, rfl⟩
    | ok z =>
     obtain ⟨⟨yk, yt, yvt, yvn, yn, yl, ya⟩, q'⟩ := z
     rw [hfn] at HBc
     have HRe : Hid (RR = .ok ((.mk nk nt nvt nvn nn nl na, .mk yk yt yvt yvn yn yl ya), q')) := by show _ = _; rw [HRg.out, hfn]
     clear hfn HRg
     refine Calls.mono HBc.out ?_
     rintro r W6 ⟨hk6, ⟨ds, rfl, hy⟩, hp6⟩
     obtain ⟨sv, rfl, hls⟩ := NodeIs.cs.1 hy
     obtain ⟨yo, yln, yc, rfl⟩ := slice_of hls
     have hS6 := hk6.heap hSS (show ¬ w.heap.size = c by omega)
     have HY6 : Hid (NodeIs (fun b => b ≤ w.heap.size + 1) W6 (.mk yk yt yvt yvn yn yl ya) (ncs yk yt yvt yvn yn (.slice yo yln yc) ya)) := NodeIs.mono (fun b (hb : b ≤ w.heap.size + 1) => by have := hp_lt HF5.out.2.2.1; show b < _; omega) _ _ hy
     have HF6 : Hid (Kept (fun b => b = c) w W6 ∧ Ps W6 c V q' ∧ W6.heap[w.heap.size + 1]? = some (nb nz) ∧ NodeIs (fun b => b ≤ w.heap.size + 1) W6 (.mk nk nt nvt nvn nn nl na) (ncs nk nt nvt nvn nn (.slice no nln nc) na)) := ⟨HF5.out.1.trans hk6, hp6, hk6.heap HF5.out.2.2.1 (show ¬ w.heap.size + 1 = c by omega), NodeIs.kept (hk6.mono (fun b (hb : b = c) => by show b ≤ _; omega)) _ _ HF5.out.2.2.2⟩
     refine hK.out _ _ hS6 (fun hSS => ?_)
     clear hK K HBc hk6 hy hls hp6 HF5 hS6
     try unfold ncs
     try simp only [sm]
     refine rd1 5 rfl (fun K hK => ?_)
     obtain ⟨r0, r1, r2, r3, r4, r5, r6⟩ := nb_cells hSS
     have rf := fun o => nb_frozen hSS o
     go_simp
     try go_wp2_with fail
     have hkw : Kept (fun b => b = w.heap.size) W6 (((((((W6.setCell ⟨w.heap.size, 0, none⟩ (.int .i64 nk)).setCell ⟨w.heap.size, 1, none⟩ (.string nt)).setCell ⟨w.heap.size, 2, none⟩ (.int .i64 nvt)).setCell ⟨w.heap.size, 3, none⟩ (.int .i64 nvn)).setCell ⟨w.heap.size, 4, none⟩ (.int .i64 nn)).setCell ⟨w.heap.size, 5, none⟩ (.slice no nln nc)).setCell ⟨w.heap.size, 6, none⟩ (.int .i64 na)) := by
      repeat refine Kept.set ?_ _ _ _ (Or.inl rfl)
      exact Kept.refl _ _
     have hsw := set_same (set_same (set_same (set_same (set_same (set_same (set_same hSS 0 (.int .i64 nk)) 1 (.string nt)) 2 (.int .i64 nvt)) 3 (.int .i64 nvn)) 4 (.int .i64 nn)) 5 (.slice no nln nc)) 6 (.int .i64 na)
     refine hK.out _ _ hsw (fun hSS => ?_)
     clear hK K r0 r1 r2 r3 r4 r5 r6 rf hsw
     obtain ⟨WZ, hWZ⟩ : ∃ WZ, (((((((W6.setCell ⟨w.heap.size, 0, none⟩ (.int .i64 nk)).setCell ⟨w.heap.size, 1, none⟩ (.string nt)).setCell ⟨w.heap.size, 2, none⟩ (.int .i64 nvt)).setCell ⟨w.heap.size, 3, none⟩ (.int .i64 nvn)).setCell ⟨w.heap.size, 4, none⟩ (.int .i64 nn)).setCell ⟨w.heap.size, 5, none⟩ (.slice no nln nc)).setCell ⟨w.heap.size, 6, none⟩ (.int .i64 na)) = WZ := ⟨_, rfl⟩
     rw [hWZ] at hkw hSS ⊢
     clear hWZ
     have HF7 : Hid (Kept (fun b => b = c) w WZ ∧ Ps WZ c V q' ∧ WZ.heap[w.heap.size + 1]? = some (nb nz) ∧ NodeIs (fun b => b ≤ w.heap.size + 1) WZ (.mk nk nt nvt nvn nn nl na) (ncs nk nt nvt nvn nn (.slice no nln nc) na) ∧ NodeIs (fun b => b ≤ w.heap.size + 1) WZ (.mk yk yt yvt yvn yn yl ya) (ncs yk yt yvt yvn yn (.slice yo yln yc) ya)) := by
      have hm : ∀ x cs, NodeIs (fun b => b ≤ w.heap.size + 1) W6 x cs → NodeIs (fun b => b ≤ w.heap.size + 1) WZ x cs := fun x cs hx => NodeIs.kept (hkw.mono (fun b (hb : b = w.heap.size) => by show b ≤ _; omega)) _ _ hx
      exact ⟨HF6.out.1.trans' hkw (fun i e => .inr (by omega)), HF6.out.2.1.low (fun k hk => hkw.block k (Nat.lt_of_le_of_lt hk HF6.out.2.1.lt) (by omega)), hkw.heap HF6.out.2.2.1 (by omega), hm _ _ HF6.out.2.2.2, hm _ _ HY6.out⟩
     clear hkw HF6 HY6
     try simp only [sm]
     refine rd1 6 rfl (fun K hK => ?_)
     obtain ⟨s0, s1, s2, s3, s4, s5, s6⟩ := nb_cells HF7.out.2.2.1
     have sf := fun o => nb_frozen HF7.out.2.2.1 o
     have n1 : w.heap.size ≠ w.heap.size + 1 := by omega
     go_simp
     try go_wp2_with fail
     refine hK.out _ _ ?_ (fun hSS => ?_)
     ·repeat refine set_other ?_ _ _ n1
      exact hSS
     clear hK K
     try simp only [sm]
     refine wpAnyH_done (by kernel_rfl) ?_ _
     obtain ⟨r0, r1, r2, r3, r4, r5, r6⟩ := nb_cells hSS
     go_wp2_with fail
     refine bodyPost_ret (v := .tuple #[.agg (ncs nk nt nvt nvn nn (.slice no nln nc) na).toArray, .agg (ncs yk yt yvt yvn yn (.slice yo yln yc) ya).toArray]) (by simp [results, Tryz.results164, go_sem, ncs, r0, r1, r2, r3, r4, r5, r6, s0, s1, s2, s3, s4, s5, s6]) rfl ?_
     show PResP c V w RR _ _
     rw [HRe.out]
     have hkz : Kept (fun b => b = w.heap.size + 1) WZ (((((((WZ.setCell ⟨w.heap.size + 1, 0, none⟩ (.int .i64 yk)).setCell ⟨w.heap.size + 1, 1, none⟩ (.string yt)).setCell ⟨w.heap.size + 1, 2, none⟩ (.int .i64 yvt)).setCell ⟨w.heap.size + 1, 3, none⟩ (.int .i64 yvn)).setCell ⟨w.heap.size + 1, 4, none⟩ (.int .i64 yn)).setCell ⟨w.heap.size + 1, 5, none⟩ (.slice yo yln yc)).setCell ⟨w.heap.size + 1, 6, none⟩ (.int .i64 ya)) := by
      repeat refine Kept.set ?_ _ _ _ (Or.inl rfl)
      exact Kept.refl _ _
     have hnz : ∀ x cs, NodeIs (fun b => b ≤ w.heap.size + 1) WZ x cs → NodeIs (fun b => b < w.heap.size) (((((((WZ.setCell ⟨w.heap.size + 1, 0, none⟩ (.int .i64 yk)).setCell ⟨w.heap.size + 1, 1, none⟩ (.string yt)).setCell ⟨w.heap.size + 1, 2, none⟩ (.int .i64 yvt)).setCell ⟨w.heap.size + 1, 3, none⟩ (.int .i64 yvn)).setCell ⟨w.heap.size + 1, 4, none⟩ (.int .i64 yn)).setCell ⟨w.heap.size + 1, 5, none⟩ (.slice yo yln yc)).setCell ⟨w.heap.size + 1, 6, none⟩ (.int .i64 ya)) x cs := fun x cs hx => NodeIs.mono (fun b (hb : b < w.heap.size) => by show b ≤ _; omega) _ _ (NodeIs.kept (hkz.mono (fun b (hb : b = w.heap.size + 1) => by show b ≤ _; omega)) _ _ hx)
     exact ⟨HF7.out.1.trans' hkz (fun i e => .inr (by omega)), ⟨_, _, rfl, hnz _ _ HF7.out.2.2.2.1, hnz _ _ HF7.out.2.2.2.2⟩, HF7.out.2.1.low (fun k hk => hkz.block k (Nat.lt_of_le_of_lt hk HF7.out.2.1.lt) (by omega))⟩
end Go.Proofs.YtgkgpjbbmnfnmaaGreatDoor

/- function. -/
namespace Go.Proofs.YtgkgpjbbmnfnmaaGreatDoor
open Go.RowKit
set_option linter.unusedSimpArgs false
set_option linter.unusedVariables false

set_option maxRecDepth 20000 in
set_option maxHeartbeats 8000000 in
theorem function_any {w : World} {c : Nat} {V : Env} {p : Nat} {G : Lev} {l : Nat} (hG : LevIs V G (l + 1)) (h : Ps w c V p) :
  Calls Tryz.prog 136 #[.pointer (some ⟨c, 0, none⟩), .int .i64 (l : Int)] w (PRes c V w (functionS V G p)) := by
 obtain ⟨W0, HW0⟩ : ∃ W0, Hid (w.alloc (nb nz) = W0) := ⟨_, show _ = _ from rfl⟩
 have HS0 : Hid (Sx w c V p (.mk 0 ⟨#[]⟩ 0 0 0 [] 0) nz W0) := by
  have ka : Kept No w W0 := by rw [← HW0.out]; exact (Kept.refl No w).alloc _
  exact ⟨ka.no, h.no ka, by rw [← HW0.out]; exact World.alloc_heap_new w _, leaf_is _ _ _ _ _ _ _ _⟩
 have hcl := h.lt
 have hle := hG.le
 obtain ⟨RR, HR⟩ : ∃ RR, Hid (functionS V G p = RR) := ⟨_, show _ = _ from rfl⟩
 rw [HR.out]
 have HE : Hid _ := named_any hG HS0.out.ps
 rw [show ((l + 1 : Nat) : Int) = (l : Int) + 1 by omega] at HE
 have u1 : IntKind.i64.wrap ((l : Int) + 1) = (l : Int) + 1 := by rw [IntKind.wrap_i64]; omega
 unfold nb nz ncs at HW0
 clear h hG
 go_enter Tryz.func136, Tryz.ntmps136
 go_wp2_with fail
 rw [HW0.out]
 clear HW0
 cases hab : namedS V G p with
 | error e =>
  obtain ⟨ea, ex⟩ := e
  rw [hab] at HE
  have HRe : Hid (RR = .error (ea, ex)) := by show _ = _; rw [← HR.out, functionS, hab]
  clear hab HR
  refine Calls.mono HE.out ?_
  rintro r W2 ⟨hk2, rfl⟩
  have HF : Hid (Kept (fun b => b = c) w W2) := HS0.out.kept.trans hk2
  clear hk2 HE HS0
  go_wp2_with fail
  refine ⟨rfl, ?_⟩
  show PRes c V w RR _ _
  rw [HRe.out]
  exact ⟨HF.out, rfl⟩
 | ok z =>
  obtain ⟨⟨⟨nk, nt, nvt, nvn, nn, nl, na⟩, ⟨yk, yt, yvt, yvn, yn, yl, ya⟩⟩, q⟩ := z
  rw [hab] at HE
  have HRe : Hid (RR = .ok (.mk 22 ⟨#[]⟩ 0 0 1 [.mk nk nt nvt nvn nn nl na, .mk yk yt yvt yvn yn yl ya] ya, q)) := by show _ = _; rw [← HR.out, functionS, hab]; rfl
  clear hab HR
  refine Calls.mono HE.out ?_
  rintro r W2 ⟨hk2, ⟨cs, ds, rfl, hx, hy⟩, hp2⟩
  obtain ⟨sv, rfl, hls⟩ := NodeIs.cs.1 hx
  obtain ⟨no, nln, nc, rfl⟩ := slice_of hls
  obtain ⟨sv, rfl, hls'⟩ := NodeIs.cs.1 hy
  obtain ⟨yo, yln, yc, rfl⟩ := slice_of hls'
  obtain ⟨W3, HW3⟩ : ∃ W3, Hid (W3 = (W2.alloc (nb (ncs nk nt nvt nvn nn (.slice no nln nc) na))).alloc (nb (ncs yk yt yvt yvn yn (.slice yo yln yc) ya))) := ⟨_, show _ = _ from rfl⟩
  have ka : Kept No W2 W3 := by rw [HW3.out]; exact ((Kept.refl No W2).alloc _).alloc _
  obtain ⟨T, HT⟩ : ∃ T, Hid (W2.heap.size = T) := ⟨_, show _ = _ from rfl⟩
  have hz1 := hp_lt HS0.out.box
  have hz2 := hk2.size
  have HS3 : Hid (Sx w c V q (.mk 0 ⟨#[]⟩ 0 0 0 [] 0) nz W3) := (HS0.out.go hcl hk2 hp2).no ka
  have hT3 : W3.heap[T]? = some (nb (ncs nk nt nvt nvn nn (.slice no nln nc) na)) ∧ W3.heap[T + 1]? = some (nb (ncs yk yt yvt yvn yn (.slice yo yln yc) ya)) := by
   rw [HW3.out, ← HT.out]
   refine ⟨((Kept.refl No (W2.alloc (nb (ncs nk nt nvt nvn nn (.slice no nln nc) na)))).alloc (nb (ncs yk yt yvt yvn yn (.slice yo yln yc) ya))).heap (World.alloc_heap_new W2 _) id, ?_⟩
   have := World.alloc_heap_new (W2.alloc (nb (ncs nk nt nvt nvn nn (.slice no nln nc) na))) (nb (ncs yk yt yvt yvn yn (.slice yo yln yc) ya))
   rw [show (W2.alloc (nb (ncs nk nt nvt nvn nn (.slice no nln nc) na))).heap.size = W2.heap.size + 1 by simp] at this
   exact this
  have hm : ∀ x cs, NodeIs (fun b => b < W0.heap.size) W2 x cs → NodeIs (fun b => b ≤ w.heap.size) W3 x cs := fun x cs hx => NodeIs.kept ka.no _ _ (NodeIs.mono (fun b (hb : b ≤ w.heap.size) => by show b < _; omega) _ _ hx)
  have HN3 : Hid (NodeIs (fun b => b ≤ w.heap.size) W3 (.mk nk nt nvt nvn nn nl na) (ncs nk nt nvt nvn nn (.slice no nln nc) na)) := hm _ _ hx
  have HY3 : Hid (NodeIs (fun b => b ≤ w.heap.size) W3 (.mk yk yt yvt yvn yn yl ya) (ncs yk yt yvt yvn yn (.slice yo yln yc) ya)) := hm _ _ hy
  have hTw : w.heap.size < T := by have := HT.out; omega
  have HT3 : Hid _ := hT3
  obtain ⟨g0, g1, g2, g3, g4, g5, g6⟩ := nb_cells hT3.1
  obtain ⟨k0, k1, k2, k3, k4, k5, k6⟩ := nb_cells hT3.2
  obtain ⟨W6, HW6⟩ : ∃ W6, Hid (W6 = W3.alloc (nb (ncs nk nt nvt nvn nn (.slice no nln nc) na ++ ncs yk yt yvt yvn yn (.slice yo yln yc) ya))) := ⟨_, show _ = _ from rfl⟩
  have kb : Kept No W3 W6 := by rw [HW6.out]; exact (Kept.refl No W3).alloc _
  obtain ⟨rb, Hrb⟩ : ∃ rb, Hid (W3.heap.size = rb) := ⟨_, show _ = _ from rfl⟩
  have hz3 := hp_lt HS3.out.box
  have HL6 : Hid _ := pair_list HN3.out HY3.out (show ¬ W3.heap.size ≤ w.heap.size by omega)
  rw [Hrb.out, ← HW6.out] at HL6
  have HK6 : Hid _ := HS3.out.kept.trans kb.no
  have HP6 : Hid _ := HS3.out.ps.no kb
  have HB6 : Hid _ := kb.heap HS3.out.box id
  obtain ⟨r0, r1, r2, r3, r4, r5, r6⟩ := nb_cells HB6.out
  have rf := fun o => nb_frozen HB6.out o
  have eT := HT.out
  have eR := Hrb.out
  clear HT Hrb
  subst eT
  subst eR
  unfold nb ncs at HW3 HW6
  simp only [List.cons_append, List.nil_append] at HW6
  clear hk2 hx hy hm hp2 hls hls' ka HE HS0 hT3 HT3 HS3 HN3 HY3 kb hz3
  unfold ncs
  go_wp2_with (first | rw [← HW3.out] | rw [← HW6.out])
  refine bodyPost_ret (v := .agg (ncs 22 ⟨#[]⟩ 0 0 1 (.slice (some ⟨W3.heap.size, 0, none⟩) 2 2) ya).toArray) (by simp [results, Tryz.results136, go_sem, ncs, r0, r1, r2, r3, r4, r5, r6]) rfl ?_
  show PRes c V w RR _ _
  rw [HRe.out]
  have HS7 := Sx.put (k := 22) (t := ⟨#[]⟩) (vt := 0) (vn := 0) (m := 1) (a := ya) hcl HK6.out HP6.out HB6.out rfl HL6.out rfl
  exact ⟨HS7.kept, ⟨_, rfl, NodeIs.mono (fun b (hb : b < w.heap.size) => Nat.le_of_lt hb) _ _ HS7.node⟩, HS7.ps⟩
end Go.Proofs.YtgkgpjbbmnfnmaaGreatDoor

/- returned. -/
namespace Go.Proofs.YtgkgpjbbmnfnmaaGreatDoor
open Go.RowKit
set_option linter.unusedSimpArgs false
set_option linter.unusedVariables false

set_option maxRecDepth 20000 in
set_option maxHeartbeats 8000000 in
theorem returned_any {w : World} {c : Nat} {V : Env} {p : Nat} {G : Lev} {l : Nat} (hG : LevIs V G (l + 1)) (h : Ps w c V p) (hp : p < V.L.length) :
  Calls Tryz.prog 100 #[.pointer (some ⟨c, 0, none⟩), .int .i64 (l : Int)] w (PRes c V w (returnedS V G p)) := by
 obtain ⟨W0, HW0⟩ : ∃ W0, Hid (w.alloc (nb nz) = W0) := ⟨_, show _ = _ from rfl⟩
 have HS0 : Hid (Sx w c V p (.mk 0 ⟨#[]⟩ 0 0 0 [] 0) nz W0) := by
  have ka : Kept No w W0 := by rw [← HW0.out]; exact (Kept.refl No w).alloc _
  exact ⟨ka.no, h.no ka, by rw [← HW0.out]; exact World.alloc_heap_new w _, leaf_is _ _ _ _ _ _ _ _⟩
 have hcl := h.lt
 have hle := hG.le
 have HLi : Hid (∀ {w' : World} {q : Nat}, Ps w' c V q → Calls Tryz.prog 134 #[.pointer (some ⟨c, 0, none⟩), .int .i64 ((l : Int) + 1)] w' (PResL c V w' (listE V G q))) := fun hq => by
  have := list_any hG hq
  rw [show ((l + 1 : Nat) : Int) = (l : Int) + 1 by omega] at this
  exact this
 obtain ⟨ap, Hap⟩ : ∃ ap, Hid (V.at p = ap) := ⟨_, show _ = _ from rfl⟩
 obtain ⟨RR, HR⟩ : ∃ RR, Hid (returnedS V G p = RR) := ⟨_, show _ = _ from rfl⟩
 rw [HR.out]
 have HTk : Hid _ := take_any HS0.out.ps hp
 obtain ⟨x, HX⟩ : ∃ x, Hid (V.tk p = x) := ⟨_, show _ = _ from rfl⟩
 have ea : ap = x.a := by rw [← Hap.out]; unfold Env.at; rw [HX.out]
 rw [HX.out] at HTk
 have fa := fun w => fd45a x w
 obtain ⟨b1, Hb1⟩ : ∃ b1, Hid (V.is [59] (p + 1) = b1) := ⟨_, show _ = _ from rfl⟩
 obtain ⟨b2, Hb2⟩ : ∃ b2, Hid (V.ends (p + 1) = b2) := ⟨_, show _ = _ from rfl⟩
 have HRf : Hid (RR = match (if !b1 && !b2 then listE V G (p + 1) else .ok ([], p + 1)) with | .error e => .error e | .ok (l, q) => .ok (nd 27 l ap, if V.is [59] q then q + 1 else q)) := by
  show _ = _
  rw [← HR.out]; unfold returnedS valuesS; rw [Hap.out, Hb1.out, Hb2.out]
  generalize (if (!b1 && !b2) = true then listE V G (p + 1) else Except.ok ([], p + 1)) = A
  cases A with
  | error e => rfl
  | ok z => rfl
 have u1 : IntKind.i64.wrap ((l : Int) + 1) = (l : Int) + 1 := by rw [IntKind.wrap_i64]; omega
 obtain ⟨zk, zt, zvt, zvn, zsy, za, ze⟩ := x
 dsimp only at fa ea
 subst ea
 unfold nb nz ncs at HW0
 clear h hG HR
 go_enter Tryz.func100, Tryz.ntmps100
 go_wp2_with fail
 rw [HW0.out]
 clear HW0
 refine Calls.mono HTk.out ?_
 rintro r W1 ⟨rfl, hk1, hp1⟩
 have HS1 : Hid (Sx w c V (p + 1) (.mk 0 ⟨#[]⟩ 0 0 0 [] 0) nz W1) := HS0.out.go hcl hk1 hp1
 obtain ⟨W2, HW2⟩ : ∃ W2, Hid (W2 = W1.alloc (nb (ncs 27 ⟨#[]⟩ 0 0 0 (.slice none 0 0) ap))) := ⟨_, show _ = _ from rfl⟩
 have ka : Kept No W1 W2 := by rw [HW2.out]; exact (Kept.refl No W1).alloc _
 obtain ⟨T, HT⟩ : ∃ T, Hid (W1.heap.size = T) := ⟨_, show _ = _ from rfl⟩
 have hz1 := hp_lt HS1.out.box
 have hTw : w.heap.size < T := by have := HT.out; omega
 have HS2 : Hid (Sx w c V (p + 1) (.mk 0 ⟨#[]⟩ 0 0 0 [] 0) nz W2) := HS1.out.no ka
 have HT2 : Hid (W2.heap[T]? = some (nb (ncs 27 ⟨#[]⟩ 0 0 0 (.slice none 0 0) ap))) := by show _ = _; rw [HW2.out, ← HT.out]; exact World.alloc_heap_new W1 _
 have HIs : Hid (Calls Tryz.prog 99 #[.pointer (some ⟨c, 0, none⟩), .string ⟨#[59]⟩] W2 fun r w' => r = .returned (.bool b1) ∧ Kept No W2 w') := by
  have := is_any HS2.out.ps ⟨#[59]⟩
  rw [show V.is (⟨#[59]⟩ : ByteArray).data.toList (p + 1) = b1 from Hb1.out] at this
  exact this
 unfold nb ncs at HW2
 clear hk1 hp1 HTk HS0 HS1 ka hz1
 unfold tv
 dsimp only
 go_wp2_with (first | rw [← HW2.out])
 try rw [HT.out]
 clear HW2 HT
 refine Calls.mono HIs.out ?_
 rintro r W3 ⟨rfl, hk3⟩
 have HS3 : Hid _ := HS2.out.no hk3
 have HT3 : Hid (W3.heap[T]? = some (nb (ncs 27 ⟨#[]⟩ 0 0 0 (.slice none 0 0) ap))) := hk3.heap HT2.out id
 clear HS2 HT2 hk3 HIs
 cases b1 with
 | true =>
  have HRe : Hid (RR = .ok (nd 27 [] ap, if V.is [59] (p + 1) then p + 1 + 1 else p + 1)) := by show _ = _; rw [HRf.out]; rfl
  clear HRf HLi Hb1 Hb2
  have HTo : Hid (Calls Tryz.prog 98 #[.pointer (some ⟨c, 0, none⟩), .string ⟨#[59]⟩] _ _) := took_any HS3.out.ps ⟨#[59]⟩ (by decide)
  go_wp2_with fail
  refine Calls.mono HTo.out ?_
  rintro r W7 ⟨rfl, hk7, hp7⟩
  have HS7 : Hid (Sx w c V _ (.mk 0 ⟨#[]⟩ 0 0 0 [] 0) nz W7) := HS3.out.go hcl hk7 hp7
  have HT7 : Hid (W7.heap[T]? = some (nb (ncs 27 ⟨#[]⟩ 0 0 0 (.slice none 0 0) ap))) := hk7.heap HT3.out (show ¬ T = c by omega)
  have HL7 : Hid (ListIs (fun b => b ≤ w.heap.size) W7 ([]) (.slice none 0 0)) := ListIs.kept (hk7.mono (fun b (hb : b = c) => by show b ≤ _; omega)) (.inl ⟨rfl, rfl⟩)
  obtain ⟨g0, g1, g2, g3, g4, g5, g6⟩ := nb_cells HT7.out
  obtain ⟨r0, r1, r2, r3, r4, r5, r6⟩ := nb_cells HS7.out.box
  have rf := fun o => nb_frozen HS7.out.box o
  clear hk7 hp7 HTo HS3 HT3
  go_wp2_with fail
  refine bodyPost_ret (v := .agg (ncs 27 ⟨#[]⟩ 0 0 0 (.slice none 0 0) ap).toArray) (by simp [results, Tryz.results100, go_sem, ncs, r0, r1, r2, r3, r4, r5, r6]) rfl ?_
  show PRes c V w RR _ _
  rw [HRe.out]
  have HS8 := Sx.put (k := 27) (t := ⟨#[]⟩) (vt := 0) (vn := 0) (m := 0) (a := ap) hcl HS7.out.kept HS7.out.ps HS7.out.box rfl HL7.out rfl
  exact ⟨HS8.kept, ⟨_, rfl, NodeIs.mono (fun b (hb : b < w.heap.size) => Nat.le_of_lt hb) _ _ HS8.node⟩, HS8.ps⟩
 | false =>
  have HEn : Hid (Calls Tryz.prog 97 #[.pointer (some ⟨c, 0, none⟩)] W3 fun r w' => r = .returned (.bool b2) ∧ Kept No W3 w') := by
   have := endsBlock_any HS3.out.ps
   rw [Hb2.out] at this
   exact this
  go_wp2_with fail
  refine Calls.mono HEn.out ?_
  rintro r W4 ⟨rfl, hk4⟩
  have HS4 : Hid _ := HS3.out.no hk4
  have HT4 : Hid (W4.heap[T]? = some (nb (ncs 27 ⟨#[]⟩ 0 0 0 (.slice none 0 0) ap))) := hk4.heap HT3.out id
  clear HS3 HT3 hk4 HEn
  cases b2 with
  | true =>
   have HRe : Hid (RR = .ok (nd 27 [] ap, if V.is [59] (p + 1) then p + 1 + 1 else p + 1)) := by show _ = _; rw [HRf.out]; rfl
   clear HRf HLi Hb1 Hb2
   have HTo : Hid (Calls Tryz.prog 98 #[.pointer (some ⟨c, 0, none⟩), .string ⟨#[59]⟩] _ _) := took_any HS4.out.ps ⟨#[59]⟩ (by decide)
   go_wp2_with fail
   refine Calls.mono HTo.out ?_
   rintro r W7 ⟨rfl, hk7, hp7⟩
   have HS7 : Hid (Sx w c V _ (.mk 0 ⟨#[]⟩ 0 0 0 [] 0) nz W7) := HS4.out.go hcl hk7 hp7
   have HT7 : Hid (W7.heap[T]? = some (nb (ncs 27 ⟨#[]⟩ 0 0 0 (.slice none 0 0) ap))) := hk7.heap HT4.out (show ¬ T = c by omega)
   have HL7 : Hid (ListIs (fun b => b ≤ w.heap.size) W7 ([]) (.slice none 0 0)) := ListIs.kept (hk7.mono (fun b (hb : b = c) => by show b ≤ _; omega)) (.inl ⟨rfl, rfl⟩)
   obtain ⟨g0, g1, g2, g3, g4, g5, g6⟩ := nb_cells HT7.out
   obtain ⟨r0, r1, r2, r3, r4, r5, r6⟩ := nb_cells HS7.out.box
   have rf := fun o => nb_frozen HS7.out.box o
   clear hk7 hp7 HTo HS4 HT4
   go_wp2_with fail
   refine bodyPost_ret (v := .agg (ncs 27 ⟨#[]⟩ 0 0 0 (.slice none 0 0) ap).toArray) (by simp [results, Tryz.results100, go_sem, ncs, r0, r1, r2, r3, r4, r5, r6]) rfl ?_
   show PRes c V w RR _ _
   rw [HRe.out]
   have HS8 := Sx.put (k := 27) (t := ⟨#[]⟩) (vt := 0) (vn := 0) (m := 0) (a := ap) hcl HS7.out.kept HS7.out.ps HS7.out.box rfl HL7.out rfl
   exact ⟨HS8.kept, ⟨_, rfl, NodeIs.mono (fun b (hb : b < w.heap.size) => Nat.le_of_lt hb) _ _ HS8.node⟩, HS8.ps⟩
  | false =>
   have HLc : Hid _ := HLi.out HS4.out.ps
   go_wp2_with fail
   cases hab : listE V G (p + 1) with
   | error e =>
    obtain ⟨ea, ex⟩ := e
    rw [hab] at HLc
    have HRe : Hid (RR = .error (ea, ex)) := by show _ = _; rw [HRf.out, hab]; rfl
    clear hab HRf
    refine Calls.mono HLc.out ?_
    rintro r W5 ⟨hk5, rfl⟩
    have HF : Hid (Kept (fun b => b = c) w W5) := HS4.out.kept.trans hk5
    clear hk5 HLc HS4
    go_wp2_with fail
    refine ⟨rfl, ?_⟩
    show PRes c V w RR _ _
    rw [HRe.out]
    exact ⟨HF.out, rfl⟩
   | ok z =>
    obtain ⟨ls, q⟩ := z
    rw [hab] at HLc
    have HRe : Hid (RR = .ok (nd 27 ls ap, if V.is [59] q then q + 1 else q)) := by show _ = _; rw [HRf.out, hab]; rfl
    clear hab HRf
    refine Calls.mono HLc.out ?_
    rintro r W5 ⟨hk5, ⟨sv, rfl, hl5⟩, hp5⟩
    obtain ⟨so, sn, sc, rfl⟩ := slice_of hl5
    have hT5 := hk5.heap HT4.out (show ¬ T = c by omega)
    have hz4 := hp_lt HT4.out
    have HS5 : Hid (Sx w c V q (.mk 0 ⟨#[]⟩ 0 0 0 [] 0) nz W5) := HS4.out.go hcl hk5 hp5
    obtain ⟨g0, g1, g2, g3, g4, g5, g6⟩ := nb_cells hT5
    have gf := fun o => nb_frozen hT5 o
    have kw : Kept (fun b => b = T) W5 (W5.setCell ⟨T, 5, none⟩ (.slice so sn sc)) := Kept.set (Kept.refl _ _) _ _ _ (Or.inl rfl)
    have hT6 := set_same hT5 5 (.slice so sn sc)
    have HS6' : Hid (Sx w c V q (.mk 0 ⟨#[]⟩ 0 0 0 [] 0) nz (W5.setCell ⟨T, 5, none⟩ (.slice so sn sc))) :=
     ⟨HS5.out.kept.trans' kw (fun i e => .inr (by omega)), HS5.out.ps.low (fun j hj => kw.block j (Nat.lt_of_le_of_lt hj HS5.out.ps.lt) (by omega)), kw.heap HS5.out.box (by omega), leaf_is _ _ _ _ _ _ _ _⟩
    have HL6' : Hid (ListIs (fun b => b ≤ w.heap.size) (W5.setCell ⟨T, 5, none⟩ (.slice so sn sc)) ls (.slice so sn sc)) :=
     ListIs.mono (fun b (hb : b ≤ w.heap.size) => by show b ≤ T; omega) (ListIs.kept (kw.mono (fun b (hb : b = T) => by show b ≤ T; omega)) (ListIs.mono (fun b (hb : b ≤ T) => by show b < _; omega) hl5))
    obtain ⟨W6, HW6⟩ : ∃ W6, Hid (W6 = W5.setCell ⟨T, 5, none⟩ (.slice so sn sc)) := ⟨_, show _ = _ from rfl⟩
    have HT6 : Hid (W6.heap[T]? = some (nb (ncs 27 ⟨#[]⟩ 0 0 0 (.slice so sn sc) ap))) := by show _ = _; rw [HW6.out]; exact hT6
    have HS6 : Hid (Sx w c V q (.mk 0 ⟨#[]⟩ 0 0 0 [] 0) nz W6) := by rw [HW6.out]; exact HS6'.out
    have HL6 : Hid (ListIs (fun b => b ≤ w.heap.size) W6 ls (.slice so sn sc)) := by rw [HW6.out]; exact HL6'.out
    clear HL6' HS6' hT6 kw hl5 hk5 hp5 HS4 HT4 HS5 hT5 HLc HLi Hb1 Hb2
    try go_wp2_with (first | rw [← HW6.out])
    clear g0 g1 g2 g3 g4 g5 g6 gf HW6
    have HTo : Hid (Calls Tryz.prog 98 #[.pointer (some ⟨c, 0, none⟩), .string ⟨#[59]⟩] _ _) := took_any HS6.out.ps ⟨#[59]⟩ (by decide)
    go_wp2_with fail
    refine Calls.mono HTo.out ?_
    rintro r W7 ⟨rfl, hk7, hp7⟩
    have HS7 : Hid (Sx w c V _ (.mk 0 ⟨#[]⟩ 0 0 0 [] 0) nz W7) := HS6.out.go hcl hk7 hp7
    have HT7 : Hid (W7.heap[T]? = some (nb (ncs 27 ⟨#[]⟩ 0 0 0 (.slice so sn sc) ap))) := hk7.heap HT6.out (show ¬ T = c by omega)
    have HL7 : Hid (ListIs (fun b => b ≤ w.heap.size) W7 (ls) (.slice so sn sc)) := ListIs.kept (hk7.mono (fun b (hb : b = c) => by show b ≤ _; omega)) HL6.out
    obtain ⟨g0, g1, g2, g3, g4, g5, g6⟩ := nb_cells HT7.out
    obtain ⟨r0, r1, r2, r3, r4, r5, r6⟩ := nb_cells HS7.out.box
    have rf := fun o => nb_frozen HS7.out.box o
    clear hk7 hp7 HTo HS6 HT6
    go_wp2_with fail
    refine bodyPost_ret (v := .agg (ncs 27 ⟨#[]⟩ 0 0 0 (.slice so sn sc) ap).toArray) (by simp [results, Tryz.results100, go_sem, ncs, r0, r1, r2, r3, r4, r5, r6]) rfl ?_
    show PRes c V w RR _ _
    rw [HRe.out]
    have HS8 := Sx.put (k := 27) (t := ⟨#[]⟩) (vt := 0) (vn := 0) (m := 0) (a := ap) hcl HS7.out.kept HS7.out.ps HS7.out.box rfl HL7.out rfl
    exact ⟨HS8.kept, ⟨_, rfl, NodeIs.mono (fun b (hb : b < w.heap.size) => Nat.le_of_lt hb) _ _ HS8.node⟩, HS8.ps⟩
end Go.Proofs.YtgkgpjbbmnfnmaaGreatDoor

/- Rows of trees that keep clear of some more blocks. -/
namespace Go.Proofs.YtgkgpjbbmnfnmaaGreatDoor
open Go.RowKit
set_option linter.unusedSimpArgs false
set_option linter.unusedVariables false

/-- .. and these. -/
def OutZ (Z : Nat → Prop) (B : Nat) (v : Value) (b : Nat) : Prop := Out B v b ∨ Z b
structure BldZ (Z : Nat → Prop) (B : Nat) (w : World) (v : Value) (l : List Tr) : Prop where
 out : ∀ k, v.ownBlock = some k → ¬ Z k
 ex : ∃ css : List (List Value), css.length = l.length ∧ w.ownsRow B 43 7 v l.length css.flatten ∧ ∀ j (h1 : j < l.length) (h2 : j < css.length), NodeIs (OutZ Z B v) w l[j] css[j]
/-- A box is made behind a row. -/
theorem Bld.box {B : Nat} {w : World} {v : Value} {l : List Tr} (h : Bld B w v l) (o : Obj) : BldZ (fun b => b = w.heap.size) B (w.alloc o) v l := by
 have hlt := h.own_lt
 obtain ⟨css, e, ho, hn⟩ := h.ex
 have hk : Kept No w (w.alloc o) := (Kept.refl No w).alloc _
 refine ⟨fun k e hk => by have := hlt k e; omega, css, e, ?_, fun j h1 h2 => ?_⟩
 ·obtain ⟨o1, o2 | ⟨g, cap, cur, o3, o4, o5, o6⟩⟩ := ho
  ·exact ⟨o1, .inl o2⟩
  ·exact ⟨o1, .inr ⟨g, cap, cur, o3, o4, hk.heap o5 id, o6⟩⟩
 ·refine NodeIs.kept hk.no _ _ (NodeIs.mono ?_ _ _ (NodeIs.more _ _ (hn j h1 h2)))
  rintro b (hb | hb)
  ·exact .inl hb
  ·exact .inr (Nat.le_of_eq hb.symm)
/-- What is kept but for those blocks keeps the row. -/
theorem BldZ.go {Z : Nat → Prop} {B : Nat} {w w' : World} {v : Value} {l : List Tr} (h : BldZ Z B w v l) (hk : Kept (fun b => b < B ∨ Z b) w w') : BldZ Z B w' v l := by
 obtain ⟨css, e, ho, hn⟩ := h.ex
 refine ⟨h.out, css, e, ?_, fun j h1 h2 => ?_⟩
 ·obtain ⟨o1, o2 | ⟨g, cap, cur, o3, o4, o5, o6⟩⟩ := ho
  ·exact ⟨o1, .inl o2⟩
  ·refine ⟨o1, .inr ⟨g, cap, cur, o3, o4, hk.heap o5 ?_, o6⟩⟩
   rintro (hb | hb)
   ·omega
   ·exact h.out g (by rw [o3]; rfl) hb
 ·refine NodeIs.kept (hk.mono ?_) _ _ (hn j h1 h2)
  rintro b (hb | hb)
  ·exact .inl (.inl hb)
  ·exact .inr hb
theorem BldZ.list {Z : Nat → Prop} {B : Nat} {w : World} {v : Value} {l : List Tr} (h : BldZ Z B w v l) : ListIs (fun b => b < B ∨ Z b) w l v := by
 have hout := h.out
 obtain ⟨css, e, ⟨o1, o2⟩, hn⟩ := h.ex
 rcases o2 with ⟨h2, h3⟩ | ⟨g, cap, cur, h3, h4, h5, h6, h7, h8, h9⟩
 ·exact .inl ⟨List.length_eq_zero_iff.1 h3, h2⟩
 ·have hlt : g < w.heap.size := (Array.getElem?_eq_some_iff.1 h5).1
  refine .inr ⟨g, 0, cap, h3, ?_, ⟨hlt, h6⟩, ?_⟩
  ·rintro (hb | hb)
   ·omega
   ·exact hout g (by rw [h3]; rfl) hb
  refine RowAt.mono (fun b hb => hb.elim (fun h => .inl (.inl h)) .inr) g 0 l 0 (row_of (S := OutZ Z B v) l css 0 e hn (fun k hk i hi => ?_))
  have hkl : k < l.length := by omega
  rw [← flat_at css (fun cs hcs => by
   obtain ⟨m, hm, rfl⟩ := List.getElem_of_mem hcs
   exact (hn m (by omega) hm).len) k hk i hi]
  rw [cell_of h5, ← h9, List.getElem?_take, if_pos (by omega), Array.getElem?_toList]
  congr 1
  omega
theorem BldZ.more {Z : Nat → Prop} {B : Nat} {w w' : World} {v v' : Value} {l m : List Tr} (h : BldZ Z B w v l) {css dss : List (List Value)} (he : css.length = l.length) (hd : dss.length = m.length)
  (hn : ∀ j (h1 : j < l.length) (h2 : j < css.length), NodeIs (OutZ Z B v) w l[j] css[j]) (hm : ∀ j (h1 : j < m.length) (h2 : j < dss.length), NodeIs (OutZ Z B v) w m[j] dss[j])
  (hown : w'.ownsRow B 43 7 v' (l.length + m.length) (css.flatten ++ dss.flatten)) (hg : w.grownBy w' v.ownBlock) (hZ : ∀ b, Z b → b < w.heap.size) (hv : v'.ownBlock = v.ownBlock ∨ ∀ k, v'.ownBlock = some k → w.heap.size ≤ k) : BldZ Z B w' v' (l ++ m) := by
 have hk : Kept (OutZ Z B v) w w' := (Kept.refl _ w).grown hg (fun k e => .inl (.inl (.inr e)))
 have key : ∀ y ds, NodeIs (OutZ Z B v) w y ds → NodeIs (OutZ Z B v') w' y ds := by
  intro y ds hy
  rcases hv with hv | hv
  ·have := NodeIs.kept hk y ds hy
   unfold OutZ Out at this ⊢
   rw [hv]; exact this
  ·have h1 := NodeIs.kept (hk.mono (fun b hb => .inl hb)) y ds (NodeIs.more y ds hy)
   refine NodeIs.mono ?_ y ds h1
   rintro b ((hb | hb) | hb)
   ·exact .inl (.inl (.inl hb))
   ·exact .inr (hv b hb)
   ·exact .inl (.inr hb)
 refine ⟨fun k e hk => ?_, ⟨css ++ dss, by simp [he, hd], by rw [List.flatten_append, List.length_append]; exact hown, fun j h1 h2 => ?_⟩⟩
 ·rcases hv with hv | hv
  ·rw [hv] at e; exact h.out k e hk
  ·have := hv k e; have := hZ k hk; omega
 by_cases hj : j < l.length
 ·have hj2 : j < css.length := by omega
  rw [List.getElem_append_left hj, List.getElem_append_left hj2]
  exact key _ _ (hn j hj hj2)
 ·have h1' := h1
  rw [List.length_append] at h1'
  rw [List.getElem_append_right (by omega), List.getElem_append_right (by omega)]
  simp only [he]
  exact key _ _ (hm _ (by omega) (by omega))
/-- What an append of a list of trees does. -/
theorem run_app_listZ {w : World} {ty : TypeId} {Z : Nat → Prop} {B : Nat} {v xv : Value} {l m : List Tr} (hb : BldZ Z B w v l) (hm : ListIs (OutZ Z B v) w m xv) (hl : l.length ≤ 10000) (hml : m.length ≤ 10000) (hB : B ≤ w.heap.size) (hZ : ∀ b, Z b → b < w.heap.size) :
  ∃ v' w', (Builtin.append_ #[41, 41] ty #[v, xv]).run Tryz.prog w = .ok v' w' ∧ BldZ Z B w' v' (l ++ m) ∧ w.grownBy w' v.ownBlock ∧ (∃ ao n cap, v' = .slice ao n cap) := by
 obtain ⟨i0, hi, hz0, hz1, hz2⟩ := info_parts infoN
 obtain ⟨css, hce, hown, hcn⟩ := hb.ex
 rcases hm with ⟨rfl, rfl⟩ | ⟨b, o, cap, rfl, hbS, hbl, hrow⟩
 ·refine ⟨v, w, run_append_owned_none (P := Tryz.prog) w B 41 ty 43 i0 7 Tryz.underlying41 hi v _ _ hown, by rw [List.append_nil]; exact hb, ⟨rfl, rfl, rfl, Nat.le_refl _, fun _ _ _ => rfl⟩, ?_⟩
  rcases hown.2 with ⟨hv, _⟩ | ⟨g, cap, cur, hv, _⟩
  ·exact ⟨_, _, _, hv⟩
  ·exact ⟨_, _, _, hv⟩
 ·obtain ⟨dss, hd, hdn, hdc⟩ := row_ex m 0 hrow
  have h7 : ∀ cs ∈ dss, cs.length = 7 := fun cs hcs => by
   obtain ⟨j, hj, rfl⟩ := List.getElem_of_mem hcs
   exact (hdn j (by omega) hj).len
  have hfl := flat_len dss h7
  obtain ⟨v', w', hr, h2, h3, h4, h5⟩ := run_append_own_at (P := Tryz.prog) w B 41 ty 43 i0 (.agg #[.int .i64 0, .string ⟨#[]⟩, .int .i64 0, .int .i64 0, .int .i64 0, .slice none 0 0, .int .i64 0]) 7 80 Tryz.underlying41 hi hz0 hz1 hz2 rfl (by decide) v l.length css.flatten hown ⟨b, o, none⟩ m.length cap dss.flatten (by rw [hfl, hd])
   (fun j u hu => by
    have hj : j < dss.flatten.length := (List.getElem?_eq_some_iff.1 hu).1
    have h1 : j / 7 < dss.length := by omega
    have h2 := flat_at dss h7 (j / 7) h1 (j % 7) (Nat.mod_lt _ (by decide))
    have h3 := hdc (j / 7) h1 (j % 7) (Nat.mod_lt _ (by decide))
    rw [show j / 7 * 7 + j % 7 = j by omega, hu] at h2
    rw [← h2] at h3
    rw [show o + (0 + j / 7) * 7 + j % 7 = o + j by omega] at h3
    rw [show (⟨b, o, none⟩ : Addr).add j = ⟨b, o + j, none⟩ by simp [Addr.add]]
    exact h3)
   (fun u hu => by
    obtain ⟨cs, hcs, hu⟩ := List.mem_flatten.1 hu
    obtain ⟨j, hj, rfl⟩ := List.getElem_of_mem hcs
    exact node_one (hdn j (by omega) hj) u hu) (by unfold maxLen; omega) (by omega) hB
  refine ⟨v', w', hr, hb.more hce hd hcn hdn h2 h3 hZ ?_, h3, ?_⟩
  ·rcases h5 with h | h
   ·exact .inl h
   ·refine .inr (fun k e => ?_)
    rw [h] at e
    injection e with e
    exact Nat.le_of_eq e
  ·rcases h2.2 with ⟨hv, _⟩ | ⟨g, cap, cur, hv, _⟩
   ·exact ⟨_, _, _, hv⟩
   ·exact ⟨_, _, _, hv⟩
/-- .. in a region that draws its order. -/
theorem app_listZ {o : Oper} {a : Act} {K : Act → World → Prop} {Q : Exit → Act → World → Prop} {w : World} (s x : Operand) (ho : o.op = .call { callee := .builtin .append, args := #[s, x], argTypes := #[41, 41] })
  {Z : Nat → Prop} {B : Nat} {v xv : Value} {l m : List Tr} (hs : a.eval s = v) (hx : a.eval x = xv) (hb : BldZ Z B w v l) (hm : ListIs (OutZ Z B v) w m xv) (hl : l.length ≤ 10000) (hml : m.length ≤ 10000) (hB : B ≤ w.heap.size) (hZ : ∀ b, Z b → b < w.heap.size)
  (h : ∀ v' w', BldZ Z B w' v' (l ++ m) → w.grownBy w' v.ownBlock → (∃ ao n cap, v' = .slice ao n cap) → K (a.put o.dst v') w') : o.wp Tryz.prog a w K Q := by
 obtain ⟨v', w', hr, h1, h2, h3⟩ := run_app_listZ (ty := o.type) hb hm hl hml hB hZ
 unfold Oper.wp execOp
 simp only [ho, resolve, invoke, builtin, Sem.run_bind, Sem.run_pure, Result.andThen_ok, List.map_toArray, List.map_cons, List.map_nil, hs, hx, hr]
 exact h v' w' h1 h2 h3
end Go.Proofs.YtgkgpjbbmnfnmaaGreatDoor
