/- Joined: T9 TA. -/
import Derived.Test.YtgkgpjbbmnfnmaaGreatDoorGF
/- stem, itemKey. -/
namespace Go.Proofs.YtgkgpjbbmnfnmaaGreatDoor
open Go.RowKit
set_option linter.unusedSimpArgs false
set_option linter.unusedVariables false

set_option maxRecDepth 20000 in
set_option maxHeartbeats 8000000 in
theorem stem_any {w : World} {c : Nat} {V : Env} {p : Nat} {G : Lev} {l : Nat} (hG : LevIs V G (l + 1)) (h : Ps w c V p) :
  Calls Tryz.prog 189 #[.pointer (some ⟨c, 0, none⟩), .int .i64 (l : Int)] w (PRes c V w (stemE V G p)) := by
 obtain ⟨W0, HW0⟩ : ∃ W0, Hid (w.alloc (nb nz) = W0) := ⟨_, show _ = _ from rfl⟩
 have HK0 : Hid (Kept No w W0 ∧ W0.heap.size = w.heap.size + 1) := by
  refine ⟨?_, ?_⟩
  ·rw [← HW0.out]; exact (Kept.refl No w).alloc _
  ·rw [← HW0.out]; simp
 have HT0 : Hid (W0.heap[w.heap.size]? = some (nb nz)) := by show _ = _; rw [← HW0.out]; exact World.alloc_heap_new w _
 have hcl := h.lt
 have HTo := took_any (h.no HK0.out.1) ⟨#[40]⟩ (by decide)
 have hle := hG.le
 have HL : Hid (∀ {w' : World} {q : Nat}, Ps w' c V q → Calls Tryz.prog 163 #[.pointer (some ⟨c, 0, none⟩), .int .i64 ((l : Int) + 1)] w' (PRes c V w' (G.above 0 q))) := fun hq => by
  have := expr_any hG hq
  rw [show ((l + 1 : Nat) : Int) = (l : Int) + 1 by omega] at this
  exact this
 unfold nb nz ncs at HW0
 unfold stemE
 cases hb : V.is [40] p with
 | false =>
  rw [show V.is (⟨#[40]⟩ : ByteArray).data.toList p = false from hb, if_neg (by decide)] at HTo
  rw [if_neg (by decide)]
  have HT : Hid _ := HTo
  clear HTo h hb hG HL
  cases hR : V.name p with
  | error e =>
   obtain ⟨a, x⟩ := e
   go_enter Tryz.func189, Tryz.ntmps189
   go_wp2_with fail
   rw [HW0.out]
   refine Calls.mono HT.out ?_
   rintro r W1 ⟨rfl, hk1, hp1⟩
   have HE1 := pname_any hp1
   rw [hR] at HE1
   have HE : Hid _ := HE1
   have HK1 : Hid (Kept (fun b => b = c) w W1) := HK0.out.1.no.trans hk1
   clear hk1 hp1 HT HE1 hR HK0 HT0 HW0
   go_wp2_with fail
   refine Calls.mono HE.out ?_
   rintro r W2 ⟨hk2, rfl⟩
   have HK2 : Hid (Kept (fun b => b = c) w W2) := HK1.out.trans hk2
   clear hk2 HK1 HE
   go_wp2_with fail
   exact ⟨rfl, HK2.out, rfl⟩
  | ok y =>
   obtain ⟨⟨yk, yt, yvt, yvn, yn, yl, ya⟩, q⟩ := y
   go_enter Tryz.func189, Tryz.ntmps189
   go_wp2_with fail
   rw [HW0.out]
   refine Calls.mono HT.out ?_
   rintro r W1 ⟨rfl, hk1, hp1⟩
   have HE1 := pname_any hp1
   rw [hR] at HE1
   have HE : Hid _ := HE1
   have HK1 : Hid (Kept (fun b => b = c) w W1 ∧ W1.heap[w.heap.size]? = some (nb nz) ∧ w.heap.size + 1 ≤ W1.heap.size) := ⟨HK0.out.1.no.trans hk1, hk1.heap HT0.out (by omega), by have := hk1.size; have := HK0.out.2; omega⟩
   clear hk1 hp1 HT HE1 hR HK0 HT0 HW0
   go_wp2_with fail
   refine Calls.mono HE.out ?_
   rintro r W2 ⟨hk2, ⟨cs, rfl, hy⟩, hp2⟩
   obtain ⟨sv, rfl, hl⟩ := NodeIs.cs.1 hy
   obtain ⟨ao, ln, cp, rfl⟩ := slice_of hl
   have hR1 : W2.heap[w.heap.size]? = some (nb nz) := hk2.heap HK1.out.2.1 (by omega)
   have HF : Hid (Kept (fun b => b = c) w W2 ∧ NodeIs (fun b => b < w.heap.size + 1) W2 (.mk yk yt yvt yvn yn yl ya) (ncs yk yt yvt yvn yn (.slice ao ln cp) ya) ∧ Ps W2 c V q) :=
    ⟨HK1.out.1.trans hk2, NodeIs.mono (fun b (hb : b < w.heap.size + 1) => Nat.lt_of_lt_of_le hb HK1.out.2.2) _ _ hy, hp2⟩
   obtain ⟨r0, r1, r2, r3, r4, r5, r6⟩ := nb_cells hR1
   have rf := fun o => nb_frozen hR1 o
   clear hk2 hy hp2 HE hl hR1 HK1
   unfold ncs
   go_wp2_with fail
   refine bodyPost_ret (v := .agg (ncs yk yt yvt yvn yn (.slice ao ln cp) ya).toArray) (by simp [results, Tryz.results189, go_sem, ncs, r0, r1, r2, r3, r4, r5, r6]) rfl ?_
   refine ⟨?_, ⟨_, rfl, NodeIs.mono (fun b (hb : b < w.heap.size) => Nat.lt_succ_of_lt hb) _ _ (NodeIs.kept ?_ _ _ HF.out.2.1)⟩, HF.out.2.2.low (fun k hk => ?_)⟩
   ·repeat refine Kept.set ?_ _ _ _ (Or.inr (Nat.le_refl _))
    exact HF.out.1
   ·repeat refine Kept.set ?_ _ _ _ (Or.inl (Nat.lt_succ_self _))
    exact Kept.refl _ _
   ·have hkR : k ≠ w.heap.size := by omega
    repeat rw [set_low _ _ _ hkR]
 | true =>
  rw [show V.is (⟨#[40]⟩ : ByteArray).data.toList p = true from hb, if_pos rfl] at HTo
  rw [if_pos rfl]
  have HT : Hid _ := HTo
  clear HTo h hb hG
  cases hR : G.above 0 (p + 1) with
  | error e =>
   obtain ⟨a, x⟩ := e
   dsimp only
   go_enter Tryz.func189, Tryz.ntmps189
   go_wp2_with fail
   rw [HW0.out]
   refine Calls.mono HT.out ?_
   rintro r W1 ⟨rfl, hk1, hp1⟩
   have HE1 := HL.out hp1
   rw [hR] at HE1
   have HE : Hid _ := HE1
   have HK1 : Hid (Kept (fun b => b = c) w W1) := HK0.out.1.no.trans hk1
   clear hk1 hp1 HT HE1 hR HK0 HT0 HW0 HL
   go_wp2_with fail
   refine Calls.mono HE.out ?_
   rintro r W2 ⟨hk2, rfl⟩
   have HK2 : Hid (Kept (fun b => b = c) w W2) := HK1.out.trans hk2
   clear hk2 HK1 HE
   go_wp2_with fail
   exact ⟨rfl, HK2.out, rfl⟩
  | ok y =>
   obtain ⟨⟨yk, yt, yvt, yvn, yn, yl, ya⟩, q⟩ := y
   dsimp only
   unfold Env.need
   cases hb2 : V.is [41] q with
   | false =>
    rw [if_neg (by decide)]
    unfold Env.wrong
    dsimp only
    go_enter Tryz.func189, Tryz.ntmps189
    go_wp2_with fail
    rw [HW0.out]
    refine Calls.mono HT.out ?_
    rintro r W1 ⟨rfl, hk1, hp1⟩
    have HE1 := HL.out hp1
    rw [hR] at HE1
    have HE : Hid _ := HE1
    have HK1 : Hid (Kept (fun b => b = c) w W1 ∧ W1.heap[w.heap.size]? = some (nb nz) ∧ w.heap.size + 1 ≤ W1.heap.size) := ⟨HK0.out.1.no.trans hk1, hk1.heap HT0.out (by omega), by have := hk1.size; have := HK0.out.2; omega⟩
    clear hk1 hp1 HT HE1 hR HK0 HT0 HW0 HL
    go_wp2_with fail
    refine Calls.mono HE.out ?_
    rintro r W2 ⟨hk2, ⟨cs, rfl, hy⟩, hp2⟩
    obtain ⟨sv, rfl, hl⟩ := NodeIs.cs.1 hy
    obtain ⟨ao, ln, cp, rfl⟩ := slice_of hl
    have HN : Hid (∀ o, Calls Tryz.prog 166 #[.pointer (some ⟨c, 0, none⟩), .string ⟨#[41]⟩] (W2.alloc o) fun r w' => r = stopW (V.at q) 6 ∧ Kept (fun b => b = c) (W2.alloc o) w') := fun o => need_bad (hp2.no ((Kept.refl No W2).alloc o)) ⟨#[41]⟩ (by decide) hb2
    have HF : Hid (Kept (fun b => b = c) w W2) := HK1.out.1.trans hk2
    clear hk2 hy hp2 HE hl HK1 hb2
    unfold ncs
    go_wp2_with fail
    refine Calls.mono (HN.out _) ?_
    rintro r W3 ⟨rfl, hk3⟩
    have HF3 : Hid (Kept (fun b => b = c) w W3) := (HF.out.alloc _).trans hk3
    clear hk3 HF HN
    go_wp2_with fail
    exact ⟨rfl, HF3.out, rfl⟩
   | true =>
    rw [if_pos rfl]
    dsimp only
    go_enter Tryz.func189, Tryz.ntmps189
    go_wp2_with fail
    rw [HW0.out]
    refine Calls.mono HT.out ?_
    rintro r W1 ⟨rfl, hk1, hp1⟩
    have HE1 := HL.out hp1
    rw [hR] at HE1
    have HE : Hid _ := HE1
    have HK1 : Hid (Kept (fun b => b = c) w W1 ∧ W1.heap[w.heap.size]? = some (nb nz) ∧ w.heap.size + 1 ≤ W1.heap.size) := ⟨HK0.out.1.no.trans hk1, hk1.heap HT0.out (by omega), by have := hk1.size; have := HK0.out.2; omega⟩
    clear hk1 hp1 HT HE1 hR HK0 HT0 HW0 HL
    go_wp2_with fail
    refine Calls.mono HE.out ?_
    rintro r W2 ⟨hk2, ⟨cs, rfl, hy⟩, hp2⟩
    obtain ⟨sv, rfl, hl⟩ := NodeIs.cs.1 hy
    obtain ⟨ao, ln, cp, rfl⟩ := slice_of hl
    have hR1 : W2.heap[w.heap.size]? = some (nb nz) := hk2.heap HK1.out.2.1 (by omega)
    have hRT : w.heap.size + 1 ≤ W2.heap.size := Nat.le_trans HK1.out.2.2 hk2.size
    have HN : Hid (∀ o, Calls Tryz.prog 166 #[.pointer (some ⟨c, 0, none⟩), .string ⟨#[41]⟩] (W2.alloc o) fun r w' => r = .returned (.tuple #[]) ∧ Kept (fun b => b = c) (W2.alloc o) w' ∧ Ps w' c V (q + 1)) := fun o => need_ok (hp2.no ((Kept.refl No W2).alloc o)) ⟨#[41]⟩ (by decide) hb2
    have HF : Hid (Kept (fun b => b = c) w W2 ∧ NodeIs (fun b => b < w.heap.size + 1 ∨ W2.heap.size ≤ b) W2 (.mk yk yt yvt yvn yn yl ya) (ncs yk yt yvt yvn yn (.slice ao ln cp) ya) ∧ W2.heap[w.heap.size]? = some (nb nz) ∧ w.heap.size + 1 ≤ W2.heap.size) :=
     ⟨HK1.out.1.trans hk2, NodeIs.mono (fun b hb => hb.elim (fun hb => .inl (Nat.lt_of_lt_of_le hb HK1.out.2.2)) .inr) _ _ (NodeIs.more _ _ hy), hR1, hRT⟩
    clear hk2 hy hp2 HE hl HK1 hb2 hR1 hRT
    unfold ncs
    go_wp2_with fail
    refine Calls.mono (HN.out _) ?_
    rintro r W3 ⟨rfl, hk3, hp3⟩
    have hT3 : W3.heap[W2.heap.size]? = some (nb (ncs yk yt yvt yvn yn (.slice ao ln cp) ya)) := hk3.heap (World.alloc_heap_new W2 _) (by have := HF.out.2.2.2; omega)
    have hR3 : W3.heap[w.heap.size]? = some (nb nz) := hk3.heap (((Kept.refl No W2).alloc _).heap HF.out.2.2.1 id) (by omega)
    have HF3 : Hid (Kept (fun b => b = c) w W3 ∧ NodeIs (fun b => b < w.heap.size + 1) W3 (.mk yk yt yvt yvn yn yl ya) (ncs yk yt yvt yvn yn (.slice ao ln cp) ya) ∧ Ps W3 c V (q + 1)) := by
     refine ⟨(HF.out.1.alloc _).trans hk3, ?_, hp3⟩
     refine NodeIs.kept (hk3.mono (fun b (hb : b = c) => by show b < w.heap.size + 1; omega)) _ _ (NodeIs.mono (fun b hb => .inl hb) _ _ (NodeIs.kept ((Kept.refl No W2).alloc _).no _ _ HF.out.2.1))
    obtain ⟨r0, r1, r2, r3, r4, r5, r6⟩ := nb_cells hR3
    have rf := fun o => nb_frozen hR3 o
    obtain ⟨t0', t1', t2', t3', t4', t5', t6'⟩ := nb_cells hT3
    have n1 : w.heap.size ≠ W2.heap.size := by have := HF.out.2.2.2; omega
    have n2 : W2.heap.size ≠ w.heap.size := fun e => n1 e.symm
    clear hk3 hp3 HN hT3 hR3 HF
    generalize W2.heap.size = T at t0' t1' t2' t3' t4' t5' t6' n1 n2 ⊢
    go_wp2_with fail
    refine bodyPost_ret (v := .agg (ncs yk yt yvt yvn yn (.slice ao ln cp) ya).toArray) (by simp [results, Tryz.results189, go_sem, ncs, r0, r1, r2, r3, r4, r5, r6, t0', t1', t2', t3', t4', t5', t6', n1, n2]) rfl ?_
    refine ⟨?_, ⟨_, rfl, NodeIs.mono (fun b (hb : b < w.heap.size) => Nat.lt_succ_of_lt hb) _ _ (NodeIs.kept ?_ _ _ HF3.out.2.1)⟩, HF3.out.2.2.low (fun k hk => ?_)⟩
    ·repeat refine Kept.set ?_ _ _ _ (Or.inr (Nat.le_refl _))
     exact HF3.out.1
    ·repeat refine Kept.set ?_ _ _ _ (Or.inl (Nat.lt_succ_self _))
     exact Kept.refl _ _
    ·have hkR : k ≠ w.heap.size := by omega
     repeat rw [set_low _ _ _ hkR]

set_option maxRecDepth 20000 in
set_option maxHeartbeats 8000000 in
theorem itemKey_any {w : World} {c : Nat} {V : Env} {p : Nat} {G : Lev} {lv : Nat} (hG : LevIs V G (lv)) (h : Ps w c V p) :
  Calls Tryz.prog 201 #[.pointer (some ⟨c, 0, none⟩), .int .i64 (lv : Int)] w (PRes c V w (itemKeyE V G p)) := by
 obtain ⟨W0, HW0⟩ : ∃ W0, Hid (w.alloc (nb nz) = W0) := ⟨_, show _ = _ from rfl⟩
 have HK0 : Hid (Kept No w W0 ∧ W0.heap.size = w.heap.size + 1) := by
  refine ⟨?_, ?_⟩
  ·rw [← HW0.out]; exact (Kept.refl No w).alloc _
  ·rw [← HW0.out]; simp
 have HT0 : Hid (W0.heap[w.heap.size]? = some (nb nz)) := by show _ = _; rw [← HW0.out]; exact World.alloc_heap_new w _
 have hcl := h.lt
 have HTo := took_any (h.no HK0.out.1) ⟨#[91]⟩ (by decide)
 have hle := hG.le
 have HL : Hid (∀ {w' : World} {q : Nat}, Ps w' c V q → Calls Tryz.prog 163 #[.pointer (some ⟨c, 0, none⟩), .int .i64 ((lv : Int))] w' (PRes c V w' (G.above 0 q))) := fun hq => by
  have := expr_any hG hq
  skip
  exact this
 unfold nb nz ncs at HW0
 unfold itemKeyE
 cases hb : V.is [91] p with
 | false =>
  rw [show V.is (⟨#[91]⟩ : ByteArray).data.toList p = false from hb, if_neg (by decide)] at HTo
  rw [if_neg (by decide)]
  have HT : Hid _ := HTo
  clear HTo h hb hG HL
  cases hR : V.key p with
  | error e =>
   obtain ⟨a, x⟩ := e
   go_enter Tryz.func201, Tryz.ntmps201
   go_wp2_with fail
   rw [HW0.out]
   refine Calls.mono HT.out ?_
   rintro r W1 ⟨rfl, hk1, hp1⟩
   have HE1 := key_any hp1
   rw [hR] at HE1
   have HE : Hid _ := HE1
   have HK1 : Hid (Kept (fun b => b = c) w W1) := HK0.out.1.no.trans hk1
   clear hk1 hp1 HT HE1 hR HK0 HT0 HW0
   go_wp2_with fail
   refine Calls.mono HE.out ?_
   rintro r W2 ⟨hk2, rfl⟩
   have HK2 : Hid (Kept (fun b => b = c) w W2) := HK1.out.trans hk2
   clear hk2 HK1 HE
   go_wp2_with fail
   exact ⟨rfl, HK2.out, rfl⟩
  | ok y =>
   obtain ⟨⟨yk, yt, yvt, yvn, yn, yl, ya⟩, q⟩ := y
   go_enter Tryz.func201, Tryz.ntmps201
   go_wp2_with fail
   rw [HW0.out]
   refine Calls.mono HT.out ?_
   rintro r W1 ⟨rfl, hk1, hp1⟩
   have HE1 := key_any hp1
   rw [hR] at HE1
   have HE : Hid _ := HE1
   have HK1 : Hid (Kept (fun b => b = c) w W1 ∧ W1.heap[w.heap.size]? = some (nb nz) ∧ w.heap.size + 1 ≤ W1.heap.size) := ⟨HK0.out.1.no.trans hk1, hk1.heap HT0.out (by omega), by have := hk1.size; have := HK0.out.2; omega⟩
   clear hk1 hp1 HT HE1 hR HK0 HT0 HW0
   go_wp2_with fail
   refine Calls.mono HE.out ?_
   rintro r W2 ⟨hk2, ⟨cs, rfl, hy⟩, hp2⟩
   obtain ⟨sv, rfl, hl⟩ := NodeIs.cs.1 hy
   obtain ⟨ao, ln, cp, rfl⟩ := slice_of hl
   have hR1 : W2.heap[w.heap.size]? = some (nb nz) := hk2.heap HK1.out.2.1 (by omega)
   have HF : Hid (Kept (fun b => b = c) w W2 ∧ NodeIs (fun b => b < w.heap.size + 1) W2 (.mk yk yt yvt yvn yn yl ya) (ncs yk yt yvt yvn yn (.slice ao ln cp) ya) ∧ Ps W2 c V q) :=
    ⟨HK1.out.1.trans hk2, NodeIs.mono (fun b (hb : b < w.heap.size + 1) => Nat.lt_of_lt_of_le hb HK1.out.2.2) _ _ hy, hp2⟩
   obtain ⟨r0, r1, r2, r3, r4, r5, r6⟩ := nb_cells hR1
   have rf := fun o => nb_frozen hR1 o
   clear hk2 hy hp2 HE hl hR1 HK1
   unfold ncs
   go_wp2_with fail
   refine bodyPost_ret (v := .agg (ncs yk yt yvt yvn yn (.slice ao ln cp) ya).toArray) (by simp [results, Tryz.results201, go_sem, ncs, r0, r1, r2, r3, r4, r5, r6]) rfl ?_
   refine ⟨?_, ⟨_, rfl, NodeIs.mono (fun b (hb : b < w.heap.size) => Nat.lt_succ_of_lt hb) _ _ (NodeIs.kept ?_ _ _ HF.out.2.1)⟩, HF.out.2.2.low (fun k hk => ?_)⟩
   ·repeat refine Kept.set ?_ _ _ _ (Or.inr (Nat.le_refl _))
    exact HF.out.1
   ·repeat refine Kept.set ?_ _ _ _ (Or.inl (Nat.lt_succ_self _))
    exact Kept.refl _ _
   ·have hkR : k ≠ w.heap.size := by omega
    repeat rw [set_low _ _ _ hkR]
 | true =>
  rw [show V.is (⟨#[91]⟩ : ByteArray).data.toList p = true from hb, if_pos rfl] at HTo
  rw [if_pos rfl]
  have HT : Hid _ := HTo
  clear HTo h hb hG
  cases hR : G.above 0 (p + 1) with
  | error e =>
   obtain ⟨a, x⟩ := e
   dsimp only
   go_enter Tryz.func201, Tryz.ntmps201
   go_wp2_with fail
   rw [HW0.out]
   refine Calls.mono HT.out ?_
   rintro r W1 ⟨rfl, hk1, hp1⟩
   have HE1 := HL.out hp1
   rw [hR] at HE1
   have HE : Hid _ := HE1
   have HK1 : Hid (Kept (fun b => b = c) w W1) := HK0.out.1.no.trans hk1
   clear hk1 hp1 HT HE1 hR HK0 HT0 HW0 HL
   go_wp2_with fail
   refine Calls.mono HE.out ?_
   rintro r W2 ⟨hk2, rfl⟩
   have HK2 : Hid (Kept (fun b => b = c) w W2) := HK1.out.trans hk2
   clear hk2 HK1 HE
   go_wp2_with fail
   exact ⟨rfl, HK2.out, rfl⟩
  | ok y =>
   obtain ⟨⟨yk, yt, yvt, yvn, yn, yl, ya⟩, q⟩ := y
   dsimp only
   unfold Env.need
   cases hb2 : V.is [93] q with
   | false =>
    rw [if_neg (by decide)]
    unfold Env.wrong
    dsimp only
    go_enter Tryz.func201, Tryz.ntmps201
    go_wp2_with fail
    rw [HW0.out]
    refine Calls.mono HT.out ?_
    rintro r W1 ⟨rfl, hk1, hp1⟩
    have HE1 := HL.out hp1
    rw [hR] at HE1
    have HE : Hid _ := HE1
    have HK1 : Hid (Kept (fun b => b = c) w W1 ∧ W1.heap[w.heap.size]? = some (nb nz) ∧ w.heap.size + 1 ≤ W1.heap.size) := ⟨HK0.out.1.no.trans hk1, hk1.heap HT0.out (by omega), by have := hk1.size; have := HK0.out.2; omega⟩
    clear hk1 hp1 HT HE1 hR HK0 HT0 HW0 HL
    go_wp2_with fail
    refine Calls.mono HE.out ?_
    rintro r W2 ⟨hk2, ⟨cs, rfl, hy⟩, hp2⟩
    obtain ⟨sv, rfl, hl⟩ := NodeIs.cs.1 hy
    obtain ⟨ao, ln, cp, rfl⟩ := slice_of hl
    have HN : Hid (∀ o, Calls Tryz.prog 166 #[.pointer (some ⟨c, 0, none⟩), .string ⟨#[93]⟩] (W2.alloc o) fun r w' => r = stopW (V.at q) 6 ∧ Kept (fun b => b = c) (W2.alloc o) w') := fun o => need_bad (hp2.no ((Kept.refl No W2).alloc o)) ⟨#[93]⟩ (by decide) hb2
    have HF : Hid (Kept (fun b => b = c) w W2) := HK1.out.1.trans hk2
    clear hk2 hy hp2 HE hl HK1 hb2
    unfold ncs
    go_wp2_with fail
    refine Calls.mono (HN.out _) ?_
    rintro r W3 ⟨rfl, hk3⟩
    have HF3 : Hid (Kept (fun b => b = c) w W3) := (HF.out.alloc _).trans hk3
    clear hk3 HF HN
    go_wp2_with fail
    exact ⟨rfl, HF3.out, rfl⟩
   | true =>
    rw [if_pos rfl]
    dsimp only
    go_enter Tryz.func201, Tryz.ntmps201
    go_wp2_with fail
    rw [HW0.out]
    refine Calls.mono HT.out ?_
    rintro r W1 ⟨rfl, hk1, hp1⟩
    have HE1 := HL.out hp1
    rw [hR] at HE1
    have HE : Hid _ := HE1
    have HK1 : Hid (Kept (fun b => b = c) w W1 ∧ W1.heap[w.heap.size]? = some (nb nz) ∧ w.heap.size + 1 ≤ W1.heap.size) := ⟨HK0.out.1.no.trans hk1, hk1.heap HT0.out (by omega), by have := hk1.size; have := HK0.out.2; omega⟩
    clear hk1 hp1 HT HE1 hR HK0 HT0 HW0 HL
    go_wp2_with fail
    refine Calls.mono HE.out ?_
    rintro r W2 ⟨hk2, ⟨cs, rfl, hy⟩, hp2⟩
    obtain ⟨sv, rfl, hl⟩ := NodeIs.cs.1 hy
    obtain ⟨ao, ln, cp, rfl⟩ := slice_of hl
    have hR1 : W2.heap[w.heap.size]? = some (nb nz) := hk2.heap HK1.out.2.1 (by omega)
    have hRT : w.heap.size + 1 ≤ W2.heap.size := Nat.le_trans HK1.out.2.2 hk2.size
    have HN : Hid (∀ o, Calls Tryz.prog 166 #[.pointer (some ⟨c, 0, none⟩), .string ⟨#[93]⟩] (W2.alloc o) fun r w' => r = .returned (.tuple #[]) ∧ Kept (fun b => b = c) (W2.alloc o) w' ∧ Ps w' c V (q + 1)) := fun o => need_ok (hp2.no ((Kept.refl No W2).alloc o)) ⟨#[93]⟩ (by decide) hb2
    have HF : Hid (Kept (fun b => b = c) w W2 ∧ NodeIs (fun b => b < w.heap.size + 1 ∨ W2.heap.size ≤ b) W2 (.mk yk yt yvt yvn yn yl ya) (ncs yk yt yvt yvn yn (.slice ao ln cp) ya) ∧ W2.heap[w.heap.size]? = some (nb nz) ∧ w.heap.size + 1 ≤ W2.heap.size) :=
     ⟨HK1.out.1.trans hk2, NodeIs.mono (fun b hb => hb.elim (fun hb => .inl (Nat.lt_of_lt_of_le hb HK1.out.2.2)) .inr) _ _ (NodeIs.more _ _ hy), hR1, hRT⟩
    clear hk2 hy hp2 HE hl HK1 hb2 hR1 hRT
    unfold ncs
    go_wp2_with fail
    refine Calls.mono (HN.out _) ?_
    rintro r W3 ⟨rfl, hk3, hp3⟩
    have hT3 : W3.heap[W2.heap.size]? = some (nb (ncs yk yt yvt yvn yn (.slice ao ln cp) ya)) := hk3.heap (World.alloc_heap_new W2 _) (by have := HF.out.2.2.2; omega)
    have hR3 : W3.heap[w.heap.size]? = some (nb nz) := hk3.heap (((Kept.refl No W2).alloc _).heap HF.out.2.2.1 id) (by omega)
    have HF3 : Hid (Kept (fun b => b = c) w W3 ∧ NodeIs (fun b => b < w.heap.size + 1) W3 (.mk yk yt yvt yvn yn yl ya) (ncs yk yt yvt yvn yn (.slice ao ln cp) ya) ∧ Ps W3 c V (q + 1)) := by
     refine ⟨(HF.out.1.alloc _).trans hk3, ?_, hp3⟩
     refine NodeIs.kept (hk3.mono (fun b (hb : b = c) => by show b < w.heap.size + 1; omega)) _ _ (NodeIs.mono (fun b hb => .inl hb) _ _ (NodeIs.kept ((Kept.refl No W2).alloc _).no _ _ HF.out.2.1))
    obtain ⟨r0, r1, r2, r3, r4, r5, r6⟩ := nb_cells hR3
    have rf := fun o => nb_frozen hR3 o
    obtain ⟨t0', t1', t2', t3', t4', t5', t6'⟩ := nb_cells hT3
    have n1 : w.heap.size ≠ W2.heap.size := by have := HF.out.2.2.2; omega
    have n2 : W2.heap.size ≠ w.heap.size := fun e => n1 e.symm
    clear hk3 hp3 HN hT3 hR3 HF
    generalize W2.heap.size = T at t0' t1' t2' t3' t4' t5' t6' n1 n2 ⊢
    go_wp2_with fail
    refine bodyPost_ret (v := .agg (ncs yk yt yvt yvn yn (.slice ao ln cp) ya).toArray) (by simp [results, Tryz.results201, go_sem, ncs, r0, r1, r2, r3, r4, r5, r6, t0', t1', t2', t3', t4', t5', t6', n1, n2]) rfl ?_
    refine ⟨?_, ⟨_, rfl, NodeIs.mono (fun b (hb : b < w.heap.size) => Nat.lt_succ_of_lt hb) _ _ (NodeIs.kept ?_ _ _ HF3.out.2.1)⟩, HF3.out.2.2.low (fun k hk => ?_)⟩
    ·repeat refine Kept.set ?_ _ _ _ (Or.inr (Nat.le_refl _))
     exact HF3.out.1
    ·repeat refine Kept.set ?_ _ _ _ (Or.inl (Nat.lt_succ_self _))
     exact Kept.refl _ _
    ·have hkR : k ≠ w.heap.size := by omega
     repeat rw [set_low _ _ _ hkR]

end Go.Proofs.YtgkgpjbbmnfnmaaGreatDoor

/- item: a value. -/
namespace Go.Proofs.YtgkgpjbbmnfnmaaGreatDoor
open Go.RowKit
set_option linter.unusedSimpArgs false
set_option linter.unusedVariables false

set_option maxRecDepth 20000 in
set_option maxHeartbeats 8000000 in
theorem item_val {w : World} {c : Nat} {V : Env} {p : Nat} {G : Lev} {lv : Nat} (hG : LevIs V G lv) (h : Ps w c V p) (hb : V.is [91] p = false) (hn : V.isName p = false ∨ V.is [61] (p + 1) = false) :
  Calls Tryz.prog 200 #[.pointer (some ⟨c, 0, none⟩), .int .i64 (lv : Int)] w (PRes c V w (match G.above 0 p with
   | .error e => .error e
   | .ok (x, q) => .ok (nd 13 [x] (V.at p), q))) := by
 obtain ⟨W0, HW0⟩ : ∃ W0, Hid (w.alloc (nb nz) = W0) := ⟨_, show _ = _ from rfl⟩
 have HK0 : Hid (Kept No w W0 ∧ W0.heap.size = w.heap.size + 1) := by
  refine ⟨?_, ?_⟩
  ·rw [← HW0.out]; exact (Kept.refl No w).alloc _
  ·rw [← HW0.out]; simp
 have HT0 : Hid (W0.heap[w.heap.size]? = some (nb nz)) := by show _ = _; rw [← HW0.out]; exact World.alloc_heap_new w _
 have hcl := h.lt
 have HP0 : Hid (Ps W0 c V p) := h.no HK0.out.1
 have HAt : Hid _ := at_any HP0.out
 have HIs : Hid (∀ w', Kept No W0 w' → Calls Tryz.prog 99 #[.pointer (some ⟨c, 0, none⟩), .string ⟨#[91]⟩] w' fun r w'' => r = .returned (.bool false) ∧ Kept No w' w'') := fun w' hk => by
  have := is_any (HP0.out.no hk) ⟨#[91]⟩
  rw [show V.is (⟨#[91]⟩ : ByteArray).data.toList p = false from hb] at this
  exact this
 have HNm : Hid (∀ w', Kept No W0 w' → Calls Tryz.prog 168 #[.pointer (some ⟨c, 0, none⟩)] w' fun r w'' => r = .returned (.bool (V.isName p)) ∧ Kept No w' w'') := fun w' hk => isName_any (HP0.out.no hk)
 have HL : Hid (∀ {w' : World}, Ps w' c V p → Calls Tryz.prog 163 #[.pointer (some ⟨c, 0, none⟩), .int .i64 (lv : Int)] w' (PRes c V w' (G.above 0 p))) := fun hq => expr_any hG hq
 obtain ⟨at', HA⟩ : ∃ a, Hid (V.at p = a) := ⟨_, show _ = _ from rfl⟩
 rw [HA.out] at HAt
 rw [HA.out]
 unfold nb nz ncs at HW0
 clear h hb hG
 cases hm : V.isName p with
 | false =>
  rw [hm] at HNm
  clear hn
  cases hR : G.above 0 p with
  | error e =>
   obtain ⟨a, x'⟩ := e
   dsimp only
   go_enter Tryz.func200, Tryz.ntmps200
   go_wp2_with fail
   rw [HW0.out]
   refine Calls.mono HAt.out ?_
   rintro r W1 ⟨rfl, hk1⟩
   have HKa : Hid (Kept No W0 W1) := hk1
   clear hk1 HAt
   go_wp2_with fail
   refine Calls.mono (HIs.out _ HKa.out) ?_
   rintro r Wi ⟨rfl, hki⟩
   have HKb : Hid (Kept No W0 Wi) := HKa.out.trans hki
   clear hki HKa
   go_wp2_with fail
   refine Calls.mono (HNm.out _ HKb.out) ?_
   rintro r Wn ⟨rfl, hkn⟩
   have HKW : Hid (Kept No W0 Wn) := HKb.out.trans hkn
   clear hkn HKb
   have HE1 := HL.out (HP0.out.no HKW.out)
   rw [hR] at HE1
   have HE : Hid _ := HE1
   have HK1 : Hid (Kept (fun b => b = c) w Wn) := (HK0.out.1.trans HKW.out).no
   clear HE1 hR HK0 HT0 HW0 HL HP0 HKW
   go_wp2_with fail
   refine Calls.mono HE.out ?_
   rintro r W2 ⟨hk2, rfl⟩
   have HK2 : Hid (Kept (fun b => b = c) w W2) := HK1.out.trans hk2
   clear hk2 HK1 HE
   go_wp2_with fail
   exact ⟨rfl, HK2.out, rfl⟩
  | ok y =>
   obtain ⟨⟨yk, yt, yvt, yvn, yn, yl, ya⟩, q⟩ := y
   dsimp only
   go_enter Tryz.func200, Tryz.ntmps200
   go_wp2_with fail
   rw [HW0.out]
   refine Calls.mono HAt.out ?_
   rintro r W1 ⟨rfl, hk1⟩
   have HKa : Hid (Kept No W0 W1) := hk1
   clear hk1 HAt
   go_wp2_with fail
   refine Calls.mono (HIs.out _ HKa.out) ?_
   rintro r Wi ⟨rfl, hki⟩
   have HKb : Hid (Kept No W0 Wi) := HKa.out.trans hki
   clear hki HKa
   go_wp2_with fail
   refine Calls.mono (HNm.out _ HKb.out) ?_
   rintro r Wn ⟨rfl, hkn⟩
   have HKW : Hid (Kept No W0 Wn) := HKb.out.trans hkn
   clear hkn HKb
   have HE1 := HL.out (HP0.out.no HKW.out)
   rw [hR] at HE1
   have HE : Hid _ := HE1
   have HK1 : Hid (Kept (fun b => b = c) w Wn ∧ Wn.heap[w.heap.size]? = some (nb nz) ∧ w.heap.size + 1 ≤ Wn.heap.size) := ⟨(HK0.out.1.trans HKW.out).no, HKW.out.heap HT0.out id, by have := HKW.out.size; have := HK0.out.2; omega⟩
   clear HE1 hR HK0 HT0 HW0 HL HP0 HKW
   go_wp2_with fail
   refine Calls.mono HE.out ?_
   rintro r W2 ⟨hk2, ⟨cs, rfl, hy⟩, hp2⟩
   obtain ⟨sv, rfl, hl⟩ := NodeIs.cs.1 hy
   obtain ⟨ao, ln, cp, rfl⟩ := slice_of hl
   have hR1 : W2.heap[w.heap.size]? = some (nb nz) := hk2.heap HK1.out.2.1 (by omega)
   have hRT : w.heap.size + 1 ≤ W2.heap.size := Nat.le_trans HK1.out.2.2 hk2.size
   have HF : Hid (Kept (fun b => b = c) w W2 ∧ ListIs (fun b => b < w.heap.size + 1) (W2.alloc (nb (ncs yk yt yvt yvn yn (.slice ao ln cp) ya))) [.mk yk yt yvt yvn yn yl ya] (.slice (some ⟨W2.heap.size, 0, none⟩) 1 1) ∧ Ps W2 c V q ∧ w.heap.size + 1 ≤ W2.heap.size) :=
    ⟨HK1.out.1.trans hk2, (Bld.one hRT (NodeIs.mono (fun b (hb : b < w.heap.size + 1) => Nat.lt_of_lt_of_le hb HK1.out.2.2) _ _ hy)).list, hp2, hRT⟩
   obtain ⟨r0, r1, r2, r3, r4, r5, r6⟩ := nbo_cells hR1
   have rf : ∀ o q, (W2.alloc o).frozen? ⟨w.heap.size, q, none⟩ = false := fun o q => nb_frozen (((Kept.refl No W2).alloc o).heap hR1 id) q
   clear hk2 hy hp2 HE hl hR1 HK1 hRT
   unfold ncs
   go_wp2_with fail
   refine bodyPost_ret (v := .agg (ncs 13 ⟨#[]⟩ 0 0 0 (.slice (some ⟨W2.heap.size, 0, none⟩) 1 1) at').toArray) (by simp [results, Tryz.results200, go_sem, ncs, r0, r1, r2, r3, r4, r5, r6]) rfl ?_
   refine ⟨?_, ⟨_, rfl, NodeIs.cs.2 ⟨_, rfl, ListIs.mono (fun b (hb : b < w.heap.size) => Nat.lt_succ_of_lt hb) (ListIs.kept ?_ HF.out.2.1)⟩⟩, HF.out.2.2.1.low (fun k hk => ?_)⟩
   ·repeat refine Kept.set ?_ _ _ _ (Or.inr (Nat.le_refl _))
    exact HF.out.1.alloc _
   ·repeat refine Kept.set ?_ _ _ _ (Or.inl (Nat.lt_succ_self _))
    exact Kept.refl _ _
   ·have hkR : k ≠ w.heap.size := by omega
    repeat rw [set_low _ _ _ hkR]
    exact alloc_low _ _ (by have := HF.out.2.2.2; omega)
 | true =>
  rw [hm] at HNm
  have hn2 : V.is [61] (p + 1) = false := hn.resolve_left (by rw [hm]; decide)
  have HAh : Hid (∀ w', Kept No W0 w' → Calls Tryz.prog 162 #[.pointer (some ⟨c, 0, none⟩), .int .i64 1] w' fun r w'' => r = .returned (tv (V.tk (p + 1))) ∧ Kept No w' w'') := fun w' hk => ahead_any (HP0.out.no hk) 1 (by omega)
  obtain ⟨x, HX⟩ : ∃ x, Hid (V.tk (p + 1) = x) := ⟨_, show _ = _ from rfl⟩
  rw [HX.out] at HAh
  have hxt : (x.t.toList == [61]) = false := by
   unfold Env.is at hn2
   rw [HX.out] at hn2
   rw [ByteArray.toList_eq]; exact hn2
  have hxt3 : (x.t.toList == (⟨#[61]⟩ : ByteArray).toList) = false := by rw [ByteArray.toList_eq ⟨#[61]⟩]; exact hxt
  obtain ⟨xk, xt, xvt, xvn, xsy, xa, xe⟩ := x
  have hxt2 : (xt.toList == [61]) = false := hxt
  clear hn hn2
  cases hR : G.above 0 p with
  | error e =>
   obtain ⟨a, x'⟩ := e
   dsimp only
   go_enter Tryz.func200, Tryz.ntmps200
   go_wp2_with fail
   rw [HW0.out]
   refine Calls.mono HAt.out ?_
   rintro r W1 ⟨rfl, hk1⟩
   have HKa : Hid (Kept No W0 W1) := hk1
   clear hk1 HAt
   go_wp2_with fail
   refine Calls.mono (HIs.out _ HKa.out) ?_
   rintro r Wi ⟨rfl, hki⟩
   have HKb : Hid (Kept No W0 Wi) := HKa.out.trans hki
   clear hki HKa
   go_wp2_with fail
   refine Calls.mono (HNm.out _ HKb.out) ?_
   rintro r Wn ⟨rfl, hkn⟩
   have HKc : Hid (Kept No W0 Wn) := HKb.out.trans hkn
   clear hkn HKb
   go_wp2_with fail
   refine Calls.mono (HAh.out _ HKc.out) ?_
   rintro r Wh ⟨rfl, hkh⟩
   have HKW : Hid (Kept No W0 Wh) := HKc.out.trans hkh
   clear hkh HKc
   have HE1 := HL.out (HP0.out.no HKW.out)
   rw [hR] at HE1
   have HE : Hid _ := HE1
   have HK1 : Hid (Kept (fun b => b = c) w Wh) := (HK0.out.1.trans HKW.out).no
   clear HE1 hR HK0 HT0 HW0 HL HP0 HKW
   have fd := fun w => fd45t ⟨xk, xt, xvt, xvn, xsy, xa, xe⟩ w
   unfold tv
   dsimp only at fd ⊢
   go_wp2_with fail
   refine Calls.mono HE.out ?_
   rintro r W2 ⟨hk2, rfl⟩
   have HK2 : Hid (Kept (fun b => b = c) w W2) := HK1.out.trans hk2
   clear hk2 HK1 HE
   go_wp2_with fail
   exact ⟨rfl, HK2.out, rfl⟩
  | ok y =>
   obtain ⟨⟨yk, yt, yvt, yvn, yn, yl, ya⟩, q⟩ := y
   dsimp only
   go_enter Tryz.func200, Tryz.ntmps200
   go_wp2_with fail
   rw [HW0.out]
   refine Calls.mono HAt.out ?_
   rintro r W1 ⟨rfl, hk1⟩
   have HKa : Hid (Kept No W0 W1) := hk1
   clear hk1 HAt
   go_wp2_with fail
   refine Calls.mono (HIs.out _ HKa.out) ?_
   rintro r Wi ⟨rfl, hki⟩
   have HKb : Hid (Kept No W0 Wi) := HKa.out.trans hki
   clear hki HKa
   go_wp2_with fail
   refine Calls.mono (HNm.out _ HKb.out) ?_
   rintro r Wn ⟨rfl, hkn⟩
   have HKc : Hid (Kept No W0 Wn) := HKb.out.trans hkn
   clear hkn HKb
   go_wp2_with fail
   refine Calls.mono (HAh.out _ HKc.out) ?_
   rintro r Wh ⟨rfl, hkh⟩
   have HKW : Hid (Kept No W0 Wh) := HKc.out.trans hkh
   clear hkh HKc
   have HE1 := HL.out (HP0.out.no HKW.out)
   rw [hR] at HE1
   have HE : Hid _ := HE1
   have HK1 : Hid (Kept (fun b => b = c) w Wh ∧ Wh.heap[w.heap.size]? = some (nb nz) ∧ w.heap.size + 1 ≤ Wh.heap.size) := ⟨(HK0.out.1.trans HKW.out).no, HKW.out.heap HT0.out id, by have := HKW.out.size; have := HK0.out.2; omega⟩
   clear HE1 hR HK0 HT0 HW0 HL HP0 HKW
   have fd := fun w => fd45t ⟨xk, xt, xvt, xvn, xsy, xa, xe⟩ w
   unfold tv
   dsimp only at fd ⊢
   go_wp2_with fail
   refine Calls.mono HE.out ?_
   rintro r W2 ⟨hk2, ⟨cs, rfl, hy⟩, hp2⟩
   obtain ⟨sv, rfl, hl⟩ := NodeIs.cs.1 hy
   obtain ⟨ao, ln, cp, rfl⟩ := slice_of hl
   have hR1 : W2.heap[w.heap.size]? = some (nb nz) := hk2.heap HK1.out.2.1 (by omega)
   have hRT : w.heap.size + 1 ≤ W2.heap.size := Nat.le_trans HK1.out.2.2 hk2.size
   have HF : Hid (Kept (fun b => b = c) w W2 ∧ ListIs (fun b => b < w.heap.size + 1) (W2.alloc (nb (ncs yk yt yvt yvn yn (.slice ao ln cp) ya))) [.mk yk yt yvt yvn yn yl ya] (.slice (some ⟨W2.heap.size, 0, none⟩) 1 1) ∧ Ps W2 c V q ∧ w.heap.size + 1 ≤ W2.heap.size) :=
    ⟨HK1.out.1.trans hk2, (Bld.one hRT (NodeIs.mono (fun b (hb : b < w.heap.size + 1) => Nat.lt_of_lt_of_le hb HK1.out.2.2) _ _ hy)).list, hp2, hRT⟩
   obtain ⟨r0, r1, r2, r3, r4, r5, r6⟩ := nbo_cells hR1
   have rf : ∀ o q, (W2.alloc o).frozen? ⟨w.heap.size, q, none⟩ = false := fun o q => nb_frozen (((Kept.refl No W2).alloc o).heap hR1 id) q
   clear hk2 hy hp2 HE hl hR1 HK1 hRT
   unfold ncs
   go_wp2_with fail
   refine bodyPost_ret (v := .agg (ncs 13 ⟨#[]⟩ 0 0 0 (.slice (some ⟨W2.heap.size, 0, none⟩) 1 1) at').toArray) (by simp [results, Tryz.results200, go_sem, ncs, r0, r1, r2, r3, r4, r5, r6]) rfl ?_
   refine ⟨?_, ⟨_, rfl, NodeIs.cs.2 ⟨_, rfl, ListIs.mono (fun b (hb : b < w.heap.size) => Nat.lt_succ_of_lt hb) (ListIs.kept ?_ HF.out.2.1)⟩⟩, HF.out.2.2.1.low (fun k hk => ?_)⟩
   ·repeat refine Kept.set ?_ _ _ _ (Or.inr (Nat.le_refl _))
    exact HF.out.1.alloc _
   ·repeat refine Kept.set ?_ _ _ _ (Or.inl (Nat.lt_succ_self _))
    exact Kept.refl _ _
   ·have hkR : k ≠ w.heap.size := by omega
    repeat rw [set_low _ _ _ hkR]
    exact alloc_low _ _ (by have := HF.out.2.2.2; omega)
end Go.Proofs.YtgkgpjbbmnfnmaaGreatDoor
