/- Joined: T1 T2 T3 T4 T5 T6 T7 T8. -/
import Derived.Test.YtgkgpjbbmnfnmaaGreatDoorT0
import Derived.Maps.AppendAt
import Derived.Deep.AppendLies
/- look, at, is, isName, ended, take, took, wrong, begin, need. -/
namespace Go.Proofs.YtgkgpjbbmnfnmaaGreatDoor
open Go.RowKit
set_option linter.unusedSimpArgs false
set_option linter.unusedVariables false

theorem fd45k (x : Tk) (w : World) : (Instr.field 34 (.agg #[.int .i64 x.k, .string x.t, .int .i64 x.vt, .int .i64 x.vn, .string x.sy, .int .i64 x.a, .int .i64 x.e]) 0).run Tryz.prog w = .ok (.int .i64 x.k) w := by kernel_rfl
theorem fd45t (x : Tk) (w : World) : (Instr.field 34 (.agg #[.int .i64 x.k, .string x.t, .int .i64 x.vt, .int .i64 x.vn, .string x.sy, .int .i64 x.a, .int .i64 x.e]) 1).run Tryz.prog w = .ok (.string x.t) w := by kernel_rfl
theorem fd45v (x : Tk) (w : World) : (Instr.field 34 (.agg #[.int .i64 x.k, .string x.t, .int .i64 x.vt, .int .i64 x.vn, .string x.sy, .int .i64 x.a, .int .i64 x.e]) 2).run Tryz.prog w = .ok (.agg #[.int .i64 x.vt, .int .i64 x.vn]) w := by kernel_rfl
theorem fd45s (x : Tk) (w : World) : (Instr.field 34 (.agg #[.int .i64 x.k, .string x.t, .int .i64 x.vt, .int .i64 x.vn, .string x.sy, .int .i64 x.a, .int .i64 x.e]) 3).run Tryz.prog w = .ok (.string x.sy) w := by kernel_rfl
theorem fd45a (x : Tk) (w : World) : (Instr.field 34 (.agg #[.int .i64 x.k, .string x.t, .int .i64 x.vt, .int .i64 x.vn, .string x.sy, .int .i64 x.a, .int .i64 x.e]) 4).run Tryz.prog w = .ok (.int .i64 x.a) w := by kernel_rfl

set_option maxRecDepth 20000 in
set_option maxHeartbeats 2000000 in
theorem look_any {w : World} {c : Nat} {V : Env} {p : Nat} (h : Ps w c V p) :
  Calls Tryz.prog 132 #[.pointer (some ⟨c, 0, none⟩)] w fun r w' => r = .returned (tv (V.tk p)) ∧ Kept No w w' := by
 obtain ⟨W0, HW0⟩ : ∃ W0, Hid (w.alloc (tb t0) = W0) := ⟨_, show _ = _ from rfl⟩
 have HK0 : Hid (Kept No w W0) := by show Kept _ _ _; rw [← HW0.out]; exact (Kept.refl No w).alloc _
 have HT0 : Hid (W0.heap[w.heap.size]? = some (tb t0)) := by show _ = _; rw [← HW0.out]; exact World.alloc_heap_new w _
 have HA : Hid (Calls Tryz.prog 162 #[.pointer (some ⟨c, 0, none⟩), .int .i64 ((0 : Nat) : Int)] W0 fun r w' => r = .returned (tv (V.tk (p + 0))) ∧ Kept No W0 w') := ahead_any (h.no HK0.out) 0 (by omega)
 unfold tb t0 at HW0
 dsimp only at HW0
 rw [Nat.add_zero] at HA
 obtain ⟨x, HX⟩ : ∃ x, Hid (V.tk p = x) := ⟨_, show _ = _ from rfl⟩
 rw [HX.out] at HA
 rw [HX.out]
 obtain ⟨xk, xt, xvt, xvn, xsy, xa, xe⟩ := x
 clear h
 go_enter Tryz.func132, Tryz.ntmps132
 go_wp2_with fail
 rw [HW0.out]
 refine Calls.mono HA.out ?_
 rintro e W1 ⟨rfl, hk1⟩
 have HT1 : Hid (W1.heap[w.heap.size]? = some (tb t0)) := hk1.heap HT0.out id
 have HK1 : Hid (Kept No w W1) := HK0.out.trans hk1
 clear hk1 HT0 HK0 HA HW0
 obtain ⟨t3, t4, t5, t6, t7, t8, t9⟩ := tb_cells HT1.out
 have tf := fun o => tb_frozen HT1.out o
 dsimp only [t0] at t3 t4 t5 t6 t7 t8 t9
 clear HT1
 unfold tv
 dsimp only
 go_wp2_with fail
 refine bodyPost_ret (v := tv ⟨xk, xt, xvt, xvn, xsy, xa, xe⟩) (by simp [results, Tryz.results132, go_sem, tv, t3, t4, t5, t6, t7, t8, t9]) rfl ⟨rfl, ?_⟩
 repeat refine Kept.set ?_ _ _ _ (Or.inr (Nat.le_refl _))
 exact HK1.out

set_option maxRecDepth 20000 in
set_option maxHeartbeats 2000000 in
theorem at_any {w : World} {c : Nat} {V : Env} {p : Nat} (h : Ps w c V p) :
  Calls Tryz.prog 102 #[.pointer (some ⟨c, 0, none⟩)] w fun r w' => r = .returned (.int .i64 (V.at p)) ∧ Kept No w w' := by
 have HA : Hid _ := look_any h
 obtain ⟨x, HX⟩ : ∃ x, Hid (V.tk p = x) := ⟨_, show _ = _ from rfl⟩
 have e : V.at p = x.a := by unfold Env.at; rw [HX.out]
 rw [HX.out] at HA
 rw [e]
 obtain ⟨xk, xt, xvt, xvn, xsy, xa, xe⟩ := x
 clear h e
 go_enter Tryz.func102, Tryz.ntmps102
 go_wp2_with fail
 refine Calls.mono HA.out ?_
 rintro e W1 ⟨rfl, hk1⟩
 have HK1 : Hid (Kept No w W1) := hk1
 clear hk1 HA
 have fd := fun w => fd45a ⟨xk, xt, xvt, xvn, xsy, xa, xe⟩ w
 unfold tv
 dsimp only at fd ⊢
 go_wp2_with fail
 go_ret
 exact ⟨rfl, HK1.out⟩

set_option maxRecDepth 20000 in
set_option maxHeartbeats 2000000 in
theorem is_any {w : World} {c : Nat} {V : Env} {p : Nat} (h : Ps w c V p) (s : ByteArray) :
  Calls Tryz.prog 99 #[.pointer (some ⟨c, 0, none⟩), .string s] w fun r w' => r = .returned (.bool (V.is s.data.toList p)) ∧ Kept No w w' := by
 have HA : Hid _ := look_any h
 obtain ⟨x, HX⟩ : ∃ x, Hid (V.tk p = x) := ⟨_, show _ = _ from rfl⟩
 obtain ⟨b, HB⟩ : ∃ b, Hid ((x.t.toList == s.toList) = b) := ⟨_, show _ = _ from rfl⟩
 have e : V.is s.data.toList p = b := by unfold Env.is; rw [HX.out, ← HB.out, ByteArray.toList_eq, ByteArray.toList_eq]
 rw [HX.out] at HA
 rw [e]
 obtain ⟨xk, xt, xvt, xvn, xsy, xa, xe⟩ := x
 have hb := HB.out
 dsimp only at hb
 clear h e
 go_enter Tryz.func99, Tryz.ntmps99
 go_wp2_with fail
 refine Calls.mono HA.out ?_
 rintro e W1 ⟨rfl, hk1⟩
 have HK1 : Hid (Kept No w W1) := hk1
 clear hk1 HA
 have fd := fun w => fd45t ⟨xk, xt, xvt, xvn, xsy, xa, xe⟩ w
 unfold tv
 dsimp only at fd ⊢
 go_wp2_with fail
 go_ret
 exact ⟨rfl, HK1.out⟩

set_option maxRecDepth 20000 in
set_option maxHeartbeats 2000000 in
theorem isName_any {w : World} {c : Nat} {V : Env} {p : Nat} (h : Ps w c V p) :
  Calls Tryz.prog 168 #[.pointer (some ⟨c, 0, none⟩)] w fun r w' => r = .returned (.bool (V.isName p)) ∧ Kept No w w' := by
 have HA : Hid _ := look_any h
 obtain ⟨x, HX⟩ : ∃ x, Hid (V.tk p = x) := ⟨_, show _ = _ from rfl⟩
 obtain ⟨b, HB⟩ : ∃ b, Hid ((x.k == 1) = b) := ⟨_, show _ = _ from rfl⟩
 have e : V.isName p = b := by unfold Env.isName; rw [HX.out, ← HB.out]
 rw [HX.out] at HA
 rw [e]
 obtain ⟨xk, xt, xvt, xvn, xsy, xa, xe⟩ := x
 have hb := HB.out
 dsimp only at hb
 clear h e
 go_enter Tryz.func168, Tryz.ntmps168
 go_wp2_with fail
 refine Calls.mono HA.out ?_
 rintro e W1 ⟨rfl, hk1⟩
 have HK1 : Hid (Kept No w W1) := hk1
 clear hk1 HA
 have fd := fun w => fd45k ⟨xk, xt, xvt, xvn, xsy, xa, xe⟩ w
 unfold tv
 dsimp only at fd ⊢
 go_wp2_with fail
 go_ret
 exact ⟨rfl, HK1.out⟩

set_option maxRecDepth 20000 in
set_option maxHeartbeats 2000000 in
theorem took_any {w : World} {c : Nat} {V : Env} {p : Nat} (h : Ps w c V p) (s : ByteArray) (hs : s.data.toList ≠ []) :
  Calls Tryz.prog 98 #[.pointer (some ⟨c, 0, none⟩), .string s] w fun r w' => r = .returned (.bool (V.is s.data.toList p)) ∧ Kept (fun b => b = c) w w' ∧ Ps w' c V (if V.is s.data.toList p then p + 1 else p) := by
 have HA : Hid _ := is_any h s
 have HP : Hid (Ps w c V p) := h
 have hlen := h.len
 have hle := h.le
 cases hb : V.is s.data.toList p with
 | false =>
  rw [hb] at HA
  rw [if_neg (by decide)]
  clear h hb
  go_enter Tryz.func98, Tryz.ntmps98
  go_wp2_with fail
  refine Calls.mono HA.out ?_
  rintro e W1 ⟨rfl, hk1⟩
  have HK1 : Hid (Kept No w W1) := hk1
  clear hk1 HA
  go_wp2_with fail
  go_ret
  exact ⟨rfl, HK1.out.no, HP.out.no HK1.out⟩
 | true =>
  have hlt := is_lt hb hs
  rw [hb] at HA
  rw [if_pos rfl]
  clear h hb
  go_enter Tryz.func98, Tryz.ntmps98
  go_wp2_with fail
  refine Calls.mono HA.out ?_
  rintro e W1 ⟨rfl, hk1⟩
  have HK1 : Hid (Kept No w W1) := hk1
  obtain ⟨ao, cap, hC, _⟩ := HP.out.cells
  obtain ⟨f0, f1, f2, f3⟩ := hC W1 hk1
  have HN : Hid (Ps (W1.setCell ⟨c, 1, none⟩ (.int .i64 ((p + 1 : Nat) : Int))) c V (p + 1)) := (HP.out.no hk1).next (p + 1) (by omega)
  rw [show ((p + 1 : Nat) : Int) = (p : Int) + 1 by omega] at HN
  clear hk1 HA hC HP
  go_wp2_with fail
  go_ret
  exact ⟨rfl, HK1.out.no.set c 1 _ (.inl rfl), HN.out⟩

set_option maxRecDepth 20000 in
set_option maxHeartbeats 2000000 in
theorem take_any {w : World} {c : Nat} {V : Env} {p : Nat} (h : Ps w c V p) (hlt : p < V.L.length) :
  Calls Tryz.prog 133 #[.pointer (some ⟨c, 0, none⟩)] w fun r w' => r = .returned (tv (V.tk p)) ∧ Kept (fun b => b = c) w w' ∧ Ps w' c V (p + 1) := by
 obtain ⟨W0, HW0⟩ : ∃ W0, Hid (w.alloc (tb t0) = W0) := ⟨_, show _ = _ from rfl⟩
 have HK0 : Hid (Kept No w W0) := by show Kept _ _ _; rw [← HW0.out]; exact (Kept.refl No w).alloc _
 have HT0 : Hid (W0.heap[w.heap.size]? = some (tb t0)) := by show _ = _; rw [← HW0.out]; exact World.alloc_heap_new w _
 have HA : Hid _ := look_any (h.no HK0.out)
 have HP : Hid (Ps w c V p) := h
 have hlen := h.len
 have hcl := h.lt
 unfold tb t0 at HW0
 dsimp only at HW0
 obtain ⟨x, HX⟩ : ∃ x, Hid (V.tk p = x) := ⟨_, show _ = _ from rfl⟩
 rw [HX.out] at HA
 rw [HX.out]
 obtain ⟨xk, xt, xvt, xvn, xsy, xa, xe⟩ := x
 clear h
 go_enter Tryz.func133, Tryz.ntmps133
 go_wp2_with fail
 rw [HW0.out]
 refine Calls.mono HA.out ?_
 rintro e W1 ⟨rfl, hk1⟩
 have hkk : Kept No w W1 := HK0.out.trans hk1
 have hR1 : W1.heap[w.heap.size]? = some (tb t0) := hk1.heap HT0.out id
 have HRT : Hid (w.heap.size < W1.heap.size ∧ Kept No w W1) := ⟨by
   rcases Nat.lt_or_ge w.heap.size W1.heap.size with h' | h'
   ·exact h'
   ·simp [Array.getElem?_eq_none h'] at hR1, hkk⟩
 obtain ⟨ao, cap, hC, _⟩ := HP.out.cells
 have f1 : ∀ o, (W1.alloc o).cell? ⟨c, 1, none⟩ = some (.int .i64 (p : Int)) := fun o => (hC _ (hkk.alloc o)).2.1
 have f3 : ∀ o q, (W1.alloc o).frozen? ⟨c, q, none⟩ = false := fun o q => (hC _ (hkk.alloc o)).2.2.2 q
 obtain ⟨r3, r4, r5, r6, r7, r8, r9⟩ := tbo_cells (Kept.refl No W1) hR1
 have rf : ∀ o q, (W1.alloc o).frozen? ⟨w.heap.size, q, none⟩ = false := fun o q => tb_frozen (((Kept.refl No W1).alloc o).heap hR1 id) q
 dsimp only [t0] at r3 r4 r5 r6 r7 r8 r9
 obtain ⟨R, hR⟩ : ∃ R, w.heap.size = R := ⟨_, rfl⟩
 rw [hR] at r3 r4 r5 r6 r7 r8 r9 rf hcl HRT
 rw [hR]
 have n1 : W1.heap.size ≠ c := by have := HRT.out.1; omega
 have n2 : R ≠ c := by omega
 have n3 : c ≠ W1.heap.size := fun e => n1 e.symm
 have n4 : c ≠ R := fun e => n2 e.symm
 have n5 : R ≠ W1.heap.size := by have := HRT.out.1; omega
 have n6 : W1.heap.size ≠ R := fun e => n5 e.symm
 have HRw : Hid (w.heap.size ≤ R) := by show _ ≤ _; omega
 clear hC hkk hR1 hk1 HT0 HK0 HA HW0 hR
 unfold tv
 dsimp only
 go_wp2_with fail
 refine bodyPost_ret (v := tv ⟨xk, xt, xvt, xvn, xsy, xa, xe⟩) (by simp [results, Tryz.results133, go_sem, tv, r3, r4, r5, r6, r7, r8, r9, n1, n2, n3, n4, n5, n6]) rfl ⟨rfl, ?_, ?_⟩
 ·repeat refine Kept.set ?_ _ _ _ (by first | exact .inl rfl | exact .inr HRw.out)
  exact HRT.out.2.no.alloc _
 ·refine HP.out.turn (p + 1) (by omega) ?_ ?_
  ·repeat refine Kept.set ?_ _ _ _ (by first | exact .inl rfl | exact .inr HRw.out)
   exact HRT.out.2.no.alloc _
  ·intro ao cap hb
   repeat refine set_other ?_ _ _ n4
   rw [show ((p + 1 : Nat) : Int) = (p : Int) + 1 by omega]
   exact set_same ((HRT.out.2.alloc _).heap hb id) _ _
end Go.Proofs.YtgkgpjbbmnfnmaaGreatDoor

/- ended, wrong, begin, need, name, key. -/
namespace Go.Proofs.YtgkgpjbbmnfnmaaGreatDoor
open Go.RowKit
set_option linter.unusedSimpArgs false
set_option linter.unusedVariables false

/-- A parser that stops. -/
abbrev stopW (a e : Int) : Ending := .panicked [{ v := .iface 115 (.agg #[.int .i64 a, .int .i64 e]), recovered := false }]

set_option maxRecDepth 20000 in
set_option maxHeartbeats 2000000 in
theorem ended_any {w : World} {c : Nat} {V : Env} {p : Nat} (h : Ps w c V p) :
  Calls Tryz.prog 61 #[.pointer (some ⟨c, 0, none⟩)] w fun r w' => r = .returned (.bool (V.ended p)) ∧ Kept No w w' := by
 obtain ⟨ao, cap, hC, _⟩ := h.cells
 obtain ⟨f0, f1, _, _⟩ := hC w (Kept.refl _ _)
 unfold Env.ended
 clear h hC
 go_enter Tryz.func61, Tryz.ntmps61
 go_wp2_with fail
 go_region_held3 (fun w' => w'.cell? ⟨c, 0, none⟩ = some (.slice ao V.L.length cap) ∧ w'.cell? ⟨c, 1, none⟩ = some (.int .i64 (p : Int))) (go_keep) (first | (fail))
 go_wp2_with fail
 go_ret
 exact ⟨rfl, (Kept.refl _ _).drew⟩

set_option maxRecDepth 20000 in
set_option maxHeartbeats 2000000 in
theorem wrong_any {w : World} {c : Nat} {V : Env} {p : Nat} (h : Ps w c V p) :
  Calls Tryz.prog 62 #[.pointer (some ⟨c, 0, none⟩)] w fun r w' => r = .returned (.agg #[.int .i64 (V.at p), .int .i64 6]) ∧ Kept No w w' := by
 obtain ⟨W0, HW0⟩ : ∃ W0, Hid (w.alloc (.cells #[.int .i64 0, .int .i64 0] 115) = W0) := ⟨_, show _ = _ from rfl⟩
 have HK0 : Hid (Kept No w W0) := by show Kept _ _ _; rw [← HW0.out]; exact (Kept.refl No w).alloc _
 have HT0 : Hid (W0.heap[w.heap.size]? = some (.cells #[.int .i64 0, .int .i64 0] 115 (0, 0))) := by show _ = _; rw [← HW0.out]; exact World.alloc_heap_new w _
 have HA : Hid _ := at_any (h.no HK0.out)
 generalize V.at p = a at HA ⊢
 clear h
 go_enter Tryz.func62, Tryz.ntmps62
 go_wp2_with fail
 rw [HW0.out]
 refine Calls.mono HA.out ?_
 rintro e W1 ⟨rfl, hk1⟩
 have HK1 : Hid (Kept No w W1) := HK0.out.trans hk1
 have hh := hk1.heap HT0.out id
 have t0' := cell_of hh 0
 have t1' := cell_of hh 1
 simp only [List.getElem?_toArray, List.getElem?_cons_zero, List.getElem?_cons_succ] at t0' t1'
 have tf := fun o => frozen_of hh o
 clear hk1 HA HK0 HT0 HW0 hh
 go_wp2_with fail
 refine bodyPost_ret (v := .agg #[.int .i64 a, .int .i64 6]) (by simp [results, Tryz.results62, go_sem, t0', t1']) rfl ⟨rfl, ?_⟩
 repeat refine Kept.set ?_ _ _ _ (Or.inr (Nat.le_refl _))
 exact HK1.out

set_option maxRecDepth 20000 in
set_option maxHeartbeats 2000000 in
theorem begin_ok {w : World} {c : Nat} {V : Env} {p : Nat} (h : Ps w c V p) (lv : Nat) (hl : lv ≤ 40) :
  Calls Tryz.prog 96 #[.pointer (some ⟨c, 0, none⟩), .int .i64 (lv : Int)] w fun r w' => r = .returned (.int .i64 (V.at p)) ∧ Kept No w w' := by
 have HA : Hid _ := at_any h
 generalize V.at p = a at HA ⊢
 have d1 : decide ((40 : Int) < (lv : Int)) = false := decide_eq_false (by omega)
 clear h
 go_enter Tryz.func96, Tryz.ntmps96
 go_wp2_with fail
 refine Calls.mono HA.out ?_
 rintro e W1 ⟨rfl, hk1⟩
 have HK1 : Hid (Kept No w W1) := hk1
 clear hk1 HA
 go_wp2_with fail
 go_ret
 exact ⟨rfl, HK1.out⟩

set_option maxRecDepth 20000 in
set_option maxHeartbeats 2000000 in
theorem begin_bad {w : World} {c : Nat} {V : Env} {p : Nat} (h : Ps w c V p) (lv : Nat) (hl : ¬ lv ≤ 40) (hb : lv ≤ 1000) :
  Calls Tryz.prog 96 #[.pointer (some ⟨c, 0, none⟩), .int .i64 (lv : Int)] w fun r w' => r = stopW (V.at p) 14 ∧ Kept No w w' := by
 have HA : Hid _ := at_any h
 generalize V.at p = a at HA ⊢
 have d1 : decide ((40 : Int) < (lv : Int)) = true := decide_eq_true (by omega)
 clear h
 go_enter Tryz.func96, Tryz.ntmps96
 go_wp2_with fail
 refine Calls.mono HA.out ?_
 rintro e W1 ⟨rfl, hk1⟩
 have HK1 : Hid (Kept No w W1) := hk1
 clear hk1 HA
 go_wp2_with fail
 exact ⟨rfl, rfl, HK1.out⟩

set_option maxRecDepth 20000 in
set_option maxHeartbeats 2000000 in
theorem need_ok {w : World} {c : Nat} {V : Env} {p : Nat} (h : Ps w c V p) (s : ByteArray) (hs : s.data.toList ≠ []) (hi : V.is s.data.toList p = true) :
  Calls Tryz.prog 166 #[.pointer (some ⟨c, 0, none⟩), .string s] w fun r w' => r = .returned (.tuple #[]) ∧ Kept (fun b => b = c) w w' ∧ Ps w' c V (p + 1) := by
 have HA : Hid _ := took_any h s hs
 rw [hi, if_pos rfl] at HA
 clear h hi
 go_enter Tryz.func166, Tryz.ntmps166
 go_wp2_with fail
 refine Calls.mono HA.out ?_
 rintro e W1 ⟨rfl, hk1, hp1⟩
 have HK1 : Hid (Kept (fun b => b = c) w W1 ∧ Ps W1 c V (p + 1)) := ⟨hk1, hp1⟩
 clear hk1 hp1 HA
 go_wp2_with fail
 go_end0
 exact ⟨rfl, HK1.out.1, HK1.out.2⟩

set_option maxRecDepth 20000 in
set_option maxHeartbeats 2000000 in
theorem need_bad {w : World} {c : Nat} {V : Env} {p : Nat} (h : Ps w c V p) (s : ByteArray) (hs : s.data.toList ≠ []) (hi : V.is s.data.toList p = false) :
  Calls Tryz.prog 166 #[.pointer (some ⟨c, 0, none⟩), .string s] w fun r w' => r = stopW (V.at p) 6 ∧ Kept (fun b => b = c) w w' := by
 have HA : Hid _ := took_any h s hs
 rw [hi, if_neg (by decide)] at HA
 clear h hi
 go_enter Tryz.func166, Tryz.ntmps166
 go_wp2_with fail
 refine Calls.mono HA.out ?_
 rintro e W1 ⟨rfl, hk1, hp1⟩
 have HW : Hid _ := wrong_any hp1
 have HK1 : Hid (Kept (fun b => b = c) w W1) := hk1
 clear hk1 hp1 HA
 go_wp2_with fail
 refine Calls.mono HW.out ?_
 rintro e W2 ⟨rfl, hk2⟩
 have HK2 : Hid (Kept (fun b => b = c) w W2) := HK1.out.trans hk2.no
 clear hk2 HK1 HW
 go_wp2_with fail
 exact ⟨rfl, rfl, HK2.out⟩
end Go.Proofs.YtgkgpjbbmnfnmaaGreatDoor

/- name, key. -/
namespace Go.Proofs.YtgkgpjbbmnfnmaaGreatDoor
open Go.RowKit
set_option linter.unusedSimpArgs false
set_option linter.unusedVariables false

/-- A node's box. -/
def nb (l : List Value) : Obj := .cells l.toArray 43 (0, 0)
def nz : List Value := ncs 0 ⟨#[]⟩ 0 0 0 (.slice none 0 0) 0
/-- What a part of the parser does: it makes a tree, or stops. -/
def PRes (c : Nat) (V : Env) (w : World) (R : PR Tr) (r : Ending) (w' : World) : Prop := Kept (fun b => b = c) w w' ∧ match R with
 | .ok (x, q) => (∃ cs, r = .returned (.agg cs.toArray) ∧ NodeIs (fun b => b < w.heap.size) w' x cs) ∧ Ps w' c V q
 | .error (a, e) => r = stopW a e
theorem leaf_is (S : Nat → Prop) (w : World) (k : Int) (t : ByteArray) (vt vn n a : Int) : NodeIs S w (.mk k t vt vn n [] a) (ncs k t vt vn n (.slice none 0 0) a) := NodeIs.cs.2 ⟨_, rfl, .inl ⟨rfl, rfl⟩⟩

set_option maxRecDepth 20000 in
set_option maxHeartbeats 4000000 in
theorem pname_any {w : World} {c : Nat} {V : Env} {p : Nat} (h : Ps w c V p) :
  Calls Tryz.prog 167 #[.pointer (some ⟨c, 0, none⟩)] w (PRes c V w (V.name p)) := by
 obtain ⟨W0, HW0⟩ : ∃ W0, Hid (w.alloc (nb nz) = W0) := ⟨_, show _ = _ from rfl⟩
 have HK0 : Hid (Kept No w W0) := by show Kept _ _ _; rw [← HW0.out]; exact (Kept.refl No w).alloc _
 have HT0 : Hid (W0.heap[w.heap.size]? = some (nb nz)) := by show _ = _; rw [← HW0.out]; exact World.alloc_heap_new w _
 have hcl := h.lt
 have HP : Hid (Ps W0 c V p) := h.no HK0.out
 unfold nb nz ncs at HW0
 have HN : Hid _ := isName_any HP.out
 unfold Env.name
 cases hn : V.isName p with
 | false =>
  rw [hn] at HN
  rw [if_neg (by decide)]
  unfold Env.wrong
  clear h hn
  go_enter Tryz.func167, Tryz.ntmps167
  go_wp2_with fail
  rw [HW0.out]
  refine Calls.mono HN.out ?_
  rintro e W1 ⟨rfl, hk1⟩
  have HWr : Hid _ := wrong_any (HP.out.no hk1)
  have HK1 : Hid (Kept No w W1) := HK0.out.trans hk1
  clear hk1 HN HP HK0 HT0 HW0
  go_wp2_with fail
  refine Calls.mono HWr.out ?_
  rintro e W2 ⟨rfl, hk2⟩
  have HK2 : Hid (Kept No w W2) := HK1.out.trans hk2
  clear hk2 HK1 HWr
  go_wp2_with fail
  exact ⟨rfl, HK2.out.no, rfl⟩
 | true =>
  have hlt := kind_lt hn (by decide)
  rw [hn] at HN
  rw [if_pos rfl]
  obtain ⟨x, HX⟩ : ∃ x, Hid (V.tk p = x) := ⟨_, show _ = _ from rfl⟩
  have ea : V.at p = x.a := by unfold Env.at; rw [HX.out]
  rw [ea, HX.out]
  obtain ⟨xk, xt, xvt, xvn, xsy, xa, xe⟩ := x
  dsimp only
  clear h hn ea
  go_enter Tryz.func167, Tryz.ntmps167
  go_wp2_with fail
  rw [HW0.out]
  refine Calls.mono HN.out ?_
  rintro e W1 ⟨rfl, hk1⟩
  have HTk : Hid _ := take_any (HP.out.no hk1) hlt
  rw [HX.out] at HTk
  have HK1 : Hid (Kept No w W1 ∧ W1.heap[w.heap.size]? = some (nb nz)) := ⟨HK0.out.trans hk1, hk1.heap HT0.out id⟩
  clear hk1 HN HP HK0 HT0 HW0
  go_wp2_with fail
  refine Calls.mono HTk.out ?_
  rintro e W2 ⟨rfl, hk2, hp2⟩
  have hR2 : W2.heap[w.heap.size]? = some (nb nz) := hk2.heap HK1.out.2 (by omega)
  have HK2 : Hid (Kept (fun b => b = c) w W2 ∧ Ps W2 c V (p + 1)) := ⟨HK1.out.1.no.trans hk2, hp2⟩
  have q0 := fun o => cell_of (((Kept.refl No W2).alloc o).heap hR2 id)
  have rf : ∀ o q, (W2.alloc o).frozen? ⟨w.heap.size, q, none⟩ = false := fun o q => frozen_of (((Kept.refl No W2).alloc o).heap hR2 id) q
  have r0 := fun o => q0 o 0
  have r1 := fun o => q0 o 1
  have r2 := fun o => q0 o 2
  have r3 := fun o => q0 o 3
  have r4 := fun o => q0 o 4
  have r5 := fun o => q0 o 5
  have r6 := fun o => q0 o 6
  simp only [nz, ncs, List.getElem?_toArray, List.getElem?_cons_zero, List.getElem?_cons_succ] at r0 r1 r2 r3 r4 r5 r6
  have n5 : w.heap.size ≠ W2.heap.size := fun e => by rw [e] at hR2; simp [Array.getElem?_eq_none] at hR2
  have n6 : W2.heap.size ≠ w.heap.size := fun e => n5 e.symm
  have n7 : c ≠ w.heap.size := by omega
  clear q0 hk2 hp2 HTk HK1 hR2
  unfold tv
  dsimp only
  go_wp2_with fail
  refine bodyPost_ret (v := .agg (ncs 6 xt 0 0 0 (.slice none 0 0) xa).toArray) (by simp [results, Tryz.results167, go_sem, ncs, r0, r1, r2, r3, r4, r5, r6, n5, n6]) rfl ?_
  refine ⟨?_, ⟨_, rfl, leaf_is _ _ _ _ _ _ _ _⟩, ?_⟩
  ·repeat refine Kept.set ?_ _ _ _ (Or.inr (Nat.le_refl _))
   exact HK2.out.1.alloc _
  ·refine HK2.out.2.low (fun k hk => ?_)
   have hkR : k ≠ w.heap.size := by omega
   have hk2 : k < W2.heap.size := Nat.lt_of_le_of_lt hk HK2.out.2.lt
   repeat rw [set_low _ _ _ hkR]
   exact alloc_low _ _ hk2
end Go.Proofs.YtgkgpjbbmnfnmaaGreatDoor

/- Rows of trees while they are made. -/
namespace Go.Proofs.YtgkgpjbbmnfnmaaGreatDoor
open Go.RowKit
set_option linter.unusedSimpArgs false
set_option linter.unusedVariables false

/-- What may not be a block of a row's trees: what was there at the beginning, and the row itself. -/
def Out (B : Nat) (v : Value) (b : Nat) : Prop := b < B ∨ v.ownBlock = some b
/-- A row of trees that is made from block B on. -/
structure Bld (B : Nat) (w : World) (v : Value) (l : List Tr) : Prop where
 ex : ∃ css : List (List Value), css.length = l.length ∧ w.ownsRow B 43 7 v l.length css.flatten ∧ ∀ j (h1 : j < l.length) (h2 : j < css.length), NodeIs (Out B v) w l[j] css[j]
theorem Bld.nil (B : Nat) (w : World) : Bld B w (.slice none 0 0) [] := ⟨⟨[], rfl, World.ownsRow_nil _ _ _ _, fun j h => by simp at h⟩⟩
theorem Bld.own_lt {B : Nat} {w : World} {v : Value} {l : List Tr} (h : Bld B w v l) : ∀ k, v.ownBlock = some k → B ≤ k ∧ k < w.heap.size := by
 obtain ⟨css, _, ho, _⟩ := h.ex
 exact ho.lt
/-- The parser goes on: the row stays. -/
theorem Bld.go {B : Nat} {w w' : World} {v : Value} {l : List Tr} {c : Nat} (h : Bld B w v l) (hc : c < B) (hk : Kept (fun b => b = c) w w') : Bld B w' v l := by
 obtain ⟨css, e, ho, hn⟩ := h.ex
 refine ⟨⟨css, e, ?_, fun j h1 h2 => ?_⟩⟩
 ·obtain ⟨o1, o2 | ⟨g, cap, cur, o3, o4, o5, o6⟩⟩ := ho
  ·exact ⟨o1, .inl o2⟩
  ·exact ⟨o1, .inr ⟨g, cap, cur, o3, o4, hk.heap o5 (by omega), o6⟩⟩
 ·refine NodeIs.kept (hk.mono ?_) _ _ (hn j h1 h2)
  rintro b rfl
  exact .inl hc
mutual
theorem NodeIs.more {S : Nat → Prop} {w : World} : ∀ (x : Tr) (cs : List Value), NodeIs S w x cs → NodeIs (fun b => S b ∨ w.heap.size ≤ b) w x cs
 | .mk k t vt vn n l a, cs, h => by
  unfold NodeIs at h ⊢
  obtain ⟨sv, e, h⟩ := h
  refine ⟨sv, e, ?_⟩
  rcases h with h | ⟨b, o, cap, h1, h2, h3, h4⟩
  ·exact .inl h
  ·exact .inr ⟨b, o, cap, h1, fun e => e.elim h2 (fun e => by omega), h3, RowAt.more b o l 0 h4⟩
theorem RowAt.more {S : Nat → Prop} {w : World} (b o : Nat) : ∀ (l : List Tr) (j : Nat), RowAt S w b o l j → RowAt (fun b => S b ∨ w.heap.size ≤ b) w b o l j
 | [], _, _ => by unfold RowAt; trivial
 | x :: r, j, h => by
  unfold RowAt at h ⊢
  obtain ⟨⟨cs, h1, h2⟩, h3⟩ := h
  exact ⟨⟨cs, NodeIs.more x cs h1, h2⟩, RowAt.more b o r (j + 1) h3⟩
end
theorem flat_snoc (css : List (List Value)) (cs : List Value) : (css ++ [cs]).flatten = css.flatten ++ cs := by simp
/-- One more is put behind. -/
theorem Bld.snoc {B : Nat} {w w' : World} {v v' : Value} {l : List Tr} {x : Tr} {cs : List Value} (h : Bld B w v l) {css : List (List Value)} (he : css.length = l.length)
  (hn : ∀ j (h1 : j < l.length) (h2 : j < css.length), NodeIs (Out B v) w l[j] css[j]) (hx : NodeIs (Out B v) w x cs)
  (hown : w'.ownsRow B 43 7 v' (l.length + 1) (css.flatten ++ cs)) (hg : w.grownBy w' v.ownBlock) (hv : v'.ownBlock = v.ownBlock ∨ ∀ k, v'.ownBlock = some k → w.heap.size ≤ k) : Bld B w' v' (l ++ [x]) := by
 have hk : Kept (Out B v) w w' := (Kept.refl _ w).grown hg (fun k e => .inl (.inr e))
 have key : ∀ y ds, NodeIs (Out B v) w y ds → NodeIs (Out B v') w' y ds := by
  intro y ds hy
  rcases hv with hv | hv
  ·have := NodeIs.kept hk y ds hy
   unfold Out at this ⊢
   rw [hv]; exact this
  ·have h1 := NodeIs.kept (hk.mono (fun b hb => .inl hb)) y ds (NodeIs.more y ds hy)
   refine NodeIs.mono ?_ y ds h1
   rintro b (hb | hb)
   ·exact .inl (.inl hb)
   ·exact .inr (hv b hb)
 refine ⟨⟨css ++ [cs], by simp [he], by rw [flat_snoc, List.length_append]; exact hown, fun j h1 h2 => ?_⟩⟩
 by_cases hj : j < l.length
 ·have hj2 : j < css.length := by omega
  rw [List.getElem_append_left hj, List.getElem_append_left hj2]
  exact key _ _ (hn j hj hj2)
 ·have e1 : j = l.length := by simp at h1; omega
  subst e1
  rw [List.getElem_append_right (Nat.le_refl _), List.getElem_append_right (by omega)]
  simp only [Nat.sub_self, he, List.getElem_cons_zero]
  exact key _ _ hx
theorem flat_at (css : List (List Value)) (h7 : ∀ cs ∈ css, cs.length = 7) (j : Nat) (hj : j < css.length) (i : Nat) (hi : i < 7) : css.flatten[j * 7 + i]? = css[j][i]? := by
 induction css generalizing j with
 | nil => simp at hj
 | cons x r ih =>
  have hl : x.length = 7 := h7 x (by simp)
  rw [List.flatten_cons]
  cases j with
  | zero => rw [List.getElem?_append_left (by omega)]; simp
  | succ j =>
   rw [List.getElem?_append_right (by omega), hl, show (j + 1) * 7 + i - 7 = j * 7 + i by omega, ih (fun cs h => h7 cs (by simp [h])) j (by simpa using hj)]
   simp
theorem row_of {S : Nat → Prop} {w : World} {g : Nat} : ∀ (l : List Tr) (css : List (List Value)) (j : Nat), css.length = l.length → (∀ i (h1 : i < l.length) (h2 : i < css.length), NodeIs S w l[i] css[i]) →
  (∀ k (hk : k < css.length) i, i < 7 → w.cell? ⟨g, 0 + (j + k) * 7 + i, none⟩ = css[k][i]?) → RowAt S w g 0 l j
 | [], _, _, _, _, _ => by unfold RowAt; trivial
 | x :: r, [], _, e, _, _ => by simp at e
 | x :: r, cs :: css, j, e, hn, hc => by
  unfold RowAt
  refine ⟨⟨cs, hn 0 (by simp) (by simp), fun i hi => hc 0 (by simp) i hi⟩, ?_⟩
  refine row_of r css (j + 1) (by simpa using e) (fun i h1 h2 => hn (i + 1) (by simp; omega) (by simp; omega)) (fun k hk i hi => ?_)
  have := hc (k + 1) (by simp; omega) i hi
  rw [show j + 1 + k = j + (k + 1) by omega]
  simpa using this
/-- A row that is made is a list of trees. -/
theorem Bld.list {B : Nat} {w : World} {v : Value} {l : List Tr} (h : Bld B w v l) : ListIs (fun b => b < B) w l v := by
 obtain ⟨css, e, ⟨o1, o2⟩, hn⟩ := h.ex
 rcases o2 with ⟨h2, h3⟩ | ⟨g, cap, cur, h3, h4, h5, h6, h7, h8, h9⟩
 ·exact .inl ⟨List.length_eq_zero_iff.1 h3, h2⟩
 ·have hlt : g < w.heap.size := (Array.getElem?_eq_some_iff.1 h5).1
  refine .inr ⟨g, 0, cap, h3, by omega, ⟨hlt, h6⟩, ?_⟩
  refine RowAt.mono (fun b hb => .inl hb) g 0 l 0 (row_of (S := Out B v) l css 0 e hn (fun k hk i hi => ?_))
  have hkl : k < l.length := by omega
  rw [← flat_at css (fun cs hcs => by
   obtain ⟨m, hm, rfl⟩ := List.getElem_of_mem hcs
   exact (hn m (by omega) hm).len) k hk i hi]
  rw [cell_of h5, ← h9, List.getElem?_take, if_pos (by omega), Array.getElem?_toList]
  congr 1
  omega
/-- A row of one tree, just made. -/
theorem Bld.one {B : Nat} {w : World} {x : Tr} {cs : List Value} (hB : B ≤ w.heap.size) (hx : NodeIs (fun b => b < B) w x cs) : Bld B (w.alloc (nb cs)) (.slice (some ⟨w.heap.size, 0, none⟩) 1 1) [x] := by
 have hl := hx.len
 refine ⟨⟨[cs], rfl, ⟨by simp [hl], .inr ⟨w.heap.size, 1, cs.toArray, rfl, hB, World.alloc_heap_new w _, Nat.le_refl _, by decide, by simp [hl], by simp; exact List.take_of_length_le (by omega)⟩⟩, fun j h1 h2 => ?_⟩⟩
 have e : j = 0 := by simp at h1; omega
 subst e
 have h1 := NodeIs.kept (((Kept.refl No w).alloc (nb cs)).no) x cs (NodeIs.more x cs hx)
 refine NodeIs.mono ?_ x cs h1
 rintro b (hb | hb)
 ·exact .inl hb
 ·simp [Value.ownBlock] at hb
  exact .inr (by omega)
/-- Where a parser is. -/
def pos (c : Nat) (w : World) : Nat := match w.cell? ⟨c, 1, none⟩ with
 | some (.int _ k) => k.toNat
 | _ => 0
theorem Ps.pos {w : World} {c : Nat} {V : Env} {p : Nat} (h : Ps w c V p) : _root_.Go.Proofs.YtgkgpjbbmnfnmaaGreatDoor.pos c w = p := by
 obtain ⟨ao, cap, hC, _⟩ := h.cells
 unfold _root_.Go.Proofs.YtgkgpjbbmnfnmaaGreatDoor.pos
 rw [(hC w (Kept.refl _ _)).2.1]
 simp
end Go.Proofs.YtgkgpjbbmnfnmaaGreatDoor

/- names. -/
namespace Go.Proofs.YtgkgpjbbmnfnmaaGreatDoor
open Go.RowKit
set_option linter.unusedSimpArgs false
set_option linter.unusedVariables false

theorem infoN : (Tryz.prog.info? 43).map (fun i => (i.zero, i.size, i.bytes)) = some (some (.agg #[.int .i64 0, .string ⟨#[]⟩, .int .i64 0, .int .i64 0, .int .i64 0, .slice none 0 0, .int .i64 0]), 7, 80) := by kernel_rfl
/-- .. a list of trees, or stops. -/
def PResL (c : Nat) (V : Env) (w : World) (R : PR (List Tr)) (r : Ending) (w' : World) : Prop := Kept (fun b => b = c) w w' ∧ match R with
 | .ok (l, q) => (∃ sv, r = .returned sv ∧ ListIs (fun b => b < w.heap.size) w' l sv) ∧ Ps w' c V q
 | .error (a, e) => r = stopW a e
/-- What comes behind an element. -/
def Env.sepT (V : Env) (f : Nat → PR Tr) (n q : Nat) : PR (List Tr) := if V.is [44] q then V.sep f n (q + 1) else .ok ([], q)
/-- .. with some ahead of it. -/
def prep (D : List Tr) (R : PR (List Tr)) : PR (List Tr) := match R with
 | .error e => .error e
 | .ok (l, r) => .ok (D ++ l, r)
theorem sep_T (V : Env) (f : Nat → PR Tr) (n p : Nat) : V.sep f (n + 1) p = match f p with
  | .error e => .error e
  | .ok (x, q) => prep [x] (V.sepT f n q) := by
 rw [Env.sep]
 cases f p with
 | error e => rfl
 | ok y =>
  obtain ⟨x, q⟩ := y
  dsimp only
  unfold Env.sepT
  split
  ·cases V.sep f n (q + 1) with
   | error e => rfl
   | ok z => obtain ⟨l, r⟩ := z; rfl
  ·rfl
theorem prep_prep (D E : List Tr) (R : PR (List Tr)) : prep D (prep E R) = prep (D ++ E) R := by
 cases R with
 | error e => rfl
 | ok z => obtain ⟨l, r⟩ := z; simp [prep]
theorem ncs_one {S : Nat → Prop} {w : World} {l : List Tr} {sv : Value} (h : ListIs S w l sv) (k : Int) (t : ByteArray) (vt vn n a : Int) : ∀ u ∈ ncs k t vt vn n sv a, u.oneCell' = true := by
 have hs : sv.oneCell' = true := by
  rcases h with ⟨_, rfl⟩ | ⟨b, o, cap, rfl, _⟩ <;> rfl
 simp [ncs, Value.oneCell', hs]
 exact hs

end Go.Proofs.YtgkgpjbbmnfnmaaGreatDoor

/- key; expressions on a level; lists. -/
namespace Go.Proofs.YtgkgpjbbmnfnmaaGreatDoor
open Go.RowKit
set_option linter.unusedSimpArgs false
set_option linter.unusedVariables false

/-- .. a tree and a bool, or stops. -/
def PResB (c : Nat) (V : Env) (w : World) (R : PR (Tr × Bool)) (r : Ending) (w' : World) : Prop := Kept (fun b => b = c) w w' ∧ match R with
 | .ok ((x, g), q) => (∃ cs, r = .returned (.tuple #[.agg cs.toArray, .bool g]) ∧ NodeIs (fun b => b < w.heap.size) w' x cs) ∧ Ps w' c V q
 | .error (a, e) => r = stopW a e
/-- The parser's functions on a level do what is said of it. -/
structure LevIs (V : Env) (G : Lev) (lv : Nat) : Prop where
 above : ∀ {w : World} {c p : Nat} (b : Nat), b ≤ 7 → Ps w c V p → Calls Tryz.prog 187 #[.pointer (some ⟨c, 0, none⟩), .int .i64 (b : Int), .int .i64 (lv : Int)] w (PRes c V w (G.above b p))
 suff : ∀ {w : World} {c p : Nat}, Ps w c V p → Calls Tryz.prog 169 #[.pointer (some ⟨c, 0, none⟩), .int .i64 (lv : Int)] w (PResB c V w (G.suff p))
 body : ∀ {w : World} {c p : Nat} (a : Int), Ps w c V p → lv ≤ 40 → Calls Tryz.prog 188 #[.pointer (some ⟨c, 0, none⟩), .int .i64 a, .int .i64 (lv : Int)] w (PRes c V w (G.body a p))
 block : ∀ {w : World} {c p : Nat}, Ps w c V p → Calls Tryz.prog 60 #[.pointer (some ⟨c, 0, none⟩), .int .i64 (lv : Int)] w (PRes c V w (G.block p))
 ok : G.ok = decide (lv ≤ 40)
 le : 1 ≤ lv ∧ lv ≤ 41
 go : LevGo V G

/-- What a box's seven cells are. -/
theorem nb_cells {w : World} {b : Nat} {k : Int} {t : ByteArray} {vt vn n : Int} {sv : Value} {a : Int} (h : w.heap[b]? = some (nb (ncs k t vt vn n sv a))) : w.cell? ⟨b, 0, none⟩ = some (.int .i64 k) ∧ w.cell? ⟨b, 1, none⟩ = some (.string t) ∧ w.cell? ⟨b, 2, none⟩ = some (.int .i64 vt) ∧ w.cell? ⟨b, 3, none⟩ = some (.int .i64 vn) ∧ w.cell? ⟨b, 4, none⟩ = some (.int .i64 n) ∧ w.cell? ⟨b, 5, none⟩ = some sv ∧ w.cell? ⟨b, 6, none⟩ = some (.int .i64 a) :=
 ⟨by rw [cell_of h]; rfl, by rw [cell_of h]; rfl, by rw [cell_of h]; rfl, by rw [cell_of h]; rfl, by rw [cell_of h]; rfl, by rw [cell_of h]; rfl, by rw [cell_of h]; rfl⟩
theorem nb_frozen {w : World} {b : Nat} {l : List Value} (h : w.heap[b]? = some (nb l)) (o : Nat) : w.frozen? ⟨b, o, none⟩ = false := frozen_of h o
theorem slice_of {S : Nat → Prop} {w : World} {l : List Tr} {sv : Value} (h : ListIs S w l sv) : ∃ ao ln cp, sv = .slice ao ln cp := by
 rcases h with ⟨_, rfl⟩ | ⟨b, o, cap, rfl, _⟩
 ·exact ⟨_, _, _, rfl⟩
 ·exact ⟨_, _, _, rfl⟩

set_option maxRecDepth 20000 in
set_option maxHeartbeats 4000000 in
theorem expr_any {w : World} {c : Nat} {V : Env} {p : Nat} {G : Lev} {lv : Nat} (hG : LevIs V G lv) (h : Ps w c V p) :
  Calls Tryz.prog 163 #[.pointer (some ⟨c, 0, none⟩), .int .i64 (lv : Int)] w (PRes c V w (G.above 0 p)) := by
 obtain ⟨W0, HW0⟩ : ∃ W0, Hid (w.alloc (nb nz) = W0) := ⟨_, show _ = _ from rfl⟩
 have HK0 : Hid (Kept No w W0 ∧ W0.heap.size = w.heap.size + 1) := by
  refine ⟨?_, ?_⟩
  ·rw [← HW0.out]; exact (Kept.refl No w).alloc _
  ·rw [← HW0.out]; simp
 have HT0 : Hid (W0.heap[w.heap.size]? = some (nb nz)) := by show _ = _; rw [← HW0.out]; exact World.alloc_heap_new w _
 have hcl := h.lt
 have HA : Hid (Calls Tryz.prog 187 #[.pointer (some ⟨c, 0, none⟩), .int .i64 ((0 : Nat) : Int), .int .i64 (lv : Int)] W0 _) := hG.above 0 (by omega) (h.no HK0.out.1)
 unfold nb nz ncs at HW0
 cases hR : G.above 0 p with
 | error e =>
  obtain ⟨a, x⟩ := e
  rw [hR] at HA
  clear h hR hG
  go_enter Tryz.func163, Tryz.ntmps163
  go_wp2_with fail
  rw [HW0.out]
  refine Calls.mono HA.out ?_
  rintro r W1 ⟨hk1, rfl⟩
  have HK1 : Hid (Kept (fun b => b = c) w W1) := HK0.out.1.no.trans hk1
  clear hk1 HA HW0 HT0 HK0
  go_wp2_with fail
  exact ⟨rfl, HK1.out, rfl⟩
 | ok y =>
  obtain ⟨⟨yk, yt, yvt, yvn, yn, yl, ya⟩, q⟩ := y
  rw [hR] at HA
  clear h hR hG
  go_enter Tryz.func163, Tryz.ntmps163
  go_wp2_with fail
  rw [HW0.out]
  refine Calls.mono HA.out ?_
  rintro r W1 ⟨hk1, ⟨cs, rfl, hy⟩, hp1⟩
  obtain ⟨sv, rfl, hl⟩ := NodeIs.cs.1 hy
  obtain ⟨ao, ln, cp, rfl⟩ := slice_of hl
  have hR1 : W1.heap[w.heap.size]? = some (nb nz) := hk1.heap HT0.out (by omega)
  have HF : Hid (Kept (fun b => b = c) w W1 ∧ NodeIs (fun b => b < w.heap.size + 1) W1 (.mk yk yt yvt yvn yn yl ya) (ncs yk yt yvt yvn yn (.slice ao ln cp) ya) ∧ Ps W1 c V q) := ⟨HK0.out.1.no.trans hk1, by rw [← HK0.out.2]; exact hy, hp1⟩
  obtain ⟨r0, r1, r2, r3, r4, r5, r6⟩ := nb_cells hR1
  have rf := fun o => nb_frozen hR1 o
  clear hk1 hy hp1 HA HW0 HT0 HK0 hl hR1
  unfold ncs
  go_wp2_with fail
  refine bodyPost_ret (v := .agg (ncs yk yt yvt yvn yn (.slice ao ln cp) ya).toArray) (by simp [results, Tryz.results163, go_sem, ncs, r0, r1, r2, r3, r4, r5, r6]) rfl ?_
  refine ⟨?_, ⟨_, rfl, NodeIs.mono (fun b (hb : b < w.heap.size) => Nat.lt_succ_of_lt hb) _ _ (NodeIs.kept ?_ _ _ HF.out.2.1)⟩, HF.out.2.2.low (fun k hk => ?_)⟩
  ·repeat refine Kept.set ?_ _ _ _ (Or.inr (Nat.le_refl _))
   exact HF.out.1
  ·repeat refine Kept.set ?_ _ _ _ (Or.inl (Nat.lt_succ_self _))
   exact Kept.refl _ _
  ·have hkR : k ≠ w.heap.size := by omega
   repeat rw [set_low _ _ _ hkR]

set_option maxRecDepth 20000 in
set_option maxHeartbeats 8000000 in
theorem list_any {w : World} {c : Nat} {V : Env} {p : Nat} {G : Lev} {lv : Nat} (hG : LevIs V G lv) (h : Ps w c V p) :
  Calls Tryz.prog 134 #[.pointer (some ⟨c, 0, none⟩), .int .i64 (lv : Int)] w (PResL c V w (listE V G p)) := by
 obtain ⟨i0, hi, hz0, hz1, hz2⟩ := info_parts infoN
 have HI : Hid (Tryz.prog.info? 43 = some i0 ∧ _ ∧ _ ∧ _) := ⟨hi, hz0, hz1, hz2⟩
 have hcl := h.lt
 have hlen := h.len
 have HP : Hid (Ps w c V p) := h
 obtain ⟨R, HR⟩ : ∃ R, Hid (listE V G p = R) := ⟨_, show _ = _ from rfl⟩
 have hR : R = match G.above 0 p with
  | .error e => .error e
  | .ok (x, q) => prep [x] (V.sepT (G.above 0) V.L.length q) := by rw [← HR.out]; exact sep_T V (G.above 0) _ p
 rw [HR.out]
 have HNm : Hid _ := expr_any hG h
 have HGG : Hid (∀ {w' : World} {q : Nat}, Ps w' c V q → Calls Tryz.prog 163 #[.pointer (some ⟨c, 0, none⟩), .int .i64 (lv : Int)] w' (PRes c V w' (G.above 0 q))) := fun hq => expr_any hG hq
 have HGo : Hid (Gos V (G.above 0)) := hG.go.above 0
 clear h hi hz0 hz1 hz2 hG
 cases hn : G.above 0 p with
 | error e =>
  obtain ⟨a, x⟩ := e
  rw [hn] at hR HNm
  dsimp only at hR
  subst hR
  clear hn
  go_enter Tryz.func134, Tryz.ntmps134
  go_wp2_with fail
  refine Calls.mono HNm.out ?_
  rintro r W1 ⟨hk1, rfl⟩
  have HK1 : Hid (Kept (fun b => b = c) w W1) := hk1
  clear hk1 HNm
  go_wp2_with fail
  exact ⟨rfl, HK1.out, rfl⟩
 | ok y =>
  obtain ⟨x, q⟩ := y
  have hgo := HGo.out _ _ _ hn
  rw [hn] at hR HNm
  dsimp only at hR
  clear hn
  go_enter Tryz.func134, Tryz.ntmps134
  go_wp2_with fail
  refine Calls.mono HNm.out ?_
  rintro r W1 ⟨hk1, ⟨cs, rfl, hx⟩, hp1⟩
  obtain ⟨xk, xt, xvt, xvn, xn, xl, xa⟩ := x
  obtain ⟨sv, rfl, hl⟩ := NodeIs.cs.1 hx
  obtain ⟨ao, ln, cp, rfl⟩ : ∃ ao ln cp, sv = .slice ao ln cp := by
   rcases hl with ⟨_, rfl⟩ | ⟨b, o, cap, rfl, _⟩
   ·exact ⟨_, _, _, rfl⟩
   ·exact ⟨_, _, _, rfl⟩
  have HK1 : Hid (Kept (fun b => b = c) w (W1.alloc (nb (ncs xk xt xvt xvn xn (.slice ao ln cp) xa))) ∧ Ps (W1.alloc (nb (ncs xk xt xvt xvn xn (.slice ao ln cp) xa))) c V q ∧ Bld w.heap.size (W1.alloc (nb (ncs xk xt xvt xvn xn (.slice ao ln cp) xa))) (.slice (some ⟨W1.heap.size, 0, none⟩) 1 1) [.mk xk xt xvt xvn xn xl xa]) :=
   ⟨hk1.alloc _, hp1.no ((Kept.refl No W1).alloc _), Bld.one hk1.size hx⟩
  obtain ⟨W2, HW2⟩ : ∃ W2, Hid (W1.alloc (nb (ncs xk xt xvt xvn xn (.slice ao ln cp) xa)) = W2) := ⟨_, show _ = _ from rfl⟩
  rw [HW2.out] at HK1
  unfold nb ncs at HW2
  clear hk1 hx hl hp1 HNm
  unfold ncs
  go_wp2_with fail
  rw [HW2.out]
  clear HW2
  have HRR : Hid (R = prep [Tr.mk xk xt xvt xvn xn xl xa] (V.sepT (G.above 0) V.L.length q)) := hR
  clear hR
  go_loopw [5] (fun v wr => ∃ (D : List Tr) (q n : Nat), D ≠ [] ∧ q ≤ V.L.length ∧ D.length ≤ q ∧ V.L.length ≤ q + n ∧ Hid (R = prep D (V.sepT (G.above 0) n q)) ∧ Hid (Kept (fun b => b = c) w wr ∧ Ps wr c V q ∧ Bld w.heap.size wr v D)) (fun _ wr => V.L.length - pos c wr)
  case atStart => exact ⟨_, q, V.L.length, by simp, hgo.2, by simp; omega, by omega, HRR.out, HK1.out⟩
  case round =>
   clear HK1 HRR HR
   obtain ⟨D, q', n, hD, hq', hDq, hn, HRR, HK⟩ := hrel
   have hps := HK.out.2.1
   cases hb : V.is [44] q' with
   | false =>
    have HTo : Hid (Calls Tryz.prog 98 #[.pointer (some ⟨c, 0, none⟩), .string ⟨#[44]⟩] wr fun r w' => r = .returned (.bool false) ∧ Kept (fun b => b = c) wr w' ∧ Ps w' c V q') := by
     have := took_any hps ⟨#[44]⟩ (by decide)
     rw [show V.is (⟨#[44]⟩ : ByteArray).data.toList q' = false from hb, if_neg (by decide)] at this
     exact this
    have HRe : Hid (R = .ok (D, q')) := by
     show _ = _
     rw [HRR.out]; unfold Env.sepT; rw [hb]; simp [prep]
    clear hps hb HRR
    go_wp2_with fail
    refine Calls.mono HTo.out ?_
    rintro e W3 ⟨rfl, hk3, hp3⟩
    have HF : Hid (Kept (fun b => b = c) w W3 ∧ Ps W3 c V q' ∧ Bld w.heap.size W3 u5 D) := ⟨HK.out.1.trans hk3, hp3, HK.out.2.2.go hcl hk3⟩
    clear hk3 hp3 HTo HK
    go_wp2_with fail
    refine bodyPost_ret (v := u5) (by simp [results, Tryz.results134, go_sem]) rfl ?_
    show PResL c V w R _ _
    rw [HRe.out]
    exact ⟨HF.out.1, ⟨_, rfl, HF.out.2.2.list⟩, HF.out.2.1⟩
   | true =>
    have hlt := is_lt hb (by decide)
    have HTo : Hid (Calls Tryz.prog 98 #[.pointer (some ⟨c, 0, none⟩), .string ⟨#[44]⟩] wr fun r w' => r = .returned (.bool true) ∧ Kept (fun b => b = c) wr w' ∧ Ps w' c V (q' + 1)) := by
     have := took_any hps ⟨#[44]⟩ (by decide)
     rw [show V.is (⟨#[44]⟩ : ByteArray).data.toList q' = true from hb, if_pos rfl] at this
     exact this
    obtain ⟨n', rfl⟩ : ∃ n', n = n' + 1 := ⟨n - 1, by omega⟩
    have hRe : R = prep D (match G.above 0 (q' + 1) with
      | .error e => .error e
      | .ok (x, q) => prep [x] (V.sepT (G.above 0) n' q)) := by
     have e : V.sepT (G.above 0) (n' + 1) q' = V.sep (G.above 0) (n' + 1) (q' + 1) := by unfold Env.sepT; rw [hb, if_pos rfl]
     rw [HRR.out, e, sep_T] <;> cases G.above 0 (q' + 1) <;> rfl
    clear hps hb HRR
    go_wp2_with fail
    refine Calls.mono HTo.out ?_
    rintro e W3 ⟨rfl, hk3, hp3⟩
    have HF : Hid (Kept (fun b => b = c) w W3 ∧ Ps W3 c V (q' + 1) ∧ Bld w.heap.size W3 u5 D) := ⟨HK.out.1.trans hk3, hp3, HK.out.2.2.go hcl hk3⟩
    have HNm : Hid _ := (HGG.out hp3)
    clear hk3 hp3 HTo
    cases hnm : G.above 0 (q' + 1) with
    | error e =>
     obtain ⟨a, x⟩ := e
     rw [hnm] at hRe HNm
     dsimp only at hRe
     have HRe : Hid (R = .error (a, x)) := hRe
     clear hRe hnm
     go_wp2_with fail
     refine Calls.mono HNm.out ?_
     rintro r W4 ⟨hk4, rfl⟩
     have HK4 : Hid (Kept (fun b => b = c) w W4) := HF.out.1.trans hk4
     clear hk4 HNm HF HK
     go_wp2_with fail
     refine ⟨rfl, ?_⟩
     show PResL c V w R _ _
     rw [HRe.out]
     exact ⟨HK4.out, rfl⟩
    | ok y =>
     obtain ⟨⟨yk, yt, yvt, yvn, yn, yl, ya⟩, q2⟩ := y
     have hgo2 := HGo.out _ _ _ hnm
     rw [hnm] at hRe HNm
     dsimp only at hRe
     rw [prep_prep] at hRe
     have HRe : Hid (R = prep (D ++ [Tr.mk yk yt yvt yvn yn yl ya]) (V.sepT (G.above 0) n' q2)) := hRe
     clear hRe hnm
     go_wp2_with fail
     refine Calls.mono HNm.out ?_
     rintro r W4 ⟨hk4, ⟨cs, rfl, hy⟩, hp4⟩
     obtain ⟨sv, rfl, hl⟩ := NodeIs.cs.1 hy
     obtain ⟨ao2, ln2, cp2, rfl⟩ : ∃ ao ln cp, sv = .slice ao ln cp := by
      rcases hl with ⟨_, rfl⟩ | ⟨b, o, cap, rfl, _⟩
      ·exact ⟨_, _, _, rfl⟩
      ·exact ⟨_, _, _, rfl⟩
     have hone := ncs_one hl yk yt yvt yvn yn ya
     have HB4 : Hid (Bld w.heap.size W4 u5 D) := HF.out.2.2.go hcl hk4
     have hka : Kept No W4 (W4.alloc (nb (ncs yk yt yvt yvn yn (.slice ao2 ln2 cp2) ya))) := (Kept.refl No W4).alloc _
     have hBa := HB4.out.go hcl hka.no
     obtain ⟨css, hce, hown, hcn⟩ := hBa.ex
     have hya : NodeIs (Out w.heap.size u5) (W4.alloc (nb (ncs yk yt yvt yvn yn (.slice ao2 ln2 cp2) ya))) (.mk yk yt yvt yvn yn yl ya) (ncs yk yt yvt yvn yn (.slice ao2 ln2 cp2) ya) := by
      refine NodeIs.mono ?_ _ _ (NodeIs.kept hka.no _ _ hy)
      rintro b (hb | hb)
      ·have := HF.out.1.size; omega
      ·exact (HF.out.2.2.own_lt b hb).2
     have HG : Hid (Kept (fun b => b = c) w (W4.alloc (nb (ncs yk yt yvt yvn yn (.slice ao2 ln2 cp2) ya))) ∧ Ps (W4.alloc (nb (ncs yk yt yvt yvn yn (.slice ao2 ln2 cp2) ya))) c V q2) := ⟨(HF.out.1.trans hk4).alloc _, hp4.no hka⟩
     have hlt4 := fun k e => hBa.own_lt k e
     have hbw : w.heap.size ≤ (W4.alloc (nb (ncs yk yt yvt yvn yn (.slice ao2 ln2 cp2) ya))).heap.size := HG.out.1.size
     have hp' := HK.out.2.1.pos
     clear hk4 hl hy hp4 hka HNm HF HB4
     unfold ncs
     go_wp2_with (at_builtin; refine wpList_append_own_at _ rfl _ _ 41 rfl w.heap.size 43 i0 (.agg #[.int .i64 0, .string ⟨#[]⟩, .int .i64 0, .int .i64 0, .int .i64 0, .slice none 0 0, .int .i64 0]) 7 80 Tryz.underlying41 HI.out.1 HI.out.2.1 HI.out.2.2.1 HI.out.2.2.2 rfl (by decide) u5 D.length css.flatten rfl hown ⟨W4.heap.size, 0, none⟩ 1 1 (ncs yk yt yvt yvn yn (.slice ao2 ln2 cp2) ya) rfl ?qc1 ?qc2 ?qc3 ?qc4 ?qc5 ?qc6 ?_)
     case qc1 => rfl
     case qc2 => exact World.news_of_block (World.alloc_heap_new W4 (nb (ncs yk yt yvt yvn yn (.slice ao2 ln2 cp2) ya)))
     case qc3 => exact hone
     case qc4 => unfold maxLen; omega
     case qc5 => omega
     case qc6 => exact hbw
     intro v' W5 hown' hgrow hnil hob
     have HE : Hid (Kept (fun b => b = c) w W5 ∧ Ps W5 c V q2 ∧ Bld w.heap.size W5 v' (D ++ [Tr.mk yk yt yvt yvn yn yl ya])) := by
      refine ⟨HG.out.1.grown hgrow (fun k e => .inr (hlt4 k e).1), HG.out.2.low (fun k hk => ?_), hBa.snoc hce hcn hya hown' hgrow ?_⟩
      ·exact hgrow.block k (Nat.lt_of_le_of_lt hk HG.out.2.lt) (fun e => by have := (hlt4 k e.symm).1; omega)
      ·rcases hob with h | h
       ·exact .inl h
       ·refine .inr (fun k e => ?_)
        rw [h] at e
        injection e with e
        rw [show (W4.alloc (nb (ncs yk yt yvt yvn yn (.slice ao2 ln2 cp2) ya))).heap.size = W4.heap.size + 1 by simp]; omega
     clear hown' hgrow hnil hob HG hlt4 hbw hya hBa hce hown hcn hone
     go_wp2_with fail
     refine ⟨⟨D ++ [Tr.mk yk yt yvt yvn yn yl ya], q2, n', by simp, hgo2.2, by simp; omega, by omega, HRe.out, HE.out⟩, ?_⟩
     rw [hp', HE.out.2.1.pos]
     omega
end Go.Proofs.YtgkgpjbbmnfnmaaGreatDoor

/- arguments, stem, itemKey. -/
namespace Go.Proofs.YtgkgpjbbmnfnmaaGreatDoor
open Go.RowKit
set_option linter.unusedSimpArgs false
set_option linter.unusedVariables false

set_option maxRecDepth 20000 in
set_option maxHeartbeats 4000000 in
theorem args_any {w : World} {c : Nat} {V : Env} {p : Nat} {G : Lev} {lv : Nat} (hG : LevIs V G lv) (h : Ps w c V p) :
  Calls Tryz.prog 191 #[.pointer (some ⟨c, 0, none⟩), .int .i64 (lv : Int)] w (PResL c V w (argsE V G p)) := by
 have hcl := h.lt
 have HTo := took_any h ⟨#[41]⟩ (by decide)
 have HL : Hid (∀ {w' : World} {q : Nat}, Ps w' c V q → Calls Tryz.prog 134 #[.pointer (some ⟨c, 0, none⟩), .int .i64 (lv : Int)] w' (PResL c V w' (listE V G q))) := fun hq => list_any hG hq
 unfold argsE
 cases hb : V.is [41] p with
 | true =>
  rw [show V.is (⟨#[41]⟩ : ByteArray).data.toList p = true from hb, if_pos rfl] at HTo
  rw [if_pos rfl]
  have HT : Hid _ := HTo
  clear HTo h hb hG HL
  go_enter Tryz.func191, Tryz.ntmps191
  go_wp2_with fail
  refine Calls.mono HT.out ?_
  rintro r W1 ⟨rfl, hk1, hp1⟩
  have HF : Hid (Kept (fun b => b = c) w W1 ∧ Ps W1 c V (p + 1)) := ⟨hk1, hp1⟩
  clear hk1 hp1 HT
  go_wp2_with fail
  go_ret
  exact ⟨HF.out.1, ⟨_, rfl, .inl ⟨rfl, rfl⟩⟩, HF.out.2⟩
 | false =>
  rw [show V.is (⟨#[41]⟩ : ByteArray).data.toList p = false from hb, if_neg (by decide)] at HTo
  rw [if_neg (by decide)]
  have HT : Hid _ := HTo
  clear HTo h hb hG
  cases hR : listE V G p with
  | error e =>
   obtain ⟨a, x⟩ := e
   dsimp only
   go_enter Tryz.func191, Tryz.ntmps191
   go_wp2_with fail
   refine Calls.mono HT.out ?_
   rintro r W1 ⟨rfl, hk1, hp1⟩
   have HL1 := HL.out hp1
   rw [hR] at HL1
   have HL2 : Hid _ := HL1
   have HK1 : Hid (Kept (fun b => b = c) w W1) := hk1
   clear hk1 hp1 HT HL1 HL hR
   go_wp2_with fail
   refine Calls.mono HL2.out ?_
   rintro r W2 ⟨hk2, rfl⟩
   have HK2 : Hid (Kept (fun b => b = c) w W2) := HK1.out.trans hk2
   clear hk2 HK1 HL2
   go_wp2_with fail
   exact ⟨rfl, HK2.out, rfl⟩
  | ok y =>
   obtain ⟨l, q⟩ := y
   dsimp only
   unfold Env.need
   cases hb2 : V.is [41] q with
   | true =>
    rw [if_pos rfl]
    dsimp only
    go_enter Tryz.func191, Tryz.ntmps191
    go_wp2_with fail
    refine Calls.mono HT.out ?_
    rintro r W1 ⟨rfl, hk1, hp1⟩
    have HL1 := HL.out hp1
    rw [hR] at HL1
    have HL2 : Hid _ := HL1
    have HK1 : Hid (Kept (fun b => b = c) w W1) := hk1
    clear hk1 hp1 HT HL1 HL hR
    go_wp2_with fail
    refine Calls.mono HL2.out ?_
    rintro r W2 ⟨hk2, ⟨sv, rfl, hl⟩, hp2⟩
    have HN : Hid (Calls Tryz.prog 166 #[.pointer (some ⟨c, 0, none⟩), .string ⟨#[41]⟩] W2 _) := need_ok hp2 ⟨#[41]⟩ (by decide) hb2
    have HF : Hid (Kept (fun b => b = c) w W2 ∧ ListIs (fun b => b < w.heap.size) W2 l sv) := ⟨HK1.out.trans hk2, hl.mono (fun b hb => Nat.lt_of_lt_of_le hb HK1.out.size)⟩
    clear hk2 hl hp2 HK1 HL2 hb2
    go_wp2_with fail
    refine Calls.mono HN.out ?_
    rintro r W3 ⟨rfl, hk3, hp3⟩
    have HF3 : Hid (Kept (fun b => b = c) w W3 ∧ ListIs (fun b => b < w.heap.size) W3 l sv ∧ Ps W3 c V (q + 1)) :=
     ⟨HF.out.1.trans hk3, HF.out.2.kept (hk3.mono (fun b (hb : b = c) => by show b < w.heap.size; omega)), hp3⟩
    clear hk3 hp3 HF HN
    go_wp2_with fail
    refine bodyPost_ret (v := sv) (by simp [results, Tryz.results191, go_sem]) rfl ?_
    exact ⟨HF3.out.1, ⟨_, rfl, HF3.out.2.1⟩, HF3.out.2.2⟩
   | false =>
    rw [if_neg (by decide)]
    unfold Env.wrong
    dsimp only
    go_enter Tryz.func191, Tryz.ntmps191
    go_wp2_with fail
    refine Calls.mono HT.out ?_
    rintro r W1 ⟨rfl, hk1, hp1⟩
    have HL1 := HL.out hp1
    rw [hR] at HL1
    have HL2 : Hid _ := HL1
    have HK1 : Hid (Kept (fun b => b = c) w W1) := hk1
    clear hk1 hp1 HT HL1 HL hR
    go_wp2_with fail
    refine Calls.mono HL2.out ?_
    rintro r W2 ⟨hk2, ⟨sv, rfl, hl⟩, hp2⟩
    have HN : Hid (Calls Tryz.prog 166 #[.pointer (some ⟨c, 0, none⟩), .string ⟨#[41]⟩] W2 _) := need_bad hp2 ⟨#[41]⟩ (by decide) hb2
    have HF : Hid (Kept (fun b => b = c) w W2) := HK1.out.trans hk2
    clear hk2 hl hp2 HK1 HL2 hb2
    go_wp2_with fail
    refine Calls.mono HN.out ?_
    rintro r W3 ⟨rfl, hk3⟩
    have HF3 : Hid (Kept (fun b => b = c) w W3) := HF.out.trans hk3
    clear hk3 HF HN
    go_wp2_with fail
    exact ⟨rfl, HF3.out, rfl⟩
end Go.Proofs.YtgkgpjbbmnfnmaaGreatDoor

/- key, stem. -/
namespace Go.Proofs.YtgkgpjbbmnfnmaaGreatDoor
open Go.RowKit
set_option linter.unusedSimpArgs false
set_option linter.unusedVariables false

theorem key_name (V : Env) (p : Nat) : (∃ e, V.name p = .error e ∧ V.key p = .error e) ∨ ∃ t a, V.name p = .ok (.mk 6 t 0 0 0 [] a, p + 1) ∧ V.key p = .ok (.mk 5 t 0 0 0 [] a, p + 1) := by
 unfold Env.name Env.key
 cases V.isName p with
 | false => exact .inl ⟨_, rfl, rfl⟩
 | true => exact .inr ⟨_, _, rfl, rfl⟩
/-- What is known of a box behind a new one. -/
theorem nbo_cells {w : World} {b : Nat} {k : Int} {t : ByteArray} {vt vn n : Int} {sv : Value} {a : Int} (h : w.heap[b]? = some (nb (ncs k t vt vn n sv a))) : (∀ o, (w.alloc o).cell? ⟨b, 0, none⟩ = some (.int .i64 k)) ∧ (∀ o, (w.alloc o).cell? ⟨b, 1, none⟩ = some (.string t)) ∧ (∀ o, (w.alloc o).cell? ⟨b, 2, none⟩ = some (.int .i64 vt)) ∧ (∀ o, (w.alloc o).cell? ⟨b, 3, none⟩ = some (.int .i64 vn)) ∧ (∀ o, (w.alloc o).cell? ⟨b, 4, none⟩ = some (.int .i64 n)) ∧ (∀ o, (w.alloc o).cell? ⟨b, 5, none⟩ = some sv) ∧ (∀ o, (w.alloc o).cell? ⟨b, 6, none⟩ = some (.int .i64 a)) := by
 have := fun o => nb_cells (((Kept.refl No w).alloc o).heap h id)
 exact ⟨fun o => (this o).1, fun o => (this o).2.1, fun o => (this o).2.2.1, fun o => (this o).2.2.2.1, fun o => (this o).2.2.2.2.1, fun o => (this o).2.2.2.2.2.1, fun o => (this o).2.2.2.2.2.2⟩
theorem ne_of_heap {w : World} {b : Nat} {x : Obj} (h : w.heap[b]? = some x) : b ≠ w.heap.size := fun e => by rw [e] at h; simp [Array.getElem?_eq_none] at h

set_option maxRecDepth 20000 in
set_option maxHeartbeats 4000000 in
theorem key_any {w : World} {c : Nat} {V : Env} {p : Nat} (h : Ps w c V p) :
  Calls Tryz.prog 190 #[.pointer (some ⟨c, 0, none⟩)] w (PRes c V w (V.key p)) := by
 obtain ⟨W0, HW0⟩ : ∃ W0, Hid (w.alloc (nb nz) = W0) := ⟨_, show _ = _ from rfl⟩
 have HK0 : Hid (Kept No w W0 ∧ W0.heap.size = w.heap.size + 1) := by
  refine ⟨?_, ?_⟩
  ·rw [← HW0.out]; exact (Kept.refl No w).alloc _
  ·rw [← HW0.out]; simp
 have HT0 : Hid (W0.heap[w.heap.size]? = some (nb nz)) := by show _ = _; rw [← HW0.out]; exact World.alloc_heap_new w _
 have hcl := h.lt
 have HA : Hid _ := pname_any (h.no HK0.out.1)
 unfold nb nz ncs at HW0
 rcases key_name V p with ⟨⟨a, e⟩, e1, e2⟩ | ⟨t, a, e1, e2⟩
 ·rw [e1] at HA
  rw [e2]
  clear h e1 e2
  go_enter Tryz.func190, Tryz.ntmps190
  go_wp2_with fail
  rw [HW0.out]
  refine Calls.mono HA.out ?_
  rintro r W1 ⟨hk1, rfl⟩
  have HK1 : Hid (Kept (fun b => b = c) w W1) := HK0.out.1.no.trans hk1
  clear hk1 HA HW0 HT0 HK0
  go_wp2_with fail
  exact ⟨rfl, HK1.out, rfl⟩
 ·rw [e1] at HA
  rw [e2]
  clear h e1 e2
  go_enter Tryz.func190, Tryz.ntmps190
  go_wp2_with fail
  rw [HW0.out]
  refine Calls.mono HA.out ?_
  rintro r W1 ⟨hk1, ⟨cs, rfl, hy⟩, hp1⟩
  obtain ⟨sv, rfl, hl⟩ := NodeIs.cs.1 hy
  obtain ⟨ao, ln, cp, rfl⟩ := slice_of hl
  have hR1 : W1.heap[w.heap.size]? = some (nb nz) := hk1.heap HT0.out (by omega)
  have HF : Hid (Kept (fun b => b = c) w W1 ∧ ListIs (fun b => b < w.heap.size + 1 ∨ W1.heap.size ≤ b) W1 [] (.slice ao ln cp) ∧ Ps W1 c V (p + 1) ∧ w.heap.size < W1.heap.size) :=
   ⟨HK0.out.1.no.trans hk1, by
    rcases hl with h | ⟨b, o, cap, h1, h2, h3, h4⟩
    ·exact .inl h
    ·exact .inr ⟨b, o, cap, h1, fun e => e.elim (fun e => h2 (by rw [HK0.out.2]; exact e)) (fun e => by omega), h3, by unfold RowAt; trivial⟩, hp1, by have := hk1.size; have := HK0.out.2; omega⟩
  obtain ⟨r0, r1, r2, r3, r4, r5, r6⟩ := nbo_cells hR1
  have rf : ∀ o q, (W1.alloc o).frozen? ⟨w.heap.size, q, none⟩ = false := fun o q => nb_frozen (((Kept.refl No W1).alloc o).heap hR1 id) q
  have n1 := ne_of_heap hR1
  have n2 : W1.heap.size ≠ w.heap.size := fun e => n1 e.symm
  clear hk1 hy hp1 HA HW0 HT0 HK0 hl hR1
  unfold ncs
  go_wp2_with fail
  refine bodyPost_ret (v := .agg (ncs 5 t 0 0 0 (.slice ao ln cp) a).toArray) (by simp [results, Tryz.results190, go_sem, ncs, r0, r1, r2, r3, r4, r5, r6, n1, n2]) rfl ?_
  refine ⟨?_, ⟨_, rfl, NodeIs.cs.2 ⟨_, rfl, ListIs.mono (fun b (hb : b < w.heap.size) => .inl (Nat.lt_succ_of_lt hb)) (ListIs.kept ?_ HF.out.2.1)⟩⟩, HF.out.2.2.1.low (fun k hk => ?_)⟩
  ·repeat refine Kept.set ?_ _ _ _ (Or.inr (by have := HF.out.2.2.2; omega))
   exact HF.out.1.alloc _
  ·repeat refine Kept.set ?_ _ _ _ (Or.inl (by first | exact .inl (Nat.lt_succ_self _) | exact .inr (Nat.le_refl _)))
   exact (Kept.refl _ _).alloc _
  ·have hkR : k ≠ w.heap.size := by omega
   have hkW : k ≠ W1.heap.size := by have := HF.out.2.2.2; omega
   repeat first | rw [set_low _ _ _ hkR] | rw [set_low _ _ _ hkW]
   exact alloc_low _ _ (by have := HF.out.2.2.2; omega)
end Go.Proofs.YtgkgpjbbmnfnmaaGreatDoor
