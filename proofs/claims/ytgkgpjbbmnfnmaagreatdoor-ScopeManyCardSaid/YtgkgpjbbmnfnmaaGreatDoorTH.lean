import Derived.Test.YtgkgpjbbmnfnmaaGreatDoorGA
import Derived.Test.YtgkgpjbbmnfnmaaGreatDoorTG
/- operand. -/
namespace Go.Proofs.YtgkgpjbbmnfnmaaGreatDoor
open Go.RowKit
set_option linter.unusedSimpArgs false
set_option linter.unusedVariables false

theorem tk_lt {V : Env} {p : Nat} {x : Tk} (e : V.tk p = x) (h : x.k ≠ 0 ∨ x.t ≠ ⟨#[]⟩) : p < V.L.length := by
 refine Decidable.byContradiction fun hn => ?_
 have : V.tk p = ⟨0, ⟨#[]⟩, 0, 0, ⟨#[]⟩, V.E, 0⟩ := by
  unfold Env.tk; rw [List.getD_eq_getElem?_getD, List.getElem?_eq_none (by omega)]; rfl
 rw [← e, this] at h
 simp at h
set_option maxRecDepth 20000 in
set_option maxHeartbeats 16000000 in
theorem operand_any {w : World} {c : Nat} {V : Env} {p : Nat} {G : Lev} {l : Nat} (hG : LevIs V G (l + 1)) (h : Ps w c V p) 
  (hS : ∀ {w' : World}, Ps w' c V p → Calls Tryz.prog 169 #[.pointer (some ⟨c, 0, none⟩), .int .i64 (l : Int)] w' (PResB c V w' (suffE V G p))) :
  Calls Tryz.prog 197 #[.pointer (some ⟨c, 0, none⟩), .int .i64 (l : Int)] w (PRes c V w (operandE V G p)) := by
 obtain ⟨W0, HW0⟩ : ∃ W0, Hid (w.alloc (nb nz) = W0) := ⟨_, show _ = _ from rfl⟩
 have HK0 : Hid (Kept No w W0 ∧ W0.heap.size = w.heap.size + 1) := by
  refine ⟨?_, ?_⟩
  ·rw [← HW0.out]; exact (Kept.refl No w).alloc _
  ·rw [← HW0.out]; simp
 have HT0 : Hid (W0.heap[w.heap.size]? = some (nb nz)) := by show _ = _; rw [← HW0.out]; exact World.alloc_heap_new w _
 have hcl := h.lt
 have hlen := h.len
 have hle := hG.le
 have HLk : Hid _ := look_any (h.no HK0.out.1)
 have HP0 : Hid (Ps W0 c V p) := h.no HK0.out.1
 have HG : Hid (LevIs V G (l + 1)) := hG
 have HS : Hid (∀ {w' : World}, Ps w' c V p → Calls Tryz.prog 169 #[.pointer (some ⟨c, 0, none⟩), .int .i64 (l : Int)] w' (PResB c V w' (suffE V G p))) := hS
 obtain ⟨x, HX⟩ : ∃ x, Hid (V.tk p = x) := ⟨_, show _ = _ from rfl⟩
 rw [HX.out] at HLk
 obtain ⟨RR, HRd⟩ : ∃ RR, Hid (operandE V G p = RR) := ⟨_, show _ = _ from rfl⟩
 rw [HRd.out]
 have u1 : IntKind.i64.wrap ((l : Int) + 1) = (l : Int) + 1 := by rw [IntKind.wrap_i64]; omega
 unfold nb nz ncs at HW0
 clear h hG hS
 have fk := fun w => fd45k x w
 have ft := fun w => fd45t x w
 have fv := fun w => fd45v x w
 have fs := fun w => fd45s x w
 have fa := fun w => fd45a x w
 obtain ⟨xk, xt, xvt, xvn, xsy, xa, xe⟩ := x
 dsimp only at fk ft fv fs fa
 go_enter Tryz.func197, Tryz.ntmps197
 go_wp2_with fail
 rw [HW0.out]
 refine Calls.mono HLk.out ?_
 rintro r W1 ⟨rfl, hk1⟩
 have HK1 : Hid (Kept No w W1 ∧ W1.heap[w.heap.size]? = some (nb nz) ∧ w.heap.size < W1.heap.size ∧ Ps W1 c V p) :=
  ⟨HK0.out.1.trans hk1, hk1.heap HT0.out id, by have := hk1.size; have := HK0.out.2; omega, HP0.out.no hk1⟩
 clear hk1 HLk HK0 HT0 HP0 HW0
 unfold tv
 dsimp only
 obtain ⟨W2, HW2⟩ : ∃ W2, Hid (W1.alloc (tb ⟨xk, xt, xvt, xvn, xsy, xa, xe⟩) = W2) := ⟨_, show _ = _ from rfl⟩
 obtain ⟨T, HT⟩ : ∃ T, Hid (W1.heap.size = T) := ⟨_, show _ = _ from rfl⟩
 have HK2 : Hid (Kept No w W2 ∧ W2.heap[w.heap.size]? = some (nb nz) ∧ Ps W2 c V p ∧ W2.heap[T]? = some (tb ⟨xk, xt, xvt, xvn, xsy, xa, xe⟩) ∧ w.heap.size < T ∧ T < W2.heap.size) := by
  rw [← HW2.out, ← HT.out]
  have ka : Kept No W1 (W1.alloc (tb ⟨xk, xt, xvt, xvn, xsy, xa, xe⟩)) := (Kept.refl No W1).alloc _
  exact ⟨HK1.out.1.trans ka, ka.heap HK1.out.2.1 id, HK1.out.2.2.2.no ka, World.alloc_heap_new W1 _, HK1.out.2.2.1, by simp⟩
 unfold tb at HW2
 clear HK1
 have hRT := HK2.out.2.2.2.2.1
 have HQ : Hid (∀ s, V.is s p = (xt.toList == s)) := fun s => by unfold Env.is; rw [HX.out, ByteArray.toList_eq]
 by_cases h3 : xk = 3
 ·subst h3
  have HLt : Hid (p < V.L.length) := tk_lt HX.out (.inl (by simp))
  go_wp2_with fail
  rw [HW2.out]
  try rw [HT.out]
  refine wp_region_held_drew (S := fun w' => w'.heap[T]? = some (tb ⟨3, xt, xvt, xvn, xsy, xa, xe⟩)) (by kernel_rfl) HK2.out.2.2.2.1 (fun hSS => ?_)
  have HK3 : Hid (Kept No w W2.drew ∧ W2.drew.heap[w.heap.size]? = some (nb nz) ∧ Ps W2.drew c V p) := ⟨HK2.out.1.drew, HK2.out.2.1, HK2.out.2.2.1.no (Kept.refl No W2).drew⟩
  have HTk : Hid _ := take_any HK3.out.2.2 HLt.out
  rw [HX.out] at HTk
  generalize W2.drew = W4 at HK3 HTk hSS ⊢
  refine tk1 0 (.pointer (some ⟨T, 2, none⟩)) rfl hSS ?_
  try simp only [sm]
  refine wpAnyH_take (i := 1) (v := .agg #[.int .i64 xvt, .int .i64 xvn]) rfl (by kernel_rfl) (by kernel_rfl) (by kernel_rfl) (fun _ _ _ h => h) (Or.inl ⟨by rfl, by intro w' hw; obtain ⟨g0, g1, g2, g3, g4, g5, g6⟩ := tb_cells hw; go_simp⟩) hSS ?_
  try simp only [sm]
  refine tk1 2 (.pointer (some ⟨c, 0, none⟩)) rfl hSS ?_
  try simp only [sm]
  refine tk1 3 (.pointer (some ⟨c, 0, none⟩)) rfl hSS ?_
  try simp only [sm]
  refine tk1 4 (.pointer (some ⟨c, 0, none⟩)) rfl hSS ?_
  try simp only [sm]
  refine rd1 5 rfl (fun K hK => ?_)
  go_simp
  refine Calls.mono HTk.out ?_
  rintro r W3 ⟨rfl, hk3, hp3⟩
  have hR3 := hk3.heap HK3.out.2.1 (show ¬ w.heap.size = c by omega)
  have HF3 : Hid (Kept (fun b => b = c) w W3 ∧ Ps W3 c V (p + 1)) := ⟨HK3.out.1.no.trans hk3, hp3⟩
  refine hK.out _ _ (hk3.heap hSS (show ¬ T = c by omega)) (fun hSS => ?_)
  clear hK K HTk hk3 hp3 HK3 HK2
  unfold tv
  dsimp only
  try simp only [sm]
  refine tk1 6 (.int .i64 xa) rfl hSS ?_
  try simp only [sm]
  refine tk1 7 (.agg #[.int .i64 4, .string ⟨#[]⟩, .int .i64 xvt, .int .i64 xvn, .int .i64 0, .slice none 0 0, .int .i64 xa]) rfl hSS ?_
  try simp only [sm]
  refine rd1 8 rfl (fun K hK => ?_)
  obtain ⟨r0, r1, r2, r3, r4, r5, r6⟩ := nb_cells hR3
  have rf := fun o => nb_frozen hR3 o
  have n1 : w.heap.size ≠ T := by omega
  have n2 : T ≠ w.heap.size := by omega
  go_simp
  try go_wp2_with fail
  refine hK.out _ _ ?_ (fun hSS => ?_)
  ·repeat refine set_other ?_ _ _ n2
   exact hSS
  clear hK K
  try simp only [sm]
  refine wpAnyH_done (by kernel_rfl) ?_ _
  go_wp2_with fail
  refine bodyPost_ret (v := .agg #[.int .i64 4, .string ⟨#[]⟩, .int .i64 xvt, .int .i64 xvn, .int .i64 0, .slice none 0 0, .int .i64 xa]) (by simp [results, Tryz.results197, go_sem, r0, r1, r2, r3, r4, r5, r6, n1, n2]) rfl ?_
  show PRes c V w RR _ _
  rw [← HRd.out, operandE, HX.out]
  dsimp only; rw [if_pos (by rfl)]
  refine ⟨?_, ⟨_, rfl, leaf_is _ _ _ _ _ _ _ _⟩, HF3.out.2.low (fun k hk => ?_)⟩
  ·repeat refine Kept.set ?_ _ _ _ (Or.inr (Nat.le_refl _))
   exact HF3.out.1
  ·have hkR : k ≠ w.heap.size := by omega
   repeat rw [set_low _ _ _ hkR]
 by_cases h4 : xk = 4
 ·subst h4
  have HLt : Hid (p < V.L.length) := tk_lt HX.out (.inl (by simp))
  go_wp2_with fail
  rw [HW2.out]
  try rw [HT.out]
  refine wp_region_held_drew (S := fun w' => w'.heap[T]? = some (tb ⟨4, xt, xvt, xvn, xsy, xa, xe⟩)) (by kernel_rfl) HK2.out.2.2.2.1 (fun hSS => ?_)
  have HK3 : Hid (Kept No w W2.drew ∧ W2.drew.heap[w.heap.size]? = some (nb nz) ∧ Ps W2.drew c V p) := ⟨HK2.out.1.drew, HK2.out.2.1, HK2.out.2.2.1.no (Kept.refl No W2).drew⟩
  have HTk : Hid _ := take_any HK3.out.2.2 HLt.out
  rw [HX.out] at HTk
  generalize W2.drew = W4 at HK3 HTk hSS ⊢
  refine tk1 0 (.pointer (some ⟨T, 4, none⟩)) rfl hSS ?_
  try simp only [sm]
  refine wpAnyH_take (i := 1) (v := .string xsy) rfl (by kernel_rfl) (by kernel_rfl) (by kernel_rfl) (fun _ _ _ h => h) (Or.inl ⟨by rfl, by intro w' hw; obtain ⟨g0, g1, g2, g3, g4, g5, g6⟩ := tb_cells hw; go_simp⟩) hSS ?_
  try simp only [sm]
  refine tk1 2 (.pointer (some ⟨c, 0, none⟩)) rfl hSS ?_
  try simp only [sm]
  refine tk1 3 (.pointer (some ⟨c, 0, none⟩)) rfl hSS ?_
  try simp only [sm]
  refine tk1 4 (.pointer (some ⟨c, 0, none⟩)) rfl hSS ?_
  try simp only [sm]
  refine rd1 5 rfl (fun K hK => ?_)
  go_simp
  refine Calls.mono HTk.out ?_
  rintro r W3 ⟨rfl, hk3, hp3⟩
  have hR3 := hk3.heap HK3.out.2.1 (show ¬ w.heap.size = c by omega)
  have HF3 : Hid (Kept (fun b => b = c) w W3 ∧ Ps W3 c V (p + 1)) := ⟨HK3.out.1.no.trans hk3, hp3⟩
  refine hK.out _ _ (hk3.heap hSS (show ¬ T = c by omega)) (fun hSS => ?_)
  clear hK K HTk hk3 hp3 HK3 HK2
  unfold tv
  dsimp only
  try simp only [sm]
  refine tk1 6 (.int .i64 xa) rfl hSS ?_
  try simp only [sm]
  refine tk1 7 (.agg #[.int .i64 5, .string xsy, .int .i64 0, .int .i64 0, .int .i64 0, .slice none 0 0, .int .i64 xa]) rfl hSS ?_
  try simp only [sm]
  refine rd1 8 rfl (fun K hK => ?_)
  obtain ⟨r0, r1, r2, r3, r4, r5, r6⟩ := nb_cells hR3
  have rf := fun o => nb_frozen hR3 o
  have n1 : w.heap.size ≠ T := by omega
  have n2 : T ≠ w.heap.size := by omega
  go_simp
  try go_wp2_with fail
  refine hK.out _ _ ?_ (fun hSS => ?_)
  ·repeat refine set_other ?_ _ _ n2
   exact hSS
  clear hK K
  try simp only [sm]
  refine wpAnyH_done (by kernel_rfl) ?_ _
  go_wp2_with fail
  refine bodyPost_ret (v := .agg #[.int .i64 5, .string xsy, .int .i64 0, .int .i64 0, .int .i64 0, .slice none 0 0, .int .i64 xa]) (by simp [results, Tryz.results197, go_sem, r0, r1, r2, r3, r4, r5, r6, n1, n2]) rfl ?_
  show PRes c V w RR _ _
  rw [← HRd.out, operandE, HX.out]
  dsimp only; rw [if_neg (by decide), if_pos (by rfl)]
  refine ⟨?_, ⟨_, rfl, leaf_is _ _ _ _ _ _ _ _⟩, HF3.out.2.low (fun k hk => ?_)⟩
  ·repeat refine Kept.set ?_ _ _ _ (Or.inr (Nat.le_refl _))
   exact HF3.out.1
  ·have hkR : k ≠ w.heap.size := by omega
   repeat rw [set_low _ _ _ hkR]
 cases q1 : (xt.toList == [110, 105, 108]) with
 | true =>
  have HLt : Hid (p < V.L.length) := is_lt (show V.is _ p = true by rw [HQ.out]; exact q1) (by decide)
  go_wp2_with fail
  rw [HW2.out]
  try rw [HT.out]
  have HTk : Hid _ := take_any HK2.out.2.2.1 HLt.out
  rw [HX.out] at HTk
  refine Calls.mono HTk.out ?_
  rintro r W3 ⟨rfl, hk3, hp3⟩
  have HF3 : Hid (Kept (fun b => b = c) w W3 ∧ Ps W3 c V (p + 1) ∧ W3.heap[w.heap.size]? = some (nb nz) ∧ W3.heap[T]? = some (tb ⟨xk, xt, xvt, xvn, xsy, xa, xe⟩) ∧ w.heap.size < W3.heap.size) := ⟨HK2.out.1.no.trans hk3, hp3, hk3.heap HK2.out.2.1 (show ¬ w.heap.size = c by omega), hk3.heap HK2.out.2.2.2.1 (show ¬ T = c by omega), by have := hk3.size; have := HK2.out.2.2.2.2.2; omega⟩
  unfold tv
  dsimp only
  clear HTk hk3 hp3 HK2
  obtain ⟨r0, r1, r2, r3, r4, r5, r6⟩ := nb_cells HF3.out.2.2.1
  have rf := fun o => nb_frozen HF3.out.2.2.1 o
  go_wp2_with fail
  refine bodyPost_ret (v := .agg #[.int .i64 1, .string ⟨#[]⟩, .int .i64 0, .int .i64 0, .int .i64 0, .slice none 0 0, .int .i64 xa]) (by simp [results, Tryz.results197, go_sem, r0, r1, r2, r3, r4, r5, r6]) rfl ?_
  show PRes c V w RR _ _
  have HRe : Hid (RR = .ok (nd 1 [] xa, p + 1)) := by
   show _ = _
   rw [← HRd.out, operandE, HX.out]
   simp [h3, h4, HQ.out, sNil, sTrue, sFalse, sFunction, sNot, q1]
  rw [HRe.out]
  refine ⟨?_, ⟨_, rfl, leaf_is _ _ _ _ _ _ _ _⟩, HF3.out.2.1.low (fun k hk => ?_)⟩
  ·repeat refine Kept.set ?_ _ _ _ (Or.inr (Nat.le_refl _))
   exact HF3.out.1
  ·have hkR : k ≠ w.heap.size := by omega
   repeat rw [set_low _ _ _ hkR]
 | false =>
  cases q2 : (xt.toList == [116, 114, 117, 101]) with
  | true =>
   have HLt : Hid (p < V.L.length) := is_lt (show V.is _ p = true by rw [HQ.out]; exact q2) (by decide)
   go_wp2_with fail
   rw [HW2.out]
   try rw [HT.out]
   have HTk : Hid _ := take_any HK2.out.2.2.1 HLt.out
   rw [HX.out] at HTk
   refine Calls.mono HTk.out ?_
   rintro r W3 ⟨rfl, hk3, hp3⟩
   have HF3 : Hid (Kept (fun b => b = c) w W3 ∧ Ps W3 c V (p + 1) ∧ W3.heap[w.heap.size]? = some (nb nz) ∧ W3.heap[T]? = some (tb ⟨xk, xt, xvt, xvn, xsy, xa, xe⟩) ∧ w.heap.size < W3.heap.size) := ⟨HK2.out.1.no.trans hk3, hp3, hk3.heap HK2.out.2.1 (show ¬ w.heap.size = c by omega), hk3.heap HK2.out.2.2.2.1 (show ¬ T = c by omega), by have := hk3.size; have := HK2.out.2.2.2.2.2; omega⟩
   unfold tv
   dsimp only
   clear HTk hk3 hp3 HK2
   obtain ⟨r0, r1, r2, r3, r4, r5, r6⟩ := nb_cells HF3.out.2.2.1
   have rf := fun o => nb_frozen HF3.out.2.2.1 o
   go_wp2_with fail
   refine bodyPost_ret (v := .agg #[.int .i64 2, .string ⟨#[]⟩, .int .i64 0, .int .i64 0, .int .i64 0, .slice none 0 0, .int .i64 xa]) (by simp [results, Tryz.results197, go_sem, r0, r1, r2, r3, r4, r5, r6]) rfl ?_
   show PRes c V w RR _ _
   have HRe : Hid (RR = .ok (nd 2 [] xa, p + 1)) := by
    show _ = _
    rw [← HRd.out, operandE, HX.out]
    simp [h3, h4, HQ.out, sNil, sTrue, sFalse, sFunction, sNot, q1, q2]
   rw [HRe.out]
   refine ⟨?_, ⟨_, rfl, leaf_is _ _ _ _ _ _ _ _⟩, HF3.out.2.1.low (fun k hk => ?_)⟩
   ·repeat refine Kept.set ?_ _ _ _ (Or.inr (Nat.le_refl _))
    exact HF3.out.1
   ·have hkR : k ≠ w.heap.size := by omega
    repeat rw [set_low _ _ _ hkR]
  | false =>
   cases q3 : (xt.toList == [102, 97, 108, 115, 101]) with
   | true =>
    have HLt : Hid (p < V.L.length) := is_lt (show V.is _ p = true by rw [HQ.out]; exact q3) (by decide)
    go_wp2_with fail
    rw [HW2.out]
    try rw [HT.out]
    have HTk : Hid _ := take_any HK2.out.2.2.1 HLt.out
    rw [HX.out] at HTk
    refine Calls.mono HTk.out ?_
    rintro r W3 ⟨rfl, hk3, hp3⟩
    have HF3 : Hid (Kept (fun b => b = c) w W3 ∧ Ps W3 c V (p + 1) ∧ W3.heap[w.heap.size]? = some (nb nz) ∧ W3.heap[T]? = some (tb ⟨xk, xt, xvt, xvn, xsy, xa, xe⟩) ∧ w.heap.size < W3.heap.size) := ⟨HK2.out.1.no.trans hk3, hp3, hk3.heap HK2.out.2.1 (show ¬ w.heap.size = c by omega), hk3.heap HK2.out.2.2.2.1 (show ¬ T = c by omega), by have := hk3.size; have := HK2.out.2.2.2.2.2; omega⟩
    unfold tv
    dsimp only
    clear HTk hk3 hp3 HK2
    obtain ⟨r0, r1, r2, r3, r4, r5, r6⟩ := nb_cells HF3.out.2.2.1
    have rf := fun o => nb_frozen HF3.out.2.2.1 o
    go_wp2_with fail
    refine bodyPost_ret (v := .agg #[.int .i64 3, .string ⟨#[]⟩, .int .i64 0, .int .i64 0, .int .i64 0, .slice none 0 0, .int .i64 xa]) (by simp [results, Tryz.results197, go_sem, r0, r1, r2, r3, r4, r5, r6]) rfl ?_
    show PRes c V w RR _ _
    have HRe : Hid (RR = .ok (nd 3 [] xa, p + 1)) := by
     show _ = _
     rw [← HRd.out, operandE, HX.out]
     simp [h3, h4, HQ.out, sNil, sTrue, sFalse, sFunction, sNot, q1, q2, q3]
    rw [HRe.out]
    refine ⟨?_, ⟨_, rfl, leaf_is _ _ _ _ _ _ _ _⟩, HF3.out.2.1.low (fun k hk => ?_)⟩
    ·repeat refine Kept.set ?_ _ _ _ (Or.inr (Nat.le_refl _))
     exact HF3.out.1
    ·have hkR : k ≠ w.heap.size := by omega
     repeat rw [set_low _ _ _ hkR]
   | false =>
    cases q4 : (xt.toList == [102, 117, 110, 99, 116, 105, 111, 110]) with
    | true =>
     have HLt : Hid (p < V.L.length) := is_lt (show V.is _ p = true by rw [HQ.out]; exact q4) (by decide)
     go_wp2_with fail
     rw [HW2.out]
     try rw [HT.out]
     have HTk : Hid _ := take_any HK2.out.2.2.1 HLt.out
     rw [HX.out] at HTk
     refine Calls.mono HTk.out ?_
     rintro r W3 ⟨rfl, hk3, hp3⟩
     have HF3 : Hid (Kept (fun b => b = c) w W3 ∧ Ps W3 c V (p + 1) ∧ W3.heap[w.heap.size]? = some (nb nz) ∧ W3.heap[T]? = some (tb ⟨xk, xt, xvt, xvn, xsy, xa, xe⟩) ∧ w.heap.size < W3.heap.size) := ⟨HK2.out.1.no.trans hk3, hp3, hk3.heap HK2.out.2.1 (show ¬ w.heap.size = c by omega), hk3.heap HK2.out.2.2.2.1 (show ¬ T = c by omega), by have := hk3.size; have := HK2.out.2.2.2.2.2; omega⟩
     unfold tv
     dsimp only
     clear HTk hk3 hp3 HK2
     go_wp2_with fail
     have HRe : Hid (RR = bodyE V G xa (p + 1)) := by
      show _ = _
      rw [← HRd.out, operandE, HX.out]
      simp [h3, h4, HQ.out, sNil, sTrue, sFalse, sFunction, sNot, q1, q2, q3, q4]
     have HA : Hid _ := body_any HG.out xa HF3.out.2.1
     cases hA : bodyE V G xa (p + 1) with
     | error e =>
      obtain ⟨a', x'⟩ := e
      rw [hA] at HA
      have HRg : Hid (RR = .error (a', x')) := HRe.out.trans hA
      refine Calls.mono HA.out ?_
      rintro r W5 ⟨hk5, rfl⟩
      have HK5 : Hid (Kept (fun b => b = c) w W5) := HF3.out.1.trans hk5
      clear hk5 HA HF3 hA HRe HRd
      go_wp2_with fail
      refine ⟨rfl, ?_⟩
      show PRes c V w RR _ _
      rw [HRg.out]
      exact ⟨HK5.out, rfl⟩
     | ok y =>
      obtain ⟨⟨yk, yt, yvt, yvn, yn, yl, ya⟩, q⟩ := y
      rw [hA] at HA
      have HRg : Hid (RR = .ok (.mk yk yt yvt yvn yn yl ya, q)) := HRe.out.trans hA
      refine Calls.mono HA.out ?_
      rintro r W5 ⟨hk5, ⟨cs, rfl, hy⟩, hp5⟩
      obtain ⟨sv, rfl, hl⟩ := NodeIs.cs.1 hy
      obtain ⟨ao, ln, cp, rfl⟩ := slice_of hl
      have hR1 : W5.heap[w.heap.size]? = some (nb nz) := hk5.heap HF3.out.2.2.1 (show ¬ w.heap.size = c by omega)
      have HF : Hid (Kept (fun b => b = c) w W5 ∧ NodeIs (fun b => b < w.heap.size + 1) W5 (.mk yk yt yvt yvn yn yl ya) (ncs yk yt yvt yvn yn (.slice ao ln cp) ya) ∧ Ps W5 c V q) := ⟨HF3.out.1.trans hk5, NodeIs.mono (fun b (hb : b < w.heap.size + 1) => Nat.lt_of_lt_of_le hb HF3.out.2.2.2.2) _ _ hy, hp5⟩
      obtain ⟨r0, r1, r2, r3, r4, r5, r6⟩ := nb_cells hR1
      have rf := fun o => nb_frozen hR1 o
      clear hk5 hy hp5 HA hl hR1 HF3 hA HRe HRd
      unfold ncs
      go_wp2_with fail
      refine bodyPost_ret (v := .agg (ncs yk yt yvt yvn yn (.slice ao ln cp) ya).toArray) (by simp [results, Tryz.results197, go_sem, ncs, r0, r1, r2, r3, r4, r5, r6]) rfl ?_
      show PRes c V w RR _ _
      rw [HRg.out]
      refine ⟨?_, ⟨_, rfl, NodeIs.mono (fun b (hb : b < w.heap.size) => Nat.lt_succ_of_lt hb) _ _ (NodeIs.kept ?_ _ _ HF.out.2.1)⟩, HF.out.2.2.low (fun k hk => ?_)⟩
      ·repeat refine Kept.set ?_ _ _ _ (Or.inr (Nat.le_refl _))
       exact HF.out.1
      ·repeat refine Kept.set ?_ _ _ _ (Or.inl (Nat.lt_succ_self _))
       exact Kept.refl _ _
      ·have hkR : k ≠ w.heap.size := by omega
       repeat rw [set_low _ _ _ hkR]
    | false =>
     cases q5 : (xt.toList == [123]) with
     | true =>
      have HLt : Hid (p < V.L.length) := is_lt (show V.is _ p = true by rw [HQ.out]; exact q5) (by decide)
      go_wp2_with fail
      rw [HW2.out]
      try rw [HT.out]
      have HRe : Hid (RR = tableE V G p) := by
       show _ = _
       rw [← HRd.out, operandE, HX.out]
       simp [h3, h4, HQ.out, sNil, sTrue, sFalse, sFunction, sNot, q1, q2, q3, q4, q5]
      have HA : Hid _ := table_any HG.out HK2.out.2.2.1 HLt.out
      cases hA : tableE V G p with
      | error e =>
       obtain ⟨a', x'⟩ := e
       rw [hA] at HA
       have HRg : Hid (RR = .error (a', x')) := HRe.out.trans hA
       refine Calls.mono HA.out ?_
       rintro r W5 ⟨hk5, rfl⟩
       have HK5 : Hid (Kept (fun b => b = c) w W5) := HK2.out.1.no.trans hk5
       clear hk5 HA HK2 hA HRe HRd
       go_wp2_with fail
       refine ⟨rfl, ?_⟩
       show PRes c V w RR _ _
       rw [HRg.out]
       exact ⟨HK5.out, rfl⟩
      | ok y =>
       obtain ⟨⟨yk, yt, yvt, yvn, yn, yl, ya⟩, q⟩ := y
       rw [hA] at HA
       have HRg : Hid (RR = .ok (.mk yk yt yvt yvn yn yl ya, q)) := HRe.out.trans hA
       refine Calls.mono HA.out ?_
       rintro r W5 ⟨hk5, ⟨cs, rfl, hy⟩, hp5⟩
       obtain ⟨sv, rfl, hl⟩ := NodeIs.cs.1 hy
       obtain ⟨ao, ln, cp, rfl⟩ := slice_of hl
       have hR1 : W5.heap[w.heap.size]? = some (nb nz) := hk5.heap HK2.out.2.1 (show ¬ w.heap.size = c by omega)
       have HF : Hid (Kept (fun b => b = c) w W5 ∧ NodeIs (fun b => b < w.heap.size + 1) W5 (.mk yk yt yvt yvn yn yl ya) (ncs yk yt yvt yvn yn (.slice ao ln cp) ya) ∧ Ps W5 c V q) := ⟨HK2.out.1.no.trans hk5, NodeIs.mono (fun b (hb : b < w.heap.size + 1) => Nat.lt_of_lt_of_le hb (by have := HK2.out.2.2.2.2.2; omega)) _ _ hy, hp5⟩
       obtain ⟨r0, r1, r2, r3, r4, r5, r6⟩ := nb_cells hR1
       have rf := fun o => nb_frozen hR1 o
       clear hk5 hy hp5 HA hl hR1 HK2 hA HRe HRd
       unfold ncs
       go_wp2_with fail
       refine bodyPost_ret (v := .agg (ncs yk yt yvt yvn yn (.slice ao ln cp) ya).toArray) (by simp [results, Tryz.results197, go_sem, ncs, r0, r1, r2, r3, r4, r5, r6]) rfl ?_
       show PRes c V w RR _ _
       rw [HRg.out]
       refine ⟨?_, ⟨_, rfl, NodeIs.mono (fun b (hb : b < w.heap.size) => Nat.lt_succ_of_lt hb) _ _ (NodeIs.kept ?_ _ _ HF.out.2.1)⟩, HF.out.2.2.low (fun k hk => ?_)⟩
       ·repeat refine Kept.set ?_ _ _ _ (Or.inr (Nat.le_refl _))
        exact HF.out.1
       ·repeat refine Kept.set ?_ _ _ _ (Or.inl (Nat.lt_succ_self _))
        exact Kept.refl _ _
       ·have hkR : k ≠ w.heap.size := by omega
        repeat rw [set_low _ _ _ hkR]
     | false =>
      cases q6 : (xt.toList == [110, 111, 116]) with
      | true =>
       have HLt : Hid (p < V.L.length) := is_lt (show V.is _ p = true by rw [HQ.out]; exact q6) (by decide)
       go_wp2_with fail
       rw [HW2.out]
       try rw [HT.out]
       have HTk : Hid _ := take_any HK2.out.2.2.1 HLt.out
       rw [HX.out] at HTk
       refine Calls.mono HTk.out ?_
       rintro r W3 ⟨rfl, hk3, hp3⟩
       have HF3 : Hid (Kept (fun b => b = c) w W3 ∧ Ps W3 c V (p + 1) ∧ W3.heap[w.heap.size]? = some (nb nz) ∧ W3.heap[T]? = some (tb ⟨xk, xt, xvt, xvn, xsy, xa, xe⟩) ∧ w.heap.size < W3.heap.size) := ⟨HK2.out.1.no.trans hk3, hp3, hk3.heap HK2.out.2.1 (show ¬ w.heap.size = c by omega), hk3.heap HK2.out.2.2.2.1 (show ¬ T = c by omega), by have := hk3.size; have := HK2.out.2.2.2.2.2; omega⟩
       unfold tv
       dsimp only
       clear HTk hk3 hp3 HK2
       go_wp2_with fail
       refine wp_region_held_drew (S := fun w' => w'.heap[T]? = some (tb ⟨xk, xt, xvt, xvn, xsy, xa, xe⟩)) (by kernel_rfl) HF3.out.2.2.2.1 (fun hSS => ?_)
       have HK3 : Hid (Kept (fun b => b = c) w W3.drew ∧ W3.drew.heap[w.heap.size]? = some (nb nz) ∧ Ps W3.drew c V (p + 1) ∧ w.heap.size < W3.drew.heap.size) := ⟨HF3.out.1.drew, HF3.out.2.2.1, HF3.out.2.1.no (Kept.refl No W3).drew, HF3.out.2.2.2.2⟩
       generalize W3.drew = W4 at HK3 hSS ⊢
       clear HF3
       have HA : Hid (Calls Tryz.prog 187 #[.pointer (some ⟨c, 0, none⟩), .int .i64 7, .int .i64 ((l : Int) + 1)] W4 (PRes c V W4 (G.above 7 (p + 1)))) := by
        have := HG.out.above 7 (Nat.le_refl _) HK3.out.2.2.1
        rw [show ((l + 1 : Nat) : Int) = (l : Int) + 1 by omega] at this
        exact this
       have HRe : Hid (RR = match G.above 7 (p + 1) with
         | .error e => .error e
         | .ok (x, q) => .ok (.mk 9 xt 0 0 0 [x] xa, q)) := by
        show _ = _
        rw [← HRd.out, operandE, HX.out]
        simp [h3, h4, HQ.out, sNil, sTrue, sFalse, sFunction, sNot, q1, q2, q3, q4, q5, q6]
        try rfl
       refine tk1 0 (.pointer (some ⟨T, 1, none⟩)) rfl hSS ?_
       try simp only [sm]
       refine wpAnyH_take (i := 1) (v := .string xt) rfl (by kernel_rfl) (by kernel_rfl) (by kernel_rfl) (fun _ _ _ h => h) (Or.inl ⟨by rfl, by intro w' hw; obtain ⟨g0, g1, g2, g3, g4, g5, g6⟩ := tb_cells hw; go_simp⟩) hSS ?_
       try simp only [sm]
       refine tk1 2 (.pointer (some ⟨T, 5, none⟩)) rfl hSS ?_
       try simp only [sm]
       refine wpAnyH_take (i := 3) (v := .int .i64 xa) rfl (by kernel_rfl) (by kernel_rfl) (by kernel_rfl) (fun _ _ _ h => h) (Or.inl ⟨by rfl, by intro w' hw; obtain ⟨g0, g1, g2, g3, g4, g5, g6⟩ := tb_cells hw; go_simp⟩) hSS ?_
       try simp only [sm]
       refine tk1 4 (.pointer (some ⟨c, 0, none⟩)) rfl hSS ?_
       try simp only [sm]
       refine tk1 5 (.int .i64 (l : Int)) rfl hSS ?_
       try simp only [sm]
       refine tk1 6 (.int .i64 ((l : Int) + 1)) rfl hSS ?_
       try simp only [sm]
       refine rd1 7 rfl (fun K hK => ?_)
       go_simp
       cases hA : G.above 7 (p + 1) with
       | error e =>
        obtain ⟨a', x'⟩ := e
        have HRg : Hid (RR = .error (a', x')) := by show _ = _; rw [HRe.out, hA]
        rw [hA] at HA
        refine Calls.mono HA.out ?_
        rintro r W5 ⟨hk5, rfl⟩
        have HK5 : Hid (Kept (fun b => b = c) w W5) := HK3.out.1.trans hk5
        clear hk5 HA HK3 hA HRe HRd
        try go_wp2_with fail
        refine ⟨rfl, ?_⟩
        show PRes c V w RR _ _
        rw [HRg.out]
        exact ⟨HK5.out, rfl⟩
       | ok y =>
        obtain ⟨⟨yk, yt, yvt, yvn, yn, yl, ya⟩, q⟩ := y
        have HRg : Hid (RR = .ok (.mk 9 xt 0 0 0 [.mk yk yt yvt yvn yn yl ya] xa, q)) := by show _ = _; rw [HRe.out, hA]
        rw [hA] at HA
        refine Calls.mono HA.out ?_
        rintro r W5 ⟨hk5, ⟨cs, rfl, hy⟩, hp5⟩
        obtain ⟨sv, rfl, hl⟩ := NodeIs.cs.1 hy
        obtain ⟨ao, ln, cp, rfl⟩ := slice_of hl
        have hR1 : W5.heap[w.heap.size]? = some (nb nz) := hk5.heap HK3.out.2.1 (show ¬ w.heap.size = c by omega)
        have HF : Hid (Kept (fun b => b = c) w W5 ∧ NodeIs (fun b => b < w.heap.size + 1) W5 (.mk yk yt yvt yvn yn yl ya) (ncs yk yt yvt yvn yn (.slice ao ln cp) ya) ∧ Ps W5 c V q ∧ w.heap.size < W5.heap.size) := ⟨HK3.out.1.trans hk5, NodeIs.mono (fun b (hb : b < w.heap.size + 1) => Nat.lt_of_lt_of_le hb HK3.out.2.2.2) _ _ hy, hp5, Nat.lt_of_lt_of_le HK3.out.2.2.2 hk5.size⟩
        refine hK.out _ _ (hk5.heap hSS (show ¬ T = c by omega)) (fun hSS => ?_)
        clear hK K hk5 hy hp5 HA hl HK3 hA HRe HRd
        unfold ncs
        try simp only [sm]
        refine rd1 8 rfl (fun K hK => ?_)
        go_simp
        refine hK.out _ _ (((Kept.refl No W5).alloc _).heap hSS id) (fun hSS => ?_)
        clear hK K
        try simp only [sm]
        refine tk1 9 (.agg #[.int .i64 9, .string xt, .int .i64 0, .int .i64 0, .int .i64 0, .slice (some ⟨W5.heap.size, 0, none⟩) 1 1, .int .i64 xa]) rfl hSS ?_
        try simp only [sm]
        refine rd1 10 rfl (fun K hK => ?_)
        obtain ⟨r0, r1, r2, r3, r4, r5, r6⟩ := nbo_cells hR1
        have rf : ∀ o q, (W5.alloc o).frozen? ⟨w.heap.size, q, none⟩ = false := fun o q => nb_frozen (((Kept.refl No W5).alloc o).heap hR1 id) q
        have n1 : w.heap.size ≠ T := by omega
        have n2 : T ≠ w.heap.size := by omega
        go_simp
        try go_wp2_with fail
        refine hK.out _ _ ?_ (fun hSS => ?_)
        ·repeat refine set_other ?_ _ _ n2
         exact hSS
        clear hK K
        try simp only [sm]
        refine wpAnyH_done (by kernel_rfl) ?_ _
        go_wp2_with fail
        refine bodyPost_ret (v := .agg (ncs 9 xt 0 0 0 (.slice (some ⟨W5.heap.size, 0, none⟩) 1 1) xa).toArray) (by simp [results, Tryz.results197, go_sem, ncs, r0, r1, r2, r3, r4, r5, r6, n1, n2]) rfl ?_
        show PRes c V w RR _ _
        rw [HRg.out]
        refine ⟨?_, ⟨_, rfl, NodeIs.cs.2 ⟨_, rfl, ListIs.mono (fun b (hb : b < w.heap.size) => by show b < w.heap.size + 1; omega) (ListIs.kept ?_ (Bld.one (B := w.heap.size + 1) HF.out.2.2.2 HF.out.2.1).list)⟩⟩, HF.out.2.2.1.low (fun k hk => ?_)⟩
        ·repeat refine Kept.set ?_ _ _ _ (Or.inr (Nat.le_refl _))
         exact HF.out.1.alloc _
        ·repeat refine Kept.set ?_ _ _ _ (Or.inl (Nat.lt_succ_self _))
         exact Kept.refl _ _
        ·have hkR : k ≠ w.heap.size := by omega
         repeat rw [set_low _ _ _ hkR]
         exact alloc_low _ _ (by have := HF.out.2.2.2; omega)
      | false =>
       cases q7 : (xt.toList == [35]) with
       | true =>
        have HLt : Hid (p < V.L.length) := is_lt (show V.is _ p = true by rw [HQ.out]; exact q7) (by decide)
        go_wp2_with fail
        rw [HW2.out]
        try rw [HT.out]
        have HTk : Hid _ := take_any HK2.out.2.2.1 HLt.out
        rw [HX.out] at HTk
        refine Calls.mono HTk.out ?_
        rintro r W3 ⟨rfl, hk3, hp3⟩
        have HF3 : Hid (Kept (fun b => b = c) w W3 ∧ Ps W3 c V (p + 1) ∧ W3.heap[w.heap.size]? = some (nb nz) ∧ W3.heap[T]? = some (tb ⟨xk, xt, xvt, xvn, xsy, xa, xe⟩) ∧ w.heap.size < W3.heap.size) := ⟨HK2.out.1.no.trans hk3, hp3, hk3.heap HK2.out.2.1 (show ¬ w.heap.size = c by omega), hk3.heap HK2.out.2.2.2.1 (show ¬ T = c by omega), by have := hk3.size; have := HK2.out.2.2.2.2.2; omega⟩
        unfold tv
        dsimp only
        clear HTk hk3 hp3 HK2
        go_wp2_with fail
        refine wp_region_held_drew (S := fun w' => w'.heap[T]? = some (tb ⟨xk, xt, xvt, xvn, xsy, xa, xe⟩)) (by kernel_rfl) HF3.out.2.2.2.1 (fun hSS => ?_)
        have HK3 : Hid (Kept (fun b => b = c) w W3.drew ∧ W3.drew.heap[w.heap.size]? = some (nb nz) ∧ Ps W3.drew c V (p + 1) ∧ w.heap.size < W3.drew.heap.size) := ⟨HF3.out.1.drew, HF3.out.2.2.1, HF3.out.2.1.no (Kept.refl No W3).drew, HF3.out.2.2.2.2⟩
        generalize W3.drew = W4 at HK3 hSS ⊢
        clear HF3
        have HA : Hid (Calls Tryz.prog 187 #[.pointer (some ⟨c, 0, none⟩), .int .i64 7, .int .i64 ((l : Int) + 1)] W4 (PRes c V W4 (G.above 7 (p + 1)))) := by
         have := HG.out.above 7 (Nat.le_refl _) HK3.out.2.2.1
         rw [show ((l + 1 : Nat) : Int) = (l : Int) + 1 by omega] at this
         exact this
        have HRe : Hid (RR = match G.above 7 (p + 1) with
          | .error e => .error e
          | .ok (x, q) => .ok (.mk 9 xt 0 0 0 [x] xa, q)) := by
         show _ = _
         rw [← HRd.out, operandE, HX.out]
         simp [h3, h4, HQ.out, sNil, sTrue, sFalse, sFunction, sNot, q1, q2, q3, q4, q5, q6, q7]
         try rfl
        refine tk1 0 (.pointer (some ⟨T, 1, none⟩)) rfl hSS ?_
        try simp only [sm]
        refine wpAnyH_take (i := 1) (v := .string xt) rfl (by kernel_rfl) (by kernel_rfl) (by kernel_rfl) (fun _ _ _ h => h) (Or.inl ⟨by rfl, by intro w' hw; obtain ⟨g0, g1, g2, g3, g4, g5, g6⟩ := tb_cells hw; go_simp⟩) hSS ?_
        try simp only [sm]
        refine tk1 2 (.pointer (some ⟨T, 5, none⟩)) rfl hSS ?_
        try simp only [sm]
        refine wpAnyH_take (i := 3) (v := .int .i64 xa) rfl (by kernel_rfl) (by kernel_rfl) (by kernel_rfl) (fun _ _ _ h => h) (Or.inl ⟨by rfl, by intro w' hw; obtain ⟨g0, g1, g2, g3, g4, g5, g6⟩ := tb_cells hw; go_simp⟩) hSS ?_
        try simp only [sm]
        refine tk1 4 (.pointer (some ⟨c, 0, none⟩)) rfl hSS ?_
        try simp only [sm]
        refine tk1 5 (.int .i64 (l : Int)) rfl hSS ?_
        try simp only [sm]
        refine tk1 6 (.int .i64 ((l : Int) + 1)) rfl hSS ?_
        try simp only [sm]
        refine rd1 7 rfl (fun K hK => ?_)
        go_simp
        cases hA : G.above 7 (p + 1) with
        | error e =>
         obtain ⟨a', x'⟩ := e
         have HRg : Hid (RR = .error (a', x')) := by show _ = _; rw [HRe.out, hA]
         rw [hA] at HA
         refine Calls.mono HA.out ?_
         rintro r W5 ⟨hk5, rfl⟩
         have HK5 : Hid (Kept (fun b => b = c) w W5) := HK3.out.1.trans hk5
         clear hk5 HA HK3 hA HRe HRd
         try go_wp2_with fail
         refine ⟨rfl, ?_⟩
         show PRes c V w RR _ _
         rw [HRg.out]
         exact ⟨HK5.out, rfl⟩
        | ok y =>
         obtain ⟨⟨yk, yt, yvt, yvn, yn, yl, ya⟩, q⟩ := y
         have HRg : Hid (RR = .ok (.mk 9 xt 0 0 0 [.mk yk yt yvt yvn yn yl ya] xa, q)) := by show _ = _; rw [HRe.out, hA]
         rw [hA] at HA
         refine Calls.mono HA.out ?_
         rintro r W5 ⟨hk5, ⟨cs, rfl, hy⟩, hp5⟩
         obtain ⟨sv, rfl, hl⟩ := NodeIs.cs.1 hy
         obtain ⟨ao, ln, cp, rfl⟩ := slice_of hl
         have hR1 : W5.heap[w.heap.size]? = some (nb nz) := hk5.heap HK3.out.2.1 (show ¬ w.heap.size = c by omega)
         have HF : Hid (Kept (fun b => b = c) w W5 ∧ NodeIs (fun b => b < w.heap.size + 1) W5 (.mk yk yt yvt yvn yn yl ya) (ncs yk yt yvt yvn yn (.slice ao ln cp) ya) ∧ Ps W5 c V q ∧ w.heap.size < W5.heap.size) := ⟨HK3.out.1.trans hk5, NodeIs.mono (fun b (hb : b < w.heap.size + 1) => Nat.lt_of_lt_of_le hb HK3.out.2.2.2) _ _ hy, hp5, Nat.lt_of_lt_of_le HK3.out.2.2.2 hk5.size⟩
         refine hK.out _ _ (hk5.heap hSS (show ¬ T = c by omega)) (fun hSS => ?_)
         clear hK K hk5 hy hp5 HA hl HK3 hA HRe HRd
         unfold ncs
         try simp only [sm]
         refine rd1 8 rfl (fun K hK => ?_)
         go_simp
         refine hK.out _ _ (((Kept.refl No W5).alloc _).heap hSS id) (fun hSS => ?_)
         clear hK K
         try simp only [sm]
         refine tk1 9 (.agg #[.int .i64 9, .string xt, .int .i64 0, .int .i64 0, .int .i64 0, .slice (some ⟨W5.heap.size, 0, none⟩) 1 1, .int .i64 xa]) rfl hSS ?_
         try simp only [sm]
         refine rd1 10 rfl (fun K hK => ?_)
         obtain ⟨r0, r1, r2, r3, r4, r5, r6⟩ := nbo_cells hR1
         have rf : ∀ o q, (W5.alloc o).frozen? ⟨w.heap.size, q, none⟩ = false := fun o q => nb_frozen (((Kept.refl No W5).alloc o).heap hR1 id) q
         have n1 : w.heap.size ≠ T := by omega
         have n2 : T ≠ w.heap.size := by omega
         go_simp
         try go_wp2_with fail
         refine hK.out _ _ ?_ (fun hSS => ?_)
         ·repeat refine set_other ?_ _ _ n2
          exact hSS
         clear hK K
         try simp only [sm]
         refine wpAnyH_done (by kernel_rfl) ?_ _
         go_wp2_with fail
         refine bodyPost_ret (v := .agg (ncs 9 xt 0 0 0 (.slice (some ⟨W5.heap.size, 0, none⟩) 1 1) xa).toArray) (by simp [results, Tryz.results197, go_sem, ncs, r0, r1, r2, r3, r4, r5, r6, n1, n2]) rfl ?_
         show PRes c V w RR _ _
         rw [HRg.out]
         refine ⟨?_, ⟨_, rfl, NodeIs.cs.2 ⟨_, rfl, ListIs.mono (fun b (hb : b < w.heap.size) => by show b < w.heap.size + 1; omega) (ListIs.kept ?_ (Bld.one (B := w.heap.size + 1) HF.out.2.2.2 HF.out.2.1).list)⟩⟩, HF.out.2.2.1.low (fun k hk => ?_)⟩
         ·repeat refine Kept.set ?_ _ _ _ (Or.inr (Nat.le_refl _))
          exact HF.out.1.alloc _
         ·repeat refine Kept.set ?_ _ _ _ (Or.inl (Nat.lt_succ_self _))
          exact Kept.refl _ _
         ·have hkR : k ≠ w.heap.size := by omega
          repeat rw [set_low _ _ _ hkR]
          exact alloc_low _ _ (by have := HF.out.2.2.2; omega)
       | false =>
        cases q8 : (xt.toList == [45]) with
        | true =>
         have HLt : Hid (p < V.L.length) := is_lt (show V.is _ p = true by rw [HQ.out]; exact q8) (by decide)
         go_wp2_with fail
         rw [HW2.out]
         try rw [HT.out]
         have HTk : Hid _ := take_any HK2.out.2.2.1 HLt.out
         rw [HX.out] at HTk
         refine Calls.mono HTk.out ?_
         rintro r W3 ⟨rfl, hk3, hp3⟩
         have HF3 : Hid (Kept (fun b => b = c) w W3 ∧ Ps W3 c V (p + 1) ∧ W3.heap[w.heap.size]? = some (nb nz) ∧ W3.heap[T]? = some (tb ⟨xk, xt, xvt, xvn, xsy, xa, xe⟩) ∧ w.heap.size < W3.heap.size) := ⟨HK2.out.1.no.trans hk3, hp3, hk3.heap HK2.out.2.1 (show ¬ w.heap.size = c by omega), hk3.heap HK2.out.2.2.2.1 (show ¬ T = c by omega), by have := hk3.size; have := HK2.out.2.2.2.2.2; omega⟩
         unfold tv
         dsimp only
         clear HTk hk3 hp3 HK2
         go_wp2_with fail
         refine wp_region_held_drew (S := fun w' => w'.heap[T]? = some (tb ⟨xk, xt, xvt, xvn, xsy, xa, xe⟩)) (by kernel_rfl) HF3.out.2.2.2.1 (fun hSS => ?_)
         have HK3 : Hid (Kept (fun b => b = c) w W3.drew ∧ W3.drew.heap[w.heap.size]? = some (nb nz) ∧ Ps W3.drew c V (p + 1) ∧ w.heap.size < W3.drew.heap.size) := ⟨HF3.out.1.drew, HF3.out.2.2.1, HF3.out.2.1.no (Kept.refl No W3).drew, HF3.out.2.2.2.2⟩
         generalize W3.drew = W4 at HK3 hSS ⊢
         clear HF3
         have HA : Hid (Calls Tryz.prog 187 #[.pointer (some ⟨c, 0, none⟩), .int .i64 7, .int .i64 ((l : Int) + 1)] W4 (PRes c V W4 (G.above 7 (p + 1)))) := by
          have := HG.out.above 7 (Nat.le_refl _) HK3.out.2.2.1
          rw [show ((l + 1 : Nat) : Int) = (l : Int) + 1 by omega] at this
          exact this
         have HRe : Hid (RR = match G.above 7 (p + 1) with
           | .error e => .error e
           | .ok (x, q) => .ok (.mk 9 xt 0 0 0 [x] xa, q)) := by
          show _ = _
          rw [← HRd.out, operandE, HX.out]
          simp [h3, h4, HQ.out, sNil, sTrue, sFalse, sFunction, sNot, q1, q2, q3, q4, q5, q6, q7, q8]
          try rfl
         refine tk1 0 (.pointer (some ⟨T, 1, none⟩)) rfl hSS ?_
         try simp only [sm]
         refine wpAnyH_take (i := 1) (v := .string xt) rfl (by kernel_rfl) (by kernel_rfl) (by kernel_rfl) (fun _ _ _ h => h) (Or.inl ⟨by rfl, by intro w' hw; obtain ⟨g0, g1, g2, g3, g4, g5, g6⟩ := tb_cells hw; go_simp⟩) hSS ?_
         try simp only [sm]
         refine tk1 2 (.pointer (some ⟨T, 5, none⟩)) rfl hSS ?_
         try simp only [sm]
         refine wpAnyH_take (i := 3) (v := .int .i64 xa) rfl (by kernel_rfl) (by kernel_rfl) (by kernel_rfl) (fun _ _ _ h => h) (Or.inl ⟨by rfl, by intro w' hw; obtain ⟨g0, g1, g2, g3, g4, g5, g6⟩ := tb_cells hw; go_simp⟩) hSS ?_
         try simp only [sm]
         refine tk1 4 (.pointer (some ⟨c, 0, none⟩)) rfl hSS ?_
         try simp only [sm]
         refine tk1 5 (.int .i64 (l : Int)) rfl hSS ?_
         try simp only [sm]
         refine tk1 6 (.int .i64 ((l : Int) + 1)) rfl hSS ?_
         try simp only [sm]
         refine rd1 7 rfl (fun K hK => ?_)
         go_simp
         cases hA : G.above 7 (p + 1) with
         | error e =>
          obtain ⟨a', x'⟩ := e
          have HRg : Hid (RR = .error (a', x')) := by show _ = _; rw [HRe.out, hA]
          rw [hA] at HA
          refine Calls.mono HA.out ?_
          rintro r W5 ⟨hk5, rfl⟩
          have HK5 : Hid (Kept (fun b => b = c) w W5) := HK3.out.1.trans hk5
          clear hk5 HA HK3 hA HRe HRd
          try go_wp2_with fail
          refine ⟨rfl, ?_⟩
          show PRes c V w RR _ _
          rw [HRg.out]
          exact ⟨HK5.out, rfl⟩
         | ok y =>
          obtain ⟨⟨yk, yt, yvt, yvn, yn, yl, ya⟩, q⟩ := y
          have HRg : Hid (RR = .ok (.mk 9 xt 0 0 0 [.mk yk yt yvt yvn yn yl ya] xa, q)) := by show _ = _; rw [HRe.out, hA]
          rw [hA] at HA
          refine Calls.mono HA.out ?_
          rintro r W5 ⟨hk5, ⟨cs, rfl, hy⟩, hp5⟩
          obtain ⟨sv, rfl, hl⟩ := NodeIs.cs.1 hy
          obtain ⟨ao, ln, cp, rfl⟩ := slice_of hl
          have hR1 : W5.heap[w.heap.size]? = some (nb nz) := hk5.heap HK3.out.2.1 (show ¬ w.heap.size = c by omega)
          have HF : Hid (Kept (fun b => b = c) w W5 ∧ NodeIs (fun b => b < w.heap.size + 1) W5 (.mk yk yt yvt yvn yn yl ya) (ncs yk yt yvt yvn yn (.slice ao ln cp) ya) ∧ Ps W5 c V q ∧ w.heap.size < W5.heap.size) := ⟨HK3.out.1.trans hk5, NodeIs.mono (fun b (hb : b < w.heap.size + 1) => Nat.lt_of_lt_of_le hb HK3.out.2.2.2) _ _ hy, hp5, Nat.lt_of_lt_of_le HK3.out.2.2.2 hk5.size⟩
          refine hK.out _ _ (hk5.heap hSS (show ¬ T = c by omega)) (fun hSS => ?_)
          clear hK K hk5 hy hp5 HA hl HK3 hA HRe HRd
          unfold ncs
          try simp only [sm]
          refine rd1 8 rfl (fun K hK => ?_)
          go_simp
          refine hK.out _ _ (((Kept.refl No W5).alloc _).heap hSS id) (fun hSS => ?_)
          clear hK K
          try simp only [sm]
          refine tk1 9 (.agg #[.int .i64 9, .string xt, .int .i64 0, .int .i64 0, .int .i64 0, .slice (some ⟨W5.heap.size, 0, none⟩) 1 1, .int .i64 xa]) rfl hSS ?_
          try simp only [sm]
          refine rd1 10 rfl (fun K hK => ?_)
          obtain ⟨r0, r1, r2, r3, r4, r5, r6⟩ := nbo_cells hR1
          have rf : ∀ o q, (W5.alloc o).frozen? ⟨w.heap.size, q, none⟩ = false := fun o q => nb_frozen (((Kept.refl No W5).alloc o).heap hR1 id) q
          have n1 : w.heap.size ≠ T := by omega
          have n2 : T ≠ w.heap.size := by omega
          go_simp
          try go_wp2_with fail
          refine hK.out _ _ ?_ (fun hSS => ?_)
          ·repeat refine set_other ?_ _ _ n2
           exact hSS
          clear hK K
          try simp only [sm]
          refine wpAnyH_done (by kernel_rfl) ?_ _
          go_wp2_with fail
          refine bodyPost_ret (v := .agg (ncs 9 xt 0 0 0 (.slice (some ⟨W5.heap.size, 0, none⟩) 1 1) xa).toArray) (by simp [results, Tryz.results197, go_sem, ncs, r0, r1, r2, r3, r4, r5, r6, n1, n2]) rfl ?_
          show PRes c V w RR _ _
          rw [HRg.out]
          refine ⟨?_, ⟨_, rfl, NodeIs.cs.2 ⟨_, rfl, ListIs.mono (fun b (hb : b < w.heap.size) => by show b < w.heap.size + 1; omega) (ListIs.kept ?_ (Bld.one (B := w.heap.size + 1) HF.out.2.2.2 HF.out.2.1).list)⟩⟩, HF.out.2.2.1.low (fun k hk => ?_)⟩
          ·repeat refine Kept.set ?_ _ _ _ (Or.inr (Nat.le_refl _))
           exact HF.out.1.alloc _
          ·repeat refine Kept.set ?_ _ _ _ (Or.inl (Nat.lt_succ_self _))
           exact Kept.refl _ _
          ·have hkR : k ≠ w.heap.size := by omega
           repeat rw [set_low _ _ _ hkR]
           exact alloc_low _ _ (by have := HF.out.2.2.2; omega)
        | false =>
         go_wp2_with fail
         rw [HW2.out]
         try rw [HT.out]
         have HA : Hid _ := HS.out HK2.out.2.2.1
         have HRe : Hid (RR = match suffE V G p with
           | .error e => .error e
           | .ok ((n, _), q) => .ok (n, q)) := by
          show _ = _
          rw [← HRd.out, operandE, HX.out]
          simp [h3, h4, HQ.out, sNil, sTrue, sFalse, sFunction, sNot, q1, q2, q3, q4, q5, q6, q7, q8]
          rfl
         cases hA : suffE V G p with
         | error e =>
          obtain ⟨a', x'⟩ := e
          have HRg : Hid (RR = .error (a', x')) := by show _ = _; rw [HRe.out, hA]
          rw [hA] at HA
          refine Calls.mono HA.out ?_
          rintro r W5 ⟨hk5, rfl⟩
          have HK5 : Hid (Kept (fun b => b = c) w W5) := HK2.out.1.no.trans hk5
          clear hk5 HA HK2 hA HRe HRd
          go_wp2_with fail
          refine ⟨rfl, ?_⟩
          show PRes c V w RR _ _
          rw [HRg.out]
          exact ⟨HK5.out, rfl⟩
         | ok y =>
          obtain ⟨⟨⟨yk, yt, yvt, yvn, yn, yl, ya⟩, g⟩, q⟩ := y
          have HRg : Hid (RR = .ok (.mk yk yt yvt yvn yn yl ya, q)) := by show _ = _; rw [HRe.out, hA]
          rw [hA] at HA
          refine Calls.mono HA.out ?_
          rintro r W5 ⟨hk5, ⟨cs, rfl, hy⟩, hp5⟩
          obtain ⟨sv, rfl, hl⟩ := NodeIs.cs.1 hy
          obtain ⟨ao, ln, cp, rfl⟩ := slice_of hl
          have hR1 : W5.heap[w.heap.size]? = some (nb nz) := hk5.heap HK2.out.2.1 (show ¬ w.heap.size = c by omega)
          have HF : Hid (Kept (fun b => b = c) w W5 ∧ NodeIs (fun b => b < w.heap.size + 1 ∨ W5.heap.size ≤ b) W5 (.mk yk yt yvt yvn yn yl ya) (ncs yk yt yvt yvn yn (.slice ao ln cp) ya) ∧ Ps W5 c V q ∧ w.heap.size < W5.heap.size) := ⟨HK2.out.1.no.trans hk5, NodeIs.mono (fun b (hb : b < w.heap.size + 1 ∨ W5.heap.size ≤ b) => hb.elim (fun hb => .inl (Nat.lt_of_lt_of_le hb (by have := HK2.out.2.2.2.2.2; omega))) .inr) _ _ (NodeIs.more _ _ hy), hp5, by have := hk5.size; have := HK2.out.2.2.2.2.2; omega⟩
          obtain ⟨r0, r1, r2, r3, r4, r5, r6⟩ := nbo_cells hR1
          have rf : ∀ o q, (W5.alloc o).frozen? ⟨w.heap.size, q, none⟩ = false := fun o q => nb_frozen (((Kept.refl No W5).alloc o).heap hR1 id) q
          have n1 := ne_of_heap hR1
          have n2 : W5.heap.size ≠ w.heap.size := fun e => n1 e.symm
          clear hk5 hy hp5 HA hl hR1 HK2 hA HRe HRd
          unfold ncs
          go_wp2_with fail
          refine bodyPost_ret (v := .agg (ncs yk yt yvt yvn yn (.slice ao ln cp) ya).toArray) (by simp [results, Tryz.results197, go_sem, ncs, r0, r1, r2, r3, r4, r5, r6, n1, n2]) rfl ?_
          show PRes c V w RR _ _
          rw [HRg.out]
          refine ⟨?_, ⟨_, rfl, NodeIs.mono (fun b (hb : b < w.heap.size) => .inl (Nat.lt_succ_of_lt hb)) _ _ (NodeIs.kept ?_ _ _ HF.out.2.1)⟩, HF.out.2.2.1.low (fun k hk => ?_)⟩
          ·repeat refine Kept.set ?_ _ _ _ (Or.inr (by have := HF.out.2.2.2; omega))
           exact HF.out.1.alloc _
          ·repeat refine Kept.set ?_ _ _ _ (Or.inl (by first | exact .inl (Nat.lt_succ_self _) | exact .inr (Nat.le_refl _)))
           exact (Kept.refl _ _).alloc _
          ·have hkR : k ≠ w.heap.size := by omega
           have hkW : k ≠ W5.heap.size := by have := HF.out.2.2.2; omega
           repeat first | rw [set_low _ _ _ hkR] | rw [set_low _ _ _ hkW]
           exact alloc_low _ _ (by have := HF.out.2.2.2; omega)
end Go.Proofs.YtgkgpjbbmnfnmaaGreatDoor
