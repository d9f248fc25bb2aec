/- Joined: TE TF. -/
import Derived.Test.YtgkgpjbbmnfnmaaGreatDoorRV
import Derived.Test.YtgkgpjbbmnfnmaaGreatDoorGH
/- table. -/
namespace Go.Proofs.YtgkgpjbbmnfnmaaGreatDoor
open Go.RowKit
set_option linter.unusedSimpArgs false
set_option linter.unusedVariables false

theorem items_T (V : Env) (G : Lev) (f p : Nat) (h : V.is [125] p = false) : itemsE V G (f + 1) p = match itemE V G p with
  | .error e => .error e
  | .ok (x, q) => prep [x] (if V.is [44] q then itemsE V G f (q + 1) else .ok ([], q)) := by
 rw [itemsE, h, if_neg (by decide)]
 cases itemE V G p with
 | error e => rfl
 | ok y =>
  obtain ⟨x, q⟩ := y
  dsimp only
  split
  ·cases itemsE V G f (q + 1) with
   | error e => rfl
   | ok z => obtain ⟨l, r⟩ := z; rfl
  ·rfl

/-- A table of these items. -/
def tbl (V : Env) (a : Int) (R : PR (List Tr)) : PR Tr := match R with
 | .error e => .error e
 | .ok (l, q) => match V.need [125] q with
  | .error e => .error e
  | .ok (_, r) => .ok (nd 12 l a, r)
theorem tbl_is (V : Env) (G : Lev) (p : Nat) : tableE V G p = tbl V (V.at p) (itemsE V G (V.L.length + 1) (p + 1)) := by
 unfold tableE tbl
 cases itemsE V G (V.L.length + 1) (p + 1) with
 | error e => rfl
 | ok z => rfl
set_option maxRecDepth 20000 in
set_option maxHeartbeats 16000000 in
theorem table_any {w : World} {c : Nat} {V : Env} {p : Nat} {G : Lev} {l : Nat} (hG : LevIs V G (l + 1)) (h : Ps w c V p) (hp : p < V.L.length) :
  Calls Tryz.prog 199 #[.pointer (some ⟨c, 0, none⟩), .int .i64 (l : Int)] w (PRes c V w (tableE V G p)) := by
 obtain ⟨W0, HW0⟩ : ∃ W0, Hid (w.alloc (nb nz) = W0) := ⟨_, show _ = _ from rfl⟩
 have HK0 : Hid (Kept No w W0 ∧ W0.heap.size = w.heap.size + 1) := by
  refine ⟨?_, ?_⟩
  ·rw [← HW0.out]; exact (Kept.refl No w).alloc _
  ·rw [← HW0.out]; simp
 have HT0 : Hid (W0.heap[w.heap.size]? = some (nb nz)) := by show _ = _; rw [← HW0.out]; exact World.alloc_heap_new w _
 have hcl := h.lt
 have hlen := h.len
 have hle := hG.le
 have HTk : Hid _ := take_any (h.no HK0.out.1) hp
 have HIt : Hid (∀ {w' : World} {q : Nat}, Ps w' c V q → Calls Tryz.prog 200 #[.pointer (some ⟨c, 0, none⟩), .int .i64 ((l : Int) + 1)] w' (PRes c V w' (itemE V G q))) := fun hq => by
  have := item_any hG hq
  rw [show ((l + 1 : Nat) : Int) = (l : Int) + 1 by omega] at this
  exact this
 have HGo : Hid (Gos V (itemE V G)) := itemE_go hG.go
 obtain ⟨x, HX⟩ : ∃ x, Hid (V.tk p = x) := ⟨_, show _ = _ from rfl⟩
 have ea : V.at p = x.a := by unfold Env.at; rw [HX.out]
 rw [HX.out] at HTk
 obtain ⟨R0, HR0⟩ : ∃ R0, Hid (itemsE V G (V.L.length + 1) (p + 1) = R0) := ⟨_, show _ = _ from rfl⟩
 obtain ⟨RR, HRd⟩ : ∃ RR, Hid (tableE V G p = RR) := ⟨_, show _ = _ from rfl⟩
 rw [HRd.out]
 obtain ⟨xk, xt, xvt, xvn, xsy, xa, xe⟩ := x
 have HRf : Hid (RR = tbl V xa R0) := by
  show _ = _
  rw [← HRd.out, ← HR0.out, tbl_is, ea]
 clear HRd
 have u1 : IntKind.i64.wrap ((l : Int) + 1) = (l : Int) + 1 := by rw [IntKind.wrap_i64]; omega
 unfold nb nz ncs at HW0
 clear h hG ea
 go_enter Tryz.func199, Tryz.ntmps199
 go_wp2_with fail
 rw [HW0.out]
 refine Calls.mono HTk.out ?_
 rintro r W1 ⟨rfl, hk1, hp1⟩
 have hR1 : W1.heap[w.heap.size]? = some (nb nz) := hk1.heap HT0.out (by omega)
 have hRT : w.heap.size + 1 ≤ W1.heap.size := by have := hk1.size; have := HK0.out.2; omega
 have HK1 : Hid (Kept (fun b => b = c) w (W1.alloc (nb (ncs 12 ⟨#[]⟩ 0 0 0 (.slice none 0 0) xa))) ∧ Ps (W1.alloc (nb (ncs 12 ⟨#[]⟩ 0 0 0 (.slice none 0 0) xa))) c V (p + 1) ∧ (W1.alloc (nb (ncs 12 ⟨#[]⟩ 0 0 0 (.slice none 0 0) xa))).heap[w.heap.size]? = some (nb nz) ∧ (W1.alloc (nb (ncs 12 ⟨#[]⟩ 0 0 0 (.slice none 0 0) xa))).heap[W1.heap.size]? = some (nb (ncs 12 ⟨#[]⟩ 0 0 0 (.slice none 0 0) xa)) ∧ Bld (W1.heap.size + 1) (W1.alloc (nb (ncs 12 ⟨#[]⟩ 0 0 0 (.slice none 0 0) xa))) (.slice none 0 0) []) :=
  ⟨((HK0.out.1.no.trans hk1).alloc _), hp1.no ((Kept.refl No W1).alloc _), ((Kept.refl No W1).alloc _).heap hR1 id, World.alloc_heap_new W1 _, Bld.nil _ _⟩
 obtain ⟨W2, HW2⟩ : ∃ W2, Hid (W1.alloc (nb (ncs 12 ⟨#[]⟩ 0 0 0 (.slice none 0 0) xa)) = W2) := ⟨_, show _ = _ from rfl⟩
 rw [HW2.out] at HK1
 have hsz : W2.heap.size = W1.heap.size + 1 := by rw [← HW2.out]; simp
 unfold nb ncs at HW2
 have fd := fun w => fd45a ⟨xk, xt, xvt, xvn, xsy, xa, xe⟩ w
 clear hk1 hp1 hR1 HK0 HT0 HW0 HTk
 unfold tv
 dsimp only at fd ⊢
 go_wp2_with fail
 rw [HW2.out]
 clear HW2 fd
 obtain ⟨T, HT⟩ : ∃ T, Hid (W1.heap.size = T) := ⟨_, show _ = _ from rfl⟩
 rw [HT.out] at HK1 hsz hRT
 rw [HT.out]
 clear HT
 go_loopw [16] (fun _ wr => ∃ (D : List Tr) (q f : Nat) (sv : Value), q ≤ V.L.length ∧ D.length ≤ q ∧ V.L.length < q + f ∧ Hid (R0 = prep D (itemsE V G f q)) ∧ Hid (FTs 12 xa c T V w wr q sv D)) (fun _ wr => V.L.length - pos c wr)
 case atStart => exact ⟨[], p + 1, V.L.length + 1, .slice none 0 0, by omega, by simp, by omega, by rw [HR0.out]; cases R0 with | error e => rfl | ok z => obtain ⟨l, r⟩ := z; rfl, by omega, HK1.out⟩
 case round =>
  clear HK1 HR0
  obtain ⟨D, q, f, sv, hq, hDq, hf, HRR, HK⟩ := hrel
  obtain ⟨f', rfl⟩ : ∃ f', f = f' + 1 := ⟨f - 1, by omega⟩
  have hps := HK.out.2.2.1
  have hpq := hps.pos
  cases hb : V.is [125] q with
  | true =>
   have HIs : Hid (Calls Tryz.prog 99 #[.pointer (some ⟨c, 0, none⟩), .string ⟨#[125]⟩] wr fun r w' => r = .returned (.bool true) ∧ Kept No wr w') := by
    have := is_any hps ⟨#[125]⟩
    rw [show V.is (⟨#[125]⟩ : ByteArray).data.toList q = true from hb] at this
    exact this
   have HRe : Hid (R0 = .ok (D, q)) := by
    show _ = _
    rw [HRR.out, itemsE, hb, if_pos rfl]; simp [prep]
   clear hps HRR
   go_wp2_with fail
   refine Calls.mono HIs.out ?_
   rintro r W3 ⟨rfl, hk3⟩
   have HF : Hid (FTs 12 xa c T V w W3 q sv D) :=
    ⟨Nat.le_trans HK.out.1 hk3.size, HK.out.2.1.trans hk3.no, HK.out.2.2.1.no hk3, hk3.heap HK.out.2.2.2.1 id, hk3.heap HK.out.2.2.2.2.1 id, HK.out.2.2.2.2.2.go (show c < T + 1 by omega) hk3.no⟩
   clear hk3 HIs HK
   go_wp2_with fail
   have HN : Hid (Calls Tryz.prog 166 #[.pointer (some ⟨c, 0, none⟩), .string ⟨#[125]⟩] W3 fun r w' => r = .returned (.tuple #[]) ∧ Kept (fun b => b = c) W3 w' ∧ Ps w' c V (q + 1)) := need_ok HF.out.2.2.1 ⟨#[125]⟩ (by decide) hb
   refine Calls.mono HN.out ?_
   rintro r W9 ⟨rfl, hk9, hp9⟩
   have hR9 := hk9.heap HF.out.2.2.2.1 (show ¬ w.heap.size = c by omega)
   have hT9 := hk9.heap HF.out.2.2.2.2.1 (show ¬ T = c by omega)
   have HF9 : Hid (Kept (fun b => b = c) w W9 ∧ ListIs (fun b => b < T + 1) W9 D sv ∧ Ps W9 c V (q + 1)) := ⟨HF.out.2.1.trans hk9, ListIs.kept (hk9.mono (fun b (hb : b = c) => by show b < T + 1; omega)) HF.out.2.2.2.2.2.list, hp9⟩
   obtain ⟨r0, r1, r2, r3, r4, r5, r6⟩ := nb_cells hR9
   have rf := fun o => nb_frozen hR9 o
   obtain ⟨t0', t1', t2', t3', t4', t5', t6'⟩ := nb_cells hT9
   have n1 : w.heap.size ≠ T := by omega
   have n2 : T ≠ w.heap.size := by omega
   obtain ⟨ao, ln, cp, hsv⟩ := slice_of HF9.out.2.1
   rw [hsv] at t5' HF9
   clear hk9 hp9 HN hR9 hT9 HF hsv
   go_wp2_with fail
   refine bodyPost_ret (v := .agg (ncs 12 ⟨#[]⟩ 0 0 0 (.slice ao ln cp) xa).toArray) (by simp [results, Tryz.results199, go_sem, ncs, r0, r1, r2, r3, r4, r5, r6, t0', t1', t2', t3', t4', t5', t6', n1, n2]) rfl ?_
   show PRes c V w RR _ _
   rw [HRf.out, HRe.out]
   unfold tbl
   dsimp only
   unfold Env.need
   rw [hb, if_pos rfl]
   refine ⟨?_, ⟨_, rfl, NodeIs.cs.2 ⟨_, rfl, ListIs.mono (fun b (hb : b < w.heap.size) => by show b < T + 1; omega) (ListIs.kept ?_ HF9.out.2.1)⟩⟩, HF9.out.2.2.low (fun k hk => ?_)⟩
   ·repeat refine Kept.set ?_ _ _ _ (Or.inr (Nat.le_refl _))
    exact HF9.out.1
   ·repeat refine Kept.set ?_ _ _ _ (Or.inl (by show w.heap.size < T + 1; omega))
    exact Kept.refl _ _
   ·have hkR : k ≠ w.heap.size := by omega
    repeat rw [set_low _ _ _ hkR]
  | false =>
   have HIs : Hid (Calls Tryz.prog 99 #[.pointer (some ⟨c, 0, none⟩), .string ⟨#[125]⟩] wr fun r w' => r = .returned (.bool false) ∧ Kept No wr w') := by
    have := is_any hps ⟨#[125]⟩
    rw [show V.is (⟨#[125]⟩ : ByteArray).data.toList q = false from hb] at this
    exact this
   have hRe : R0 = prep D (match itemE V G q with
     | .error e => .error e
     | .ok (x, q) => prep [x] (if V.is [44] q then itemsE V G f' (q + 1) else .ok ([], q))) := by
    rw [HRR.out, items_T V G f' q hb]
   clear hps HRR hb
   go_wp2_with fail
   refine Calls.mono HIs.out ?_
   rintro r W3 ⟨rfl, hk3⟩
   have HF3 : Hid (FTs 12 xa c T V w W3.drew q sv D) :=
    ⟨Nat.le_trans HK.out.1 hk3.size, (HK.out.2.1.trans hk3.no).drew, HK.out.2.2.1.no hk3.drew, hk3.heap HK.out.2.2.2.1 id, hk3.heap HK.out.2.2.2.2.1 id, HK.out.2.2.2.2.2.go (show c < T + 1 by omega) hk3.drew.no⟩
   clear hk3 HIs HK
   go_wp2_with fail
   refine appS (n := 9) (HF3.out) (fun W4 HF3 hSS => ?_)
   have HF3 : Hid _ := HF3
   try simp only [sm]
   refine tkU 2 (.pointer (some ⟨c, 0, none⟩)) rfl hSS ?_
   try simp only [sm]
   refine tkU 3 (.int .i64 (l : Int)) rfl hSS ?_
   try simp only [sm]
   refine tkU 4 (.int .i64 ((l : Int) + 1)) rfl hSS ?_
   try simp only [sm]
   have HE1 := HIt.out HF3.out.2.2.1
   refine rdU 5 rfl (fun K hK => ?_)
   go_simp
   cases hit : itemE V G q with
   | error e =>
    obtain ⟨a, x'⟩ := e
    rw [hit] at HE1 hRe
    have HE : Hid _ := HE1
    have HRe : Hid (R0 = .error (a, x')) := hRe
    clear HE1 hRe hit
    refine Calls.mono HE.out ?_
    rintro r W5 ⟨hk5, rfl⟩
    have HK5 : Hid (Kept (fun b => b = c) w W5) := HF3.out.2.1.trans hk5
    clear hk5 HE HF3
    try go_wp2_with fail
    refine ⟨rfl, ?_⟩
    show PRes c V w RR _ _
    rw [HRf.out, HRe.out]
    unfold tbl
    exact ⟨HK5.out, rfl⟩
   | ok y =>
    obtain ⟨y0, q1⟩ := y
    have hgo := HGo.out _ _ _ hit
    rw [hit] at HE1 hRe
    dsimp only at hRe
    rw [prep_prep] at hRe
    have HE : Hid _ := HE1
    clear HE1 hit
    refine Calls.mono HE.out ?_
    rintro r W5 ⟨hk5, ⟨cs, rfl, hy⟩, hp5⟩
    have HF5 : Hid _ := ft_call HF3.out hk5 hp5 hy (by omega) (by omega) (by omega)
    clear hy hk5 hp5 HE HF3
    refine hK.out _ _ (fun _ => (nb_cells HF5.out.1.2.2.2.2.1).2.2.2.2.2.1) ?_
    clear hK K
    try simp only [sm]
    refine appT 6 HF5.out (by omega) (by omega) (by omega) (fun ao3 ln3 cp3 W7 HF7 => ?_)
    have HF7 : Hid _ := HF7
    clear HF5
    try simp only [sm]
    go_wp2_with fail
    cases hb4 : V.is [44] q1 with
    | true =>
     have HTo : Hid (Calls Tryz.prog 98 #[.pointer (some ⟨c, 0, none⟩), .string ⟨#[44]⟩] W7 fun r w' => r = .returned (.bool true) ∧ Kept (fun b => b = c) W7 w' ∧ Ps w' c V (q1 + 1)) := by
      have := took_any HF7.out.2.2.1 ⟨#[44]⟩ (by decide)
      rw [show V.is (⟨#[44]⟩ : ByteArray).data.toList q1 = true from hb4, if_pos rfl] at this
      exact this
     have hlt4 := is_lt hb4 (by decide)
     have HRe : Hid (R0 = prep (D ++ [y0]) (itemsE V G f' (q1 + 1))) := by
      show _ = _
      rw [hRe, hb4, if_pos rfl]
     clear hRe hb4
     refine Calls.mono HTo.out ?_
     rintro r W8 ⟨rfl, hk8, hp8⟩
     have HF8 : Hid (FTs 12 xa c T V w W8 (q1 + 1) (.slice ao3 ln3 cp3) (D ++ [y0])) :=
      ⟨Nat.le_trans HF7.out.1 hk8.size, HF7.out.2.1.trans hk8, hp8, hk8.heap HF7.out.2.2.2.1 (show ¬ w.heap.size = c by omega), hk8.heap HF7.out.2.2.2.2.1 (show ¬ T = c by omega), HF7.out.2.2.2.2.2.go (show c < T + 1 by omega) hk8⟩
     clear hk8 hp8 HTo HF7
     go_wp2_with fail
     refine ⟨⟨D ++ [y0], q1 + 1, f', .slice ao3 ln3 cp3, by omega, by simp; omega, by omega, HRe.out, HF8.out⟩, ?_⟩
     rw [hpq, HF8.out.2.2.1.pos]
     omega
    | false =>
     have HTo : Hid (Calls Tryz.prog 98 #[.pointer (some ⟨c, 0, none⟩), .string ⟨#[44]⟩] W7 fun r w' => r = .returned (.bool false) ∧ Kept (fun b => b = c) W7 w' ∧ Ps w' c V q1) := by
      have := took_any HF7.out.2.2.1 ⟨#[44]⟩ (by decide)
      rw [show V.is (⟨#[44]⟩ : ByteArray).data.toList q1 = false from hb4, if_neg (by decide)] at this
      exact this
     have HRe : Hid (R0 = .ok (D ++ [y0], q1)) := by
      show _ = _
      rw [hRe, hb4, if_neg (by decide)]; simp [prep]
     clear hRe hb4
     refine Calls.mono HTo.out ?_
     rintro r W8 ⟨rfl, hk8, hp8⟩
     have HF : Hid (FTs 12 xa c T V w W8 q1 (.slice ao3 ln3 cp3) (D ++ [y0])) :=
      ⟨Nat.le_trans HF7.out.1 hk8.size, HF7.out.2.1.trans hk8, hp8, hk8.heap HF7.out.2.2.2.1 (show ¬ w.heap.size = c by omega), hk8.heap HF7.out.2.2.2.2.1 (show ¬ T = c by omega), HF7.out.2.2.2.2.2.go (show c < T + 1 by omega) hk8⟩
     clear hk8 hp8 HTo HF7
     go_wp2_with fail
     cases hb5 : V.is [125] q1 with
     | true =>
      have HN : Hid (Calls Tryz.prog 166 #[.pointer (some ⟨c, 0, none⟩), .string ⟨#[125]⟩] W8 fun r w' => r = .returned (.tuple #[]) ∧ Kept (fun b => b = c) W8 w' ∧ Ps w' c V (q1 + 1)) := need_ok HF.out.2.2.1 ⟨#[125]⟩ (by decide) hb5
      refine Calls.mono HN.out ?_
      rintro r W9 ⟨rfl, hk9, hp9⟩
      have hR9 := hk9.heap HF.out.2.2.2.1 (show ¬ w.heap.size = c by omega)
      have hT9 := hk9.heap HF.out.2.2.2.2.1 (show ¬ T = c by omega)
      have HF9 : Hid (Kept (fun b => b = c) w W9 ∧ ListIs (fun b => b < T + 1) W9 (D ++ [y0]) (.slice ao3 ln3 cp3) ∧ Ps W9 c V (q1 + 1)) := ⟨HF.out.2.1.trans hk9, ListIs.kept (hk9.mono (fun b (hb : b = c) => by show b < T + 1; omega)) HF.out.2.2.2.2.2.list, hp9⟩
      obtain ⟨r0, r1, r2, r3, r4, r5, r6⟩ := nb_cells hR9
      have rf := fun o => nb_frozen hR9 o
      obtain ⟨t0', t1', t2', t3', t4', t5', t6'⟩ := nb_cells hT9
      have n1 : w.heap.size ≠ T := by omega
      have n2 : T ≠ w.heap.size := by omega
      obtain ⟨ao, ln, cp, hsv⟩ := slice_of HF9.out.2.1
      rw [hsv] at t5' HF9
      clear hk9 hp9 HN hR9 hT9 HF hsv
      go_wp2_with fail
      refine bodyPost_ret (v := .agg (ncs 12 ⟨#[]⟩ 0 0 0 (.slice ao ln cp) xa).toArray) (by simp [results, Tryz.results199, go_sem, ncs, r0, r1, r2, r3, r4, r5, r6, t0', t1', t2', t3', t4', t5', t6', n1, n2]) rfl ?_
      show PRes c V w RR _ _
      rw [HRf.out, HRe.out]
      unfold tbl
      dsimp only
      unfold Env.need
      rw [hb5, if_pos rfl]
      refine ⟨?_, ⟨_, rfl, NodeIs.cs.2 ⟨_, rfl, ListIs.mono (fun b (hb : b < w.heap.size) => by show b < T + 1; omega) (ListIs.kept ?_ HF9.out.2.1)⟩⟩, HF9.out.2.2.low (fun k hk => ?_)⟩
      ·repeat refine Kept.set ?_ _ _ _ (Or.inr (Nat.le_refl _))
       exact HF9.out.1
      ·repeat refine Kept.set ?_ _ _ _ (Or.inl (by show w.heap.size < T + 1; omega))
       exact Kept.refl _ _
      ·have hkR : k ≠ w.heap.size := by omega
       repeat rw [set_low _ _ _ hkR]
     | false =>
      have HN : Hid (Calls Tryz.prog 166 #[.pointer (some ⟨c, 0, none⟩), .string ⟨#[125]⟩] W8 fun r w' => r = stopW (V.at q1) 6 ∧ Kept (fun b => b = c) W8 w') := need_bad HF.out.2.2.1 ⟨#[125]⟩ (by decide) hb5
      refine Calls.mono HN.out ?_
      rintro r W9 ⟨rfl, hk9⟩
      have HF9 : Hid (Kept (fun b => b = c) w W9) := HF.out.2.1.trans hk9
      clear hk9 HN HF
      go_wp2_with fail
      refine ⟨rfl, ?_⟩
      show PRes c V w RR _ _
      rw [HRf.out, HRe.out]
      unfold tbl
      dsimp only
      unfold Env.need
      rw [hb5, if_neg (by decide)]
      exact ⟨HF9.out, rfl⟩
end Go.Proofs.YtgkgpjbbmnfnmaaGreatDoor

/- The names' list is its caller's own. -/
namespace Go.Proofs.YtgkgpjbbmnfnmaaGreatDoor
open Go.RowKit
set_option linter.unusedSimpArgs false
set_option linter.unusedVariables false

/-- .. a list of trees in a row of its own, or stops. -/
def PResN (c : Nat) (V : Env) (w : World) (R : PR (List Tr)) (r : Ending) (w' : World) : Prop := Kept (fun b => b = c) w w' ∧ match R with
 | .ok (l, q) => (∃ sv, r = .returned sv ∧ Bld w.heap.size w' sv l) ∧ Ps w' c V q ∧ l.length ≤ V.L.length
 | .error (a, e) => r = stopW a e
set_option maxRecDepth 20000 in
set_option maxHeartbeats 8000000 in
theorem names_bld {w : World} {c : Nat} {V : Env} {p : Nat} (h : Ps w c V p) :
  Calls Tryz.prog 165 #[.pointer (some ⟨c, 0, none⟩)] w (PResN c V w (V.names p)) := by
 obtain ⟨i0, hi, hz0, hz1, hz2⟩ := info_parts infoN
 have HI : Hid (Tryz.prog.info? 43 = some i0 ∧ _ ∧ _ ∧ _) := ⟨hi, hz0, hz1, hz2⟩
 have hcl := h.lt
 have hlen := h.len
 have HP : Hid (Ps w c V p) := h
 obtain ⟨R, HR⟩ : ∃ R, Hid (V.names p = R) := ⟨_, show _ = _ from rfl⟩
 have hR : R = match V.name p with
  | .error e => .error e
  | .ok (x, q) => prep [x] (V.sepT V.name V.L.length q) := by rw [← HR.out]; exact sep_T V V.name _ p
 rw [HR.out]
 have HNm : Hid _ := pname_any h
 clear h hi hz0 hz1 hz2
 cases hn : V.name p with
 | error e =>
  obtain ⟨a, x⟩ := e
  rw [hn] at hR HNm
  dsimp only at hR
  subst hR
  clear hn
  go_enter Tryz.func165, Tryz.ntmps165
  go_wp2_with fail
  refine Calls.mono HNm.out ?_
  rintro r W1 ⟨hk1, rfl⟩
  have HK1 : Hid (Kept (fun b => b = c) w W1) := hk1
  clear hk1 HNm
  go_wp2_with fail
  exact ⟨rfl, HK1.out, rfl⟩
 | ok y =>
  obtain ⟨x, q⟩ := y
  have hgo := name_go _ _ _ hn
  rw [hn] at hR HNm
  dsimp only at hR
  clear hn
  go_enter Tryz.func165, Tryz.ntmps165
  go_wp2_with fail
  refine Calls.mono HNm.out ?_
  rintro r W1 ⟨hk1, ⟨cs, rfl, hx⟩, hp1⟩
  obtain ⟨xk, xt, xvt, xvn, xn, xl, xa⟩ := x
  obtain ⟨sv, rfl, hl⟩ := NodeIs.cs.1 hx
  obtain ⟨ao, ln, cp, rfl⟩ : ∃ ao ln cp, sv = .slice ao ln cp := by
   rcases hl with ⟨_, rfl⟩ | ⟨b, o, cap, rfl, _⟩
   ·exact ⟨_, _, _, rfl⟩
   ·exact ⟨_, _, _, rfl⟩
  have HK1 : Hid (Kept (fun b => b = c) w (W1.alloc (nb (ncs xk xt xvt xvn xn (.slice ao ln cp) xa))) ∧ Ps (W1.alloc (nb (ncs xk xt xvt xvn xn (.slice ao ln cp) xa))) c V q ∧ Bld w.heap.size (W1.alloc (nb (ncs xk xt xvt xvn xn (.slice ao ln cp) xa))) (.slice (some ⟨W1.heap.size, 0, none⟩) 1 1) [.mk xk xt xvt xvn xn xl xa]) :=
   ⟨hk1.alloc _, hp1.no ((Kept.refl No W1).alloc _), Bld.one hk1.size hx⟩
  obtain ⟨W2, HW2⟩ : ∃ W2, Hid (W1.alloc (nb (ncs xk xt xvt xvn xn (.slice ao ln cp) xa)) = W2) := ⟨_, show _ = _ from rfl⟩
  rw [HW2.out] at HK1
  unfold nb ncs at HW2
  clear hk1 hx hl hp1 HNm
  unfold ncs
  go_wp2_with fail
  rw [HW2.out]
  clear HW2
  have HRR : Hid (R = prep [Tr.mk xk xt xvt xvn xn xl xa] (V.sepT V.name V.L.length q)) := hR
  clear hR
  go_loopw [3] (fun v wr => ∃ (D : List Tr) (q n : Nat), D ≠ [] ∧ q ≤ V.L.length ∧ D.length ≤ q ∧ V.L.length ≤ q + n ∧ Hid (R = prep D (V.sepT V.name n q)) ∧ Hid (Kept (fun b => b = c) w wr ∧ Ps wr c V q ∧ Bld w.heap.size wr v D)) (fun _ wr => V.L.length - pos c wr)
  case atStart => exact ⟨_, q, V.L.length, by simp, hgo.2, by simp; omega, by omega, HRR.out, HK1.out⟩
  case round =>
   clear HK1 HRR HR
   obtain ⟨D, q', n, hD, hq', hDq, hn, HRR, HK⟩ := hrel
   have hps := HK.out.2.1
   cases hb : V.is [44] q' with
   | false =>
    have HTo : Hid (Calls Tryz.prog 98 #[.pointer (some ⟨c, 0, none⟩), .string ⟨#[44]⟩] wr fun r w' => r = .returned (.bool false) ∧ Kept (fun b => b = c) wr w' ∧ Ps w' c V q') := by
     have := took_any hps ⟨#[44]⟩ (by decide)
     rw [show V.is (⟨#[44]⟩ : ByteArray).data.toList q' = false from hb, if_neg (by decide)] at this
     exact this
    have HRe : Hid (R = .ok (D, q')) := by
     show _ = _
     rw [HRR.out]; unfold Env.sepT; rw [hb]; simp [prep]
    clear hps hb HRR
    go_wp2_with fail
    refine Calls.mono HTo.out ?_
    rintro e W3 ⟨rfl, hk3, hp3⟩
    have HF : Hid (Kept (fun b => b = c) w W3 ∧ Ps W3 c V q' ∧ Bld w.heap.size W3 u3 D) := ⟨HK.out.1.trans hk3, hp3, HK.out.2.2.go hcl hk3⟩
    clear hk3 hp3 HTo HK
    go_wp2_with fail
    refine bodyPost_ret (v := u3) (by simp [results, Tryz.results165, go_sem]) rfl ?_
    show PResN c V w R _ _
    rw [HRe.out]
    exact ⟨HF.out.1, ⟨_, rfl, HF.out.2.2⟩, HF.out.2.1, by omega⟩
   | true =>
    have hlt := is_lt hb (by decide)
    have HTo : Hid (Calls Tryz.prog 98 #[.pointer (some ⟨c, 0, none⟩), .string ⟨#[44]⟩] wr fun r w' => r = .returned (.bool true) ∧ Kept (fun b => b = c) wr w' ∧ Ps w' c V (q' + 1)) := by
     have := took_any hps ⟨#[44]⟩ (by decide)
     rw [show V.is (⟨#[44]⟩ : ByteArray).data.toList q' = true from hb, if_pos rfl] at this
     exact this
    obtain ⟨n', rfl⟩ : ∃ n', n = n' + 1 := ⟨n - 1, by omega⟩
    have hRe : R = prep D (match V.name (q' + 1) with
      | .error e => .error e
      | .ok (x, q) => prep [x] (V.sepT V.name n' q)) := by
     rw [HRR.out]; refine congrArg (prep D) (Eq.trans ?_ (sep_T V V.name n' (q' + 1))); unfold Env.sepT; rw [hb, if_pos rfl]
    clear hps hb HRR
    go_wp2_with fail
    refine Calls.mono HTo.out ?_
    rintro e W3 ⟨rfl, hk3, hp3⟩
    have HF : Hid (Kept (fun b => b = c) w W3 ∧ Ps W3 c V (q' + 1) ∧ Bld w.heap.size W3 u3 D) := ⟨HK.out.1.trans hk3, hp3, HK.out.2.2.go hcl hk3⟩
    have HNm : Hid _ := pname_any hp3
    clear hk3 hp3 HTo
    cases hnm : V.name (q' + 1) with
    | error e =>
     obtain ⟨a, x⟩ := e
     rw [hnm] at hRe HNm
     dsimp only at hRe
     have HRe : Hid (R = .error (a, x)) := hRe
     clear hRe hnm
     go_wp2_with fail
     refine Calls.mono HNm.out ?_
     rintro r W4 ⟨hk4, rfl⟩
     have HK4 : Hid (Kept (fun b => b = c) w W4) := HF.out.1.trans hk4
     clear hk4 HNm HF HK
     go_wp2_with fail
     refine ⟨rfl, ?_⟩
     show PResN c V w R _ _
     rw [HRe.out]
     exact ⟨HK4.out, rfl⟩
    | ok y =>
     obtain ⟨⟨yk, yt, yvt, yvn, yn, yl, ya⟩, q2⟩ := y
     have hgo2 := name_go _ _ _ hnm
     rw [hnm] at hRe HNm
     dsimp only at hRe
     rw [prep_prep] at hRe
     have HRe : Hid (R = prep (D ++ [Tr.mk yk yt yvt yvn yn yl ya]) (V.sepT V.name n' q2)) := hRe
     clear hRe hnm
     go_wp2_with fail
     refine Calls.mono HNm.out ?_
     rintro r W4 ⟨hk4, ⟨cs, rfl, hy⟩, hp4⟩
     obtain ⟨sv, rfl, hl⟩ := NodeIs.cs.1 hy
     obtain ⟨ao2, ln2, cp2, rfl⟩ : ∃ ao ln cp, sv = .slice ao ln cp := by
      rcases hl with ⟨_, rfl⟩ | ⟨b, o, cap, rfl, _⟩
      ·exact ⟨_, _, _, rfl⟩
      ·exact ⟨_, _, _, rfl⟩
     have hone := ncs_one hl yk yt yvt yvn yn ya
     have HB4 : Hid (Bld w.heap.size W4 u3 D) := HF.out.2.2.go hcl hk4
     have hka : Kept No W4 (W4.alloc (nb (ncs yk yt yvt yvn yn (.slice ao2 ln2 cp2) ya))) := (Kept.refl No W4).alloc _
     have hBa := HB4.out.go hcl hka.no
     obtain ⟨css, hce, hown, hcn⟩ := hBa.ex
     have hya : NodeIs (Out w.heap.size u3) (W4.alloc (nb (ncs yk yt yvt yvn yn (.slice ao2 ln2 cp2) ya))) (.mk yk yt yvt yvn yn yl ya) (ncs yk yt yvt yvn yn (.slice ao2 ln2 cp2) ya) := by
      refine NodeIs.mono ?_ _ _ (NodeIs.kept hka.no _ _ hy)
      rintro b (hb | hb)
      ·have := HF.out.1.size; omega
      ·exact (HF.out.2.2.own_lt b hb).2
     have HG : Hid (Kept (fun b => b = c) w (W4.alloc (nb (ncs yk yt yvt yvn yn (.slice ao2 ln2 cp2) ya))) ∧ Ps (W4.alloc (nb (ncs yk yt yvt yvn yn (.slice ao2 ln2 cp2) ya))) c V q2) := ⟨(HF.out.1.trans hk4).alloc _, hp4.no hka⟩
     have hlt4 := fun k e => hBa.own_lt k e
     have hbw : w.heap.size ≤ (W4.alloc (nb (ncs yk yt yvt yvn yn (.slice ao2 ln2 cp2) ya))).heap.size := HG.out.1.size
     have hp' := HK.out.2.1.pos
     clear hk4 hl hy hp4 hka HNm HF HB4
     unfold ncs
     go_wp2_with (at_builtin; refine wpList_append_own_at _ rfl _ _ 41 rfl w.heap.size 43 i0 (.agg #[.int .i64 0, .string ⟨#[]⟩, .int .i64 0, .int .i64 0, .int .i64 0, .slice none 0 0, .int .i64 0]) 7 80 Tryz.underlying41 HI.out.1 HI.out.2.1 HI.out.2.2.1 HI.out.2.2.2 rfl (by decide) u3 D.length css.flatten rfl hown ⟨W4.heap.size, 0, none⟩ 1 1 (ncs yk yt yvt yvn yn (.slice ao2 ln2 cp2) ya) rfl ?qc1 ?qc2 ?qc3 ?qc4 ?qc5 ?qc6 ?_)
     case qc1 => rfl
     case qc2 => exact World.news_of_block (World.alloc_heap_new W4 (nb (ncs yk yt yvt yvn yn (.slice ao2 ln2 cp2) ya)))
     case qc3 => exact hone
     case qc4 => unfold maxLen; omega
     case qc5 => omega
     case qc6 => exact hbw
     intro v' W5 hown' hgrow hnil hob
     have HE : Hid (Kept (fun b => b = c) w W5 ∧ Ps W5 c V q2 ∧ Bld w.heap.size W5 v' (D ++ [Tr.mk yk yt yvt yvn yn yl ya])) := by
      refine ⟨HG.out.1.grown hgrow (fun k e => .inr (hlt4 k e).1), HG.out.2.low (fun k hk => ?_), hBa.snoc hce hcn hya hown' hgrow ?_⟩
      ·exact hgrow.block k (Nat.lt_of_le_of_lt hk HG.out.2.lt) (fun e => by have := (hlt4 k e.symm).1; omega)
      ·rcases hob with h | h
       ·exact .inl h
       ·refine .inr (fun k e => ?_)
        rw [h] at e
        injection e with e
        rw [show (W4.alloc (nb (ncs yk yt yvt yvn yn (.slice ao2 ln2 cp2) ya))).heap.size = W4.heap.size + 1 by simp]; omega
     clear hown' hgrow hnil hob HG hlt4 hbw hya hBa hce hown hcn hone
     go_wp2_with fail
     refine ⟨⟨D ++ [Tr.mk yk yt yvt yvn yn yl ya], q2, n', by simp, hgo2.2, by simp; omega, by omega, HRe.out, HE.out⟩, ?_⟩
     rw [hp', HE.out.2.1.pos]
     omega
end Go.Proofs.YtgkgpjbbmnfnmaaGreatDoor
