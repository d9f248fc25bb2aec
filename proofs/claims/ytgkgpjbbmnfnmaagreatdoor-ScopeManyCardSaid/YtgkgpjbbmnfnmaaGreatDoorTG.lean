import Derived.Test.YtgkgpjbbmnfnmaaGreatDoorRV
import Derived.Test.YtgkgpjbbmnfnmaaGreatDoorGA
import Derived.Test.YtgkgpjbbmnfnmaaGreatDoorGH
import Derived.Test.YtgkgpjbbmnfnmaaGreatDoorGX
/- body. -/
namespace Go.Proofs.YtgkgpjbbmnfnmaaGreatDoor
open Go.RowKit
set_option linter.unusedSimpArgs false
set_option linter.unusedVariables false

/-- A function of this block, behind these names. -/
def bodB (V : Env) (a : Int) (l : List Tr) (R : PR Tr) : PR Tr := match R with
 | .error e => .error e
 | .ok (b, t) => match V.need sEnd t with
  | .error e => .error e
  | .ok (_, u) => .ok (nd 7 (l ++ [b]) a, u)
/-- .. of these names. -/
def bodN (V : Env) (G : Lev) (a : Int) (R : PR (List Tr)) : PR Tr := match R with
 | .error e => .error e
 | .ok (l, r) => match V.need [41] r with
  | .error e => .error e
  | .ok (_, s) => bodB V a l (G.block s)
def bod (V : Env) (G : Lev) (a : Int) (p : Nat) : PR Tr := match V.need [40] p with
 | .error e => .error e
 | .ok (_, q) => bodN V G a (paramsE V q)
theorem bod_is (V : Env) (G : Lev) (a : Int) (p : Nat) : bodyE V G a p = bod V G a p := rfl
theorem bod_no {V : Env} {G : Lev} {a : Int} {p : Nat} (h : V.is [40] p = false) : bod V G a p = .error (V.at p, 6) := by
 unfold bod Env.need; rw [h, if_neg (by decide)]; rfl
theorem bod_yes {V : Env} {G : Lev} {a : Int} {p : Nat} (h : V.is [40] p = true) : bod V G a p = bodN V G a (paramsE V (p + 1)) := by
 unfold bod Env.need; rw [h, if_pos rfl]
theorem bodN_no {V : Env} {G : Lev} {a : Int} {l : List Tr} {r : Nat} (h : V.is [41] r = false) : bodN V G a (.ok (l, r)) = .error (V.at r, 6) := by
 unfold bodN Env.need; dsimp only; rw [h, if_neg (by decide)]; rfl
theorem bodN_yes {V : Env} {G : Lev} {a : Int} {l : List Tr} {r : Nat} (h : V.is [41] r = true) : bodN V G a (.ok (l, r)) = bodB V a l (G.block (r + 1)) := by
 unfold bodN Env.need; dsimp only; rw [h, if_pos rfl]
theorem bodB_no {V : Env} {a : Int} {l : List Tr} {b : Tr} {r : Nat} (h : V.is sEnd r = false) : bodB V a l (.ok (b, r)) = .error (V.at r, 6) := by
 unfold bodB Env.need; dsimp only; rw [h, if_neg (by decide)]; rfl
theorem bodB_yes {V : Env} {a : Int} {l : List Tr} {b : Tr} {r : Nat} (h : V.is sEnd r = true) : bodB V a l (.ok (b, r)) = .ok (nd 7 (l ++ [b]) a, r + 1) := by
 unfold bodB Env.need; dsimp only; rw [h, if_pos rfl]
theorem Bld.down {B B' : Nat} {w : World} {v : Value} {l : List Tr} (h : Bld B w v l) (hB : B' ≤ B) : Bld B' w v l := by
 obtain ⟨css, e, ho, hn⟩ := h.ex
 refine ⟨⟨css, e, ?_, fun j h1 h2 => ?_⟩⟩
 ·obtain ⟨o1, o2 | ⟨g, cap, cur, o3, o4, o5, o6⟩⟩ := ho
  ·exact ⟨o1, .inl o2⟩
  ·exact ⟨o1, .inr ⟨g, cap, cur, o3, by omega, o5, o6⟩⟩
 ·refine NodeIs.mono ?_ _ _ (hn j h1 h2)
  rintro b (hb | hb)
  ·exact .inl (Nat.lt_of_lt_of_le hb hB)
  ·exact .inr hb
set_option maxRecDepth 20000 in
set_option maxHeartbeats 16000000 in
theorem body_any {w : World} {c : Nat} {V : Env} {p : Nat} {G : Lev} {l : Nat} (hG : LevIs V G (l + 1)) (a : Int) (h : Ps w c V p) :
  Calls Tryz.prog 188 #[.pointer (some ⟨c, 0, none⟩), .int .i64 a, .int .i64 (l : Int)] w (PRes c V w (bodyE V G a p)) := by
 obtain ⟨W0, HW0⟩ : ∃ W0, Hid ((w.alloc (nb nz)).alloc (nb (ncs 7 ⟨#[]⟩ 0 0 0 (.slice none 0 0) a)) = W0) := ⟨_, show _ = _ from rfl⟩
 obtain ⟨T, hT⟩ : ∃ T, w.heap.size + 1 = T := ⟨_, rfl⟩
 have HK0 : Hid (T + 1 ≤ W0.heap.size ∧ Kept (fun b => b = c) w W0 ∧ Ps W0 c V p ∧ W0.heap[w.heap.size]? = some (nb nz) ∧ W0.heap[T]? = some (nb (ncs 7 ⟨#[]⟩ 0 0 0 (.slice none 0 0) a))) := by
  have k1 : Kept No w (w.alloc (nb nz)) := (Kept.refl No w).alloc _
  have k2 : Kept No (w.alloc (nb nz)) W0 := by rw [← HW0.out]; exact (Kept.refl No _).alloc _
  refine ⟨?_, (k1.trans k2).no, h.no (k1.trans k2), k2.heap (World.alloc_heap_new w _) id, ?_⟩
  ·rw [← HW0.out, ← hT]; simp
  ·rw [← HW0.out, ← hT]
   have := World.alloc_heap_new (w.alloc (nb nz)) (nb (ncs 7 ⟨#[]⟩ 0 0 0 (.slice none 0 0) a))
   rw [show (w.alloc (nb nz)).heap.size = w.heap.size + 1 by simp] at this
   exact this
 have hcl := h.lt
 have hlen := h.len
 have hle := hG.le
 have HBl : Hid (∀ {w' : World} {q : Nat}, Ps w' c V q → Calls Tryz.prog 60 #[.pointer (some ⟨c, 0, none⟩), .int .i64 ((l : Int) + 1)] w' (PRes c V w' (G.block q))) := fun hq => by
  have := hG.block hq
  rw [show ((l + 1 : Nat) : Int) = (l : Int) + 1 by omega] at this
  exact this
 obtain ⟨RR, HRd⟩ : ∃ RR, Hid (bodyE V G a p = RR) := ⟨_, show _ = _ from rfl⟩
 rw [HRd.out]
 have HRf : Hid (RR = bod V G a p) := by show _ = _; rw [← HRd.out, bod_is]
 clear HRd
 have u1 : IntKind.i64.wrap ((l : Int) + 1) = (l : Int) + 1 := by rw [IntKind.wrap_i64]; omega
 unfold nb nz ncs at HW0
 clear h hG
 go_enter Tryz.func188, Tryz.ntmps188
 go_wp2_with fail
 rw [HW0.out]
 try rw [hT]
 clear HW0
 cases hb0 : V.is [40] p with
 | false =>
  have HN : Hid (Calls Tryz.prog 166 #[.pointer (some ⟨c, 0, none⟩), .string ⟨#[40]⟩] W0 fun r w' => r = stopW (V.at p) 6 ∧ Kept (fun b => b = c) W0 w') := need_bad HK0.out.2.2.1 ⟨#[40]⟩ (by decide) hb0
  refine Calls.mono HN.out ?_
  rintro r W9 ⟨rfl, hk9⟩
  have HF9 : Hid (Kept (fun b => b = c) w W9) := HK0.out.2.1.trans hk9
  have HRe : Hid (RR = .error (V.at p, 6)) := by
   show _ = _
   rw [HRf.out, bod_no hb0]
  clear hk9 HN HK0 HRf
  go_wp2_with fail
  refine ⟨rfl, ?_⟩
  show PRes c V w RR _ _
  rw [HRe.out]
  exact ⟨HF9.out, rfl⟩
 | true =>
  have HN : Hid (Calls Tryz.prog 166 #[.pointer (some ⟨c, 0, none⟩), .string ⟨#[40]⟩] W0 fun r w' => r = .returned (.tuple #[]) ∧ Kept (fun b => b = c) W0 w' ∧ Ps w' c V (p + 1)) := need_ok HK0.out.2.2.1 ⟨#[40]⟩ (by decide) hb0
  have hRf := HRf.out
  rw [bod_yes hb0] at hRf
  clear HRf
  have HRf : Hid (RR = bodN V G a (paramsE V (p + 1))) := hRf
  clear hRf
  refine Calls.mono HN.out ?_
  rintro r W1 ⟨rfl, hk1, hp1⟩
  have HK1 : Hid (FTs 7 a c T V w W1 (p + 1) (.slice none 0 0) []) :=
   ⟨Nat.le_trans HK0.out.1 hk1.size, HK0.out.2.1.trans hk1, hp1, hk1.heap HK0.out.2.2.2.1 (show ¬ w.heap.size = c by omega), hk1.heap HK0.out.2.2.2.2 (show ¬ T = c by omega), Bld.nil _ _⟩
  clear hk1 hp1 HN HK0 hb0
  go_wp2_with fail
  cases hb1 : V.is [41] (p + 1) with
  | true =>
   have HIs : Hid (Calls Tryz.prog 99 #[.pointer (some ⟨c, 0, none⟩), .string ⟨#[41]⟩] W1 fun r w' => r = .returned (.bool true) ∧ Kept No W1 w') := by
    have := is_any HK1.out.2.2.1 ⟨#[41]⟩
    rw [show V.is (⟨#[41]⟩ : ByteArray).data.toList (p + 1) = true from hb1] at this
    exact this
   have hRf := HRf.out
   rw [show paramsE V (p + 1) = .ok ([], p + 1) by unfold paramsE; rw [hb1, if_pos rfl]] at hRf
   clear HRf
   refine Calls.mono HIs.out ?_
   rintro r W2 ⟨rfl, hk2⟩
   obtain ⟨sv, D, hsv, hDl, HFp, HRf⟩ : ∃ (sv : Value) (D : List Tr), (∃ ao ln cp, sv = .slice ao ln cp) ∧ D.length ≤ V.L.length ∧ Hid (FTs 7 a c T V w W2 (p + 1) sv D) ∧ Hid (RR = bodN V G a (.ok (D, p + 1))) :=
    ⟨.slice none 0 0, [], ⟨_, _, _, rfl⟩, Nat.zero_le _, ⟨Nat.le_trans HK1.out.1 hk2.size, HK1.out.2.1.trans hk2.no, HK1.out.2.2.1.no hk2, hk2.heap HK1.out.2.2.2.1 id, hk2.heap HK1.out.2.2.2.2.1 id, Bld.nil _ _⟩, hRf⟩
   clear hk2 HIs HK1 hRf
   obtain ⟨ao1, ln1, cp1, rfl⟩ := hsv
   obtain ⟨sv, hsv⟩ : ∃ sv, (.slice ao1 ln1 cp1 : Value) = sv := ⟨_, rfl⟩
   rw [hsv] at HFp
   go_wp2_with fail
   cases hb2 : V.is [41] (p + 1) with
   | false =>
    have HN : Hid (Calls Tryz.prog 166 #[.pointer (some ⟨c, 0, none⟩), .string ⟨#[41]⟩] W2 fun r w' => r = stopW (V.at (p + 1)) 6 ∧ Kept (fun b => b = c) W2 w') := need_bad HFp.out.2.2.1 ⟨#[41]⟩ (by decide) hb2
    refine Calls.mono HN.out ?_
    rintro r W9 ⟨rfl, hk9⟩
    have HF9 : Hid (Kept (fun b => b = c) w W9) := HFp.out.2.1.trans hk9
    have HRe : Hid (RR = .error (V.at (p + 1), 6)) := by
     show _ = _
     rw [HRf.out, bodN_no hb2]
    clear hk9 HN HFp HRf
    go_wp2_with fail
    refine ⟨rfl, ?_⟩
    show PRes c V w RR _ _
    rw [HRe.out]
    exact ⟨HF9.out, rfl⟩
   | true =>
    have HN : Hid (Calls Tryz.prog 166 #[.pointer (some ⟨c, 0, none⟩), .string ⟨#[41]⟩] W2 fun r w' => r = .returned (.tuple #[]) ∧ Kept (fun b => b = c) W2 w' ∧ Ps w' c V ((p + 1) + 1)) := need_ok HFp.out.2.2.1 ⟨#[41]⟩ (by decide) hb2
    have hRf := HRf.out
    rw [bodN_yes hb2] at hRf
    clear HRf
    refine Calls.mono HN.out ?_
    rintro r W3 ⟨rfl, hk3, hp3⟩
    obtain ⟨r, hr⟩ : ∃ r, (p + 1) + 1 = r := ⟨_, rfl⟩
    rw [hr] at hRf hp3
    have HRf : Hid (RR = bodB V a D (G.block r)) := hRf
    clear hRf
    have HF3 : Hid (FTs 7 a c T V w W3.drew r sv D) :=
     ⟨Nat.le_trans HFp.out.1 hk3.size, (HFp.out.2.1.trans hk3).drew, hp3.no ((Kept.refl No W3).drew), hk3.heap HFp.out.2.2.2.1 (show ¬ w.heap.size = c by omega), hk3.heap HFp.out.2.2.2.2.1 (show ¬ T = c by omega), HFp.out.2.2.2.2.2.go (show c < T + 1 by omega) hk3.drew⟩
    clear hk3 hp3 HN HFp hb2 hr
    go_wp2_with fail
    refine appS (n := 9) (HF3.out) (fun W4 HF3 hSS => ?_)
    have HF3 : Hid _ := HF3
    try simp only [sm]
    refine tkU 2 (.pointer (some ⟨c, 0, none⟩)) rfl hSS ?_
    try simp only [sm]
    refine tkU 3 (.int .i64 (l : Int)) rfl hSS ?_
    try simp only [sm]
    refine tkU 4 (.int .i64 ((l : Int) + 1)) rfl hSS ?_
    try simp only [sm]
    have HE1 := HBl.out HF3.out.2.2.1
    refine rdU 5 rfl (fun K hK => ?_)
    go_simp
    cases hit : G.block r with
    | error e =>
     obtain ⟨a', x'⟩ := e
     have hRf := HRf.out
     rw [hit] at HE1 hRf
     have HE : Hid _ := HE1
     have HRe : Hid (RR = .error (a', x')) := hRf
     clear HE1 hRf HRf hit
     refine Calls.mono HE.out ?_
     rintro r W5 ⟨hk5, rfl⟩
     have HK5 : Hid (Kept (fun b => b = c) w W5) := HF3.out.2.1.trans hk5
     clear hk5 HE HF3
     try go_wp2_with fail
     refine ⟨rfl, ?_⟩
     show PRes c V w RR _ _
     rw [HRe.out]
     exact ⟨HK5.out, rfl⟩
    | ok y =>
     obtain ⟨y0, q1⟩ := y
     have hRf := HRf.out
     rw [hit] at HE1 hRf
     have HE : Hid _ := HE1
     clear HE1 hit HRf
     have HRf : Hid (RR = bodB V a D (.ok (y0, q1))) := hRf
     clear hRf
     refine Calls.mono HE.out ?_
     rintro r W5 ⟨hk5, ⟨cs, rfl, hy⟩, hp5⟩
     have HF5 : Hid _ := ft_call HF3.out hk5 hp5 hy (by omega) (by omega) (by omega)
     clear hy hk5 hp5 HE HF3
     refine hK.out _ _ (fun _ => (nb_cells HF5.out.1.2.2.2.2.1).2.2.2.2.2.1) ?_
     clear hK K
     try simp only [sm]
     refine appT 6 HF5.out (by omega) (by omega) (by omega) (fun ao3 ln3 cp3 W7 HF7 => ?_)
     have HF7 : Hid _ := HF7
     clear HF5
     try simp only [sm]
     go_wp2_with fail
     cases hb5 : V.is sEnd q1 with
     | true =>
      have HN : Hid (Calls Tryz.prog 166 #[.pointer (some ⟨c, 0, none⟩), .string ⟨#[101, 110, 100]⟩] W7 fun r w' => r = .returned (.tuple #[]) ∧ Kept (fun b => b = c) W7 w' ∧ Ps w' c V (q1 + 1)) := need_ok HF7.out.2.2.1 ⟨#[101, 110, 100]⟩ (by decide) hb5
      refine Calls.mono HN.out ?_
      rintro r W9 ⟨rfl, hk9, hp9⟩
      have hR9 := hk9.heap HF7.out.2.2.2.1 (show ¬ w.heap.size = c by omega)
      have hT9 := hk9.heap HF7.out.2.2.2.2.1 (show ¬ T = c by omega)
      have HRe : Hid (RR = .ok (nd 7 (D ++ [y0]) a, q1 + 1)) := by
       show _ = _
       rw [HRf.out, bodB_yes hb5]
      have HF9 : Hid (Kept (fun b => b = c) w W9 ∧ ListIs (fun b => b < T + 1) W9 (D ++ [y0]) (.slice ao3 ln3 cp3) ∧ Ps W9 c V (q1 + 1)) := ⟨HF7.out.2.1.trans hk9, ListIs.kept (hk9.mono (fun b (hb : b = c) => by show b < T + 1; omega)) HF7.out.2.2.2.2.2.list, hp9⟩
      obtain ⟨r0, r1, r2, r3, r4, r5, r6⟩ := nb_cells hR9
      have rf := fun o => nb_frozen hR9 o
      obtain ⟨t0', t1', t2', t3', t4', t5', t6'⟩ := nb_cells hT9
      have n1 : w.heap.size ≠ T := by omega
      have n2 : T ≠ w.heap.size := by omega
      clear hk9 hp9 HN hR9 hT9 HF7 HRf
      go_wp2_with fail
      refine bodyPost_ret (v := .agg (ncs 7 ⟨#[]⟩ 0 0 0 (.slice ao3 ln3 cp3) a).toArray) (by simp [results, Tryz.results188, go_sem, ncs, r0, r1, r2, r3, r4, r5, r6, t0', t1', t2', t3', t4', t5', t6', n1, n2]) rfl ?_
      show PRes c V w RR _ _
      rw [HRe.out]
      refine ⟨?_, ⟨_, rfl, NodeIs.cs.2 ⟨_, rfl, ListIs.mono (fun b (hb : b < w.heap.size) => by show b < T + 1; omega) (ListIs.kept ?_ HF9.out.2.1)⟩⟩, HF9.out.2.2.low (fun k hk => ?_)⟩
      ·repeat refine Kept.set ?_ _ _ _ (Or.inr (Nat.le_refl _))
       exact HF9.out.1
      ·repeat refine Kept.set ?_ _ _ _ (Or.inl (by show w.heap.size < T + 1; omega))
       exact Kept.refl _ _
      ·have hkR : k ≠ w.heap.size := by omega
       repeat rw [set_low _ _ _ hkR]
     | false =>
      have HN : Hid (Calls Tryz.prog 166 #[.pointer (some ⟨c, 0, none⟩), .string ⟨#[101, 110, 100]⟩] W7 fun r w' => r = stopW (V.at q1) 6 ∧ Kept (fun b => b = c) W7 w') := need_bad HF7.out.2.2.1 ⟨#[101, 110, 100]⟩ (by decide) hb5
      refine Calls.mono HN.out ?_
      rintro r W9 ⟨rfl, hk9⟩
      have HF9 : Hid (Kept (fun b => b = c) w W9) := HF7.out.2.1.trans hk9
      have HRe : Hid (RR = .error (V.at q1, 6)) := by
       show _ = _
       rw [HRf.out, bodB_no hb5]
      clear hk9 HN HF7 HRf
      go_wp2_with fail
      refine ⟨rfl, ?_⟩
      show PRes c V w RR _ _
      rw [HRe.out]
      exact ⟨HF9.out, rfl⟩
  | false =>
   have HIs : Hid (Calls Tryz.prog 99 #[.pointer (some ⟨c, 0, none⟩), .string ⟨#[41]⟩] W1 fun r w' => r = .returned (.bool false) ∧ Kept No W1 w') := by
    have := is_any HK1.out.2.2.1 ⟨#[41]⟩
    rw [show V.is (⟨#[41]⟩ : ByteArray).data.toList (p + 1) = false from hb1] at this
    exact this
   have hRf := HRf.out
   rw [show paramsE V (p + 1) = V.names (p + 1) by unfold paramsE; rw [hb1, if_neg (by decide)]] at hRf
   clear hb1 HRf
   have HRf : Hid (RR = bodN V G a (V.names (p + 1))) := hRf
   clear hRf
   refine Calls.mono HIs.out ?_
   rintro r W2 ⟨rfl, hk2⟩
   have HK2 : Hid (FTs 7 a c T V w W2 (p + 1) (.slice none 0 0) []) :=
    ⟨Nat.le_trans HK1.out.1 hk2.size, HK1.out.2.1.trans hk2.no, HK1.out.2.2.1.no hk2, hk2.heap HK1.out.2.2.2.1 id, hk2.heap HK1.out.2.2.2.2.1 id, Bld.nil _ _⟩
   clear hk2 HIs HK1
   go_wp2_with fail
   have HNm := names_bld HK2.out.2.2.1
   have hRf := HRf.out
   clear HRf
   cases hnm : V.names (p + 1) with
   | error e =>
    obtain ⟨a', x'⟩ := e
    rw [hnm] at HNm hRf
    have HE : Hid _ := HNm
    have HRe : Hid (RR = .error (a', x')) := hRf
    clear HNm hRf hnm
    refine Calls.mono HE.out ?_
    rintro r W5 ⟨hk5, rfl⟩
    have HK5 : Hid (Kept (fun b => b = c) w W5) := HK2.out.2.1.trans hk5
    clear hk5 HE HK2
    try go_wp2_with fail
    refine ⟨rfl, ?_⟩
    show PRes c V w RR _ _
    rw [HRe.out]
    exact ⟨HK5.out, rfl⟩
   | ok y =>
    obtain ⟨D, r0⟩ := y
    rw [hnm] at HNm hRf
    have HE : Hid _ := HNm
    have HRf : Hid (RR = bodN V G a (.ok (D, r0))) := hRf
    clear HNm hnm hRf
    refine Calls.mono HE.out ?_
    rintro r W2b ⟨hk5, ⟨sv, rfl, hbl⟩, hp5, hDl⟩
    obtain ⟨ao1, ln1, cp1, rfl⟩ := slice_of hbl.list
    have HK5 : Hid (T + 1 ≤ W2b.heap.size ∧ Kept (fun b => b = c) w W2b ∧ Ps W2b c V r0 ∧ W2b.heap[w.heap.size]? = some (nb nz) ∧ W2b.heap[T]? = some (nb (ncs 7 ⟨#[]⟩ 0 0 0 (.slice none 0 0) a)) ∧ Bld W2.heap.size W2b (.slice ao1 ln1 cp1) D ∧ T + 1 ≤ W2.heap.size) :=
     ⟨Nat.le_trans HK2.out.1 hk5.size, HK2.out.2.1.trans hk5, hp5, hk5.heap HK2.out.2.2.2.1 (show ¬ w.heap.size = c by omega), hk5.heap HK2.out.2.2.2.2.1 (show ¬ T = c by omega), hbl, HK2.out.1⟩
    clear hk5 hp5 hbl HE HK2
    obtain ⟨t0', t1', t2', t3', t4', t5', t6'⟩ := nb_cells HK5.out.2.2.2.2.1
    have tf := fun o => nb_frozen HK5.out.2.2.2.2.1 o
    go_wp2_with fail
    clear t0' t1' t2' t3' t4' t5' t6' tf
    have HFp : Hid (FTs 7 a c T V w (W2b.setCell ⟨T, 5, none⟩ (.slice ao1 ln1 cp1)) r0 (.slice ao1 ln1 cp1) D) := by
     have hks : Kept (fun b => b = T) W2b (W2b.setCell ⟨T, 5, none⟩ (.slice ao1 ln1 cp1)) := (Kept.refl _ W2b).set T 5 _ (.inl rfl)
     exact ⟨Nat.le_trans HK5.out.1 hks.size, HK5.out.2.1.set _ _ _ (Or.inr (by omega)), HK5.out.2.2.1.low (fun k hk => set_low _ _ _ (by omega)), set_other HK5.out.2.2.2.1 _ _ (by omega), set_same HK5.out.2.2.2.2.1 _ _, (HK5.out.2.2.2.2.2.1.down HK5.out.2.2.2.2.2.2).go (show T < T + 1 by omega) hks⟩
    clear HK5
    generalize W2b.setCell ⟨T, 5, none⟩ (.slice ao1 ln1 cp1) = Wp at HFp ⊢
    obtain ⟨sv, hsv⟩ : ∃ sv, (.slice ao1 ln1 cp1 : Value) = sv := ⟨_, rfl⟩
    rw [hsv] at HFp
    cases hb2 : V.is [41] r0 with
    | false =>
     have HN : Hid (Calls Tryz.prog 166 #[.pointer (some ⟨c, 0, none⟩), .string ⟨#[41]⟩] Wp fun r w' => r = stopW (V.at r0) 6 ∧ Kept (fun b => b = c) Wp w') := need_bad HFp.out.2.2.1 ⟨#[41]⟩ (by decide) hb2
     refine Calls.mono HN.out ?_
     rintro r W9 ⟨rfl, hk9⟩
     have HF9 : Hid (Kept (fun b => b = c) w W9) := HFp.out.2.1.trans hk9
     have HRe : Hid (RR = .error (V.at r0, 6)) := by
      show _ = _
      rw [HRf.out, bodN_no hb2]
     clear hk9 HN HFp HRf
     go_wp2_with fail
     refine ⟨rfl, ?_⟩
     show PRes c V w RR _ _
     rw [HRe.out]
     exact ⟨HF9.out, rfl⟩
    | true =>
     have HN : Hid (Calls Tryz.prog 166 #[.pointer (some ⟨c, 0, none⟩), .string ⟨#[41]⟩] Wp fun r w' => r = .returned (.tuple #[]) ∧ Kept (fun b => b = c) Wp w' ∧ Ps w' c V (r0 + 1)) := need_ok HFp.out.2.2.1 ⟨#[41]⟩ (by decide) hb2
     have hRf := HRf.out
     rw [bodN_yes hb2] at hRf
     clear HRf
     refine Calls.mono HN.out ?_
     rintro r W3 ⟨rfl, hk3, hp3⟩
     obtain ⟨r, hr⟩ : ∃ r, r0 + 1 = r := ⟨_, rfl⟩
     rw [hr] at hRf hp3
     have HRf : Hid (RR = bodB V a D (G.block r)) := hRf
     clear hRf
     have HF3 : Hid (FTs 7 a c T V w W3.drew r sv D) :=
      ⟨Nat.le_trans HFp.out.1 hk3.size, (HFp.out.2.1.trans hk3).drew, hp3.no ((Kept.refl No W3).drew), hk3.heap HFp.out.2.2.2.1 (show ¬ w.heap.size = c by omega), hk3.heap HFp.out.2.2.2.2.1 (show ¬ T = c by omega), HFp.out.2.2.2.2.2.go (show c < T + 1 by omega) hk3.drew⟩
     clear hk3 hp3 HN HFp hb2 hr
     go_wp2_with fail
     refine appS (n := 9) (HF3.out) (fun W4 HF3 hSS => ?_)
     have HF3 : Hid _ := HF3
     try simp only [sm]
     refine tkU 2 (.pointer (some ⟨c, 0, none⟩)) rfl hSS ?_
     try simp only [sm]
     refine tkU 3 (.int .i64 (l : Int)) rfl hSS ?_
     try simp only [sm]
     refine tkU 4 (.int .i64 ((l : Int) + 1)) rfl hSS ?_
     try simp only [sm]
     have HE1 := HBl.out HF3.out.2.2.1
     refine rdU 5 rfl (fun K hK => ?_)
     go_simp
     cases hit : G.block r with
     | error e =>
      obtain ⟨a', x'⟩ := e
      have hRf := HRf.out
      rw [hit] at HE1 hRf
      have HE : Hid _ := HE1
      have HRe : Hid (RR = .error (a', x')) := hRf
      clear HE1 hRf HRf hit
      refine Calls.mono HE.out ?_
      rintro r W5 ⟨hk5, rfl⟩
      have HK5 : Hid (Kept (fun b => b = c) w W5) := HF3.out.2.1.trans hk5
      clear hk5 HE HF3
      try go_wp2_with fail
      refine ⟨rfl, ?_⟩
      show PRes c V w RR _ _
      rw [HRe.out]
      exact ⟨HK5.out, rfl⟩
     | ok y =>
      obtain ⟨y0, q1⟩ := y
      have hRf := HRf.out
      rw [hit] at HE1 hRf
      have HE : Hid _ := HE1
      clear HE1 hit HRf
      have HRf : Hid (RR = bodB V a D (.ok (y0, q1))) := hRf
      clear hRf
      refine Calls.mono HE.out ?_
      rintro r W5 ⟨hk5, ⟨cs, rfl, hy⟩, hp5⟩
      have HF5 : Hid _ := ft_call HF3.out hk5 hp5 hy (by omega) (by omega) (by omega)
      clear hy hk5 hp5 HE HF3
      refine hK.out _ _ (fun _ => (nb_cells HF5.out.1.2.2.2.2.1).2.2.2.2.2.1) ?_
      clear hK K
      try simp only [sm]
      refine appT 6 HF5.out (by omega) (by omega) (by omega) (fun ao3 ln3 cp3 W7 HF7 => ?_)
      have HF7 : Hid _ := HF7
      clear HF5
      try simp only [sm]
      go_wp2_with fail
      cases hb5 : V.is sEnd q1 with
      | true =>
       have HN : Hid (Calls Tryz.prog 166 #[.pointer (some ⟨c, 0, none⟩), .string ⟨#[101, 110, 100]⟩] W7 fun r w' => r = .returned (.tuple #[]) ∧ Kept (fun b => b = c) W7 w' ∧ Ps w' c V (q1 + 1)) := need_ok HF7.out.2.2.1 ⟨#[101, 110, 100]⟩ (by decide) hb5
       refine Calls.mono HN.out ?_
       rintro r W9 ⟨rfl, hk9, hp9⟩
       have hR9 := hk9.heap HF7.out.2.2.2.1 (show ¬ w.heap.size = c by omega)
       have hT9 := hk9.heap HF7.out.2.2.2.2.1 (show ¬ T = c by omega)
       have HRe : Hid (RR = .ok (nd 7 (D ++ [y0]) a, q1 + 1)) := by
        show _ = _
        rw [HRf.out, bodB_yes hb5]
       have HF9 : Hid (Kept (fun b => b = c) w W9 ∧ ListIs (fun b => b < T + 1) W9 (D ++ [y0]) (.slice ao3 ln3 cp3) ∧ Ps W9 c V (q1 + 1)) := ⟨HF7.out.2.1.trans hk9, ListIs.kept (hk9.mono (fun b (hb : b = c) => by show b < T + 1; omega)) HF7.out.2.2.2.2.2.list, hp9⟩
       obtain ⟨r0, r1, r2, r3, r4, r5, r6⟩ := nb_cells hR9
       have rf := fun o => nb_frozen hR9 o
       obtain ⟨t0', t1', t2', t3', t4', t5', t6'⟩ := nb_cells hT9
       have n1 : w.heap.size ≠ T := by omega
       have n2 : T ≠ w.heap.size := by omega
       clear hk9 hp9 HN hR9 hT9 HF7 HRf
       go_wp2_with fail
       refine bodyPost_ret (v := .agg (ncs 7 ⟨#[]⟩ 0 0 0 (.slice ao3 ln3 cp3) a).toArray) (by simp [results, Tryz.results188, go_sem, ncs, r0, r1, r2, r3, r4, r5, r6, t0', t1', t2', t3', t4', t5', t6', n1, n2]) rfl ?_
       show PRes c V w RR _ _
       rw [HRe.out]
       refine ⟨?_, ⟨_, rfl, NodeIs.cs.2 ⟨_, rfl, ListIs.mono (fun b (hb : b < w.heap.size) => by show b < T + 1; omega) (ListIs.kept ?_ HF9.out.2.1)⟩⟩, HF9.out.2.2.low (fun k hk => ?_)⟩
       ·repeat refine Kept.set ?_ _ _ _ (Or.inr (Nat.le_refl _))
        exact HF9.out.1
       ·repeat refine Kept.set ?_ _ _ _ (Or.inl (by show w.heap.size < T + 1; omega))
        exact Kept.refl _ _
       ·have hkR : k ≠ w.heap.size := by omega
        repeat rw [set_low _ _ _ hkR]
      | false =>
       have HN : Hid (Calls Tryz.prog 166 #[.pointer (some ⟨c, 0, none⟩), .string ⟨#[101, 110, 100]⟩] W7 fun r w' => r = stopW (V.at q1) 6 ∧ Kept (fun b => b = c) W7 w') := need_bad HF7.out.2.2.1 ⟨#[101, 110, 100]⟩ (by decide) hb5
       refine Calls.mono HN.out ?_
       rintro r W9 ⟨rfl, hk9⟩
       have HF9 : Hid (Kept (fun b => b = c) w W9) := HF7.out.2.1.trans hk9
       have HRe : Hid (RR = .error (V.at q1, 6)) := by
        show _ = _
        rw [HRf.out, bodB_no hb5]
       clear hk9 HN HF7 HRf
       go_wp2_with fail
       refine ⟨rfl, ?_⟩
       show PRes c V w RR _ _
       rw [HRe.out]
       exact ⟨HF9.out, rfl⟩
end Go.Proofs.YtgkgpjbbmnfnmaaGreatDoor
