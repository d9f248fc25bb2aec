/- needPair. -/
import Derived.Test.YtnofmpbdfcolfaaA6
namespace Go.Proofs.Ytnofmpbdfcolfaa
open Go.RowKit
set_option linter.unusedSimpArgs false
set_option linter.unusedVariables false

set_option maxRecDepth 20000 in
set_option maxHeartbeats 8000000 in
theorem needPair_any {E : Ev} (hE : E.Ok) {c nb wb kb : Nat} {w : World} {s : St} (h : Wk E c nb wb kb w s) (hq : ∀ l ∈ s.wt, l.length + 1 ≤ 1000000) (k v : V) :
    Calls Try.prog 57 #[PT c, AV k, AV v] w (Does E c nb wb kb [3, 4, 23, 26, 40] w (needP E.T s k v)) := by
  obtain ⟨t, n⟩ := k
  obtain ⟨t', n'⟩ := v
  have HE : Hid E.Ok := hE
  have HQ : Hid (∀ l ∈ s.wt, l.length + 1 ≤ 1000000) := hq
  have hsm := hE.sm
  obtain ⟨W, HWd⟩ : ∃ W, Hid (W = (w.alloc (.cells #[.int .i64 t, .int .i64 n] 40)).alloc (.cells #[.int .i64 t', .int .i64 n'] 40)) := ⟨_, rfl⟩
  have HK : Hid (Kept No w W) := by show Kept _ _ _; rw [HWd.out]; exact ((Kept.refl _ _).alloc _).alloc _
  have HB1 : Hid (W.heap[w.heap.size]? = some (.cells #[.int .i64 t, .int .i64 n] 40 (0, 0))) := by show _ = _; rw [HWd.out]; exact (Below.heap_alloc _ _ _ (by simp)).trans (World.alloc_heap_new w _)
  have HB2 : Hid (W.heap[w.heap.size + 1]? = some (.cells #[.int .i64 t', .int .i64 n'] 40 (0, 0))) := by show _ = _; rw [HWd.out]; have := World.alloc_heap_new (w.alloc (.cells #[.int .i64 t, .int .i64 n] 40)) (.cells #[.int .i64 t', .int .i64 n'] 40); rwa [World.size_alloc] at this
  have HW : Hid (Wk E c nb wb kb W s) := h.no hE HK.out
  obtain ⟨vs, hv0⟩ := h.ww
  have HV0 : Hid (Wts w E.B wb E.T.length s.wt vs) := hv0
  have HLt : Hid (∀ i, i < E.T.length → ∀ k, (vs.getD i undef).ownBlock = some k → k < w.heap.size) := fun i hi k hk => by
    obtain ⟨_, cc, hc⟩ := (hv0.row i hi).block hk
    exact hp_lt hc
  have hwbl : wb < w.heap.size := hp_lt hv0.hp
  have hcl : c < w.heap.size := hp_lt h.cc
  have hcwb : c ≠ wb := ne_ty h.cc hv0.hp (by decide)
  clear hv0
  obtain ⟨ao, cap, htv, hrd⟩ := HW.out.rd hE
  have HC : Hid (∀ W1, Kept No W W1 → Wk E c nb wb kb W1 s ∧ W1.cell? ⟨w.heap.size, 0, none⟩ = some (.int .i64 t) ∧ W1.cell? ⟨w.heap.size, 1, none⟩ = some (.int .i64 n) ∧ W1.cell? ⟨c, 0, none⟩ = some (.slice ao E.T.length cap) ∧ W1.cell? ⟨c, 1, none⟩ = some (SLN nb E.T.length) ∧ ∀ m, m < E.T.length → W1.cell? ⟨nb, m, none⟩ = some (.bool (s.nd.getD m true))) := fun W1 hW1 => by
    have b := box_cells (hW1.heap HB1.out id)
    have k := HW.out.no HE.out hW1
    refine ⟨k, b.1, b.2, by rw [← htv]; exact k.cells.1, k.cells.2.1, fun m hm => ?_⟩
    rw [cell_of k.nn]; exact bc_get _ _ (by rw [k.nl]; exact hm)
  obtain ⟨hb, HHb⟩ : ∃ hb, Hid (held E.T (t, n) = hb) := ⟨_, rfl⟩
  have HI : Hid (∀ W1, Kept No W W1 → Calls Try.prog 65 #[.slice ao E.T.length cap, AV (t, n)] W1 fun e w' => e = .returned (.bool hb) ∧ Kept No W w') := fun W1 hW1 => by
    have := heldWeakly_any ((HC.out W1 hW1).1.rd HE.out) (by have := hE.sm; omega) (t, n)
    rw [htv, HHb.out] at this
    exact this.mono (fun e w2 ⟨he, hk⟩ => ⟨he, hW1.trans hk⟩)
  obtain ⟨s', HS'⟩ : ∃ s', Hid (needP E.T s (t, n) (t', n') = s') := ⟨_, rfl⟩
  rw [HS'.out]
  clear hrd htv h hq
  go_enter Try.func57, Try.ntmps57
  go_wp2_with fail
  rw [← HWd.out]
  clear HWd
  cases hb
  case false =>
    have HNe : Hid (needP E.T s (t, n) (t', n') = need E.T (need E.T s (t, n)) (t', n')) := by
      show _ = _
      unfold needP; rw [HHb.out]; rfl
    refine region_quiet_class (C := fun w' => Kept No W w') mixed (by kernel_rfl) (Kept.refl _ _).drew ?_
    refine q_op (PT c) (by kernel_rfl) (fun W1 hW1 => by simp [go_sem]) ?_
    try simp only [Act.put, List.setIfInBounds_toArray, List.set_cons_zero, List.set_cons_succ]
    refine q_op (.pointer (some ⟨c, 0, none⟩)) (by kernel_rfl) (fun W1 hW1 => by simp [go_sem]) ?_
    try simp only [Act.put, List.setIfInBounds_toArray, List.set_cons_zero, List.set_cons_succ]
    refine q_op (.pointer (some ⟨c, 0, none⟩)) (by kernel_rfl) (fun W1 hW1 => by simp [go_sem]) ?_
    try simp only [Act.put, List.setIfInBounds_toArray, List.set_cons_zero, List.set_cons_succ]
    refine q_op (.slice ao E.T.length cap) (by kernel_rfl) (fun W1 hW1 => by obtain ⟨-, r0, r1, r2, r3, r4⟩ := HC.out W1 hW1; simp [go_sem, r2]) ?_
    try simp only [Act.put, List.setIfInBounds_toArray, List.set_cons_zero, List.set_cons_succ]
    refine q_op (AV (t, n)) (by kernel_rfl) (fun W1 hW1 => by obtain ⟨-, r0, r1, r2, r3, r4⟩ := HC.out W1 hW1; simp [go_sem, r0, r1]) ?_
    try simp only [Act.put, List.setIfInBounds_toArray, List.set_cons_zero, List.set_cons_succ]
    refine q_call 65 #[.slice ao E.T.length cap, AV (t, n)] (.bool false) (by kernel_rfl) (fun W1 hW1 => by simp [go_sem]) (fun W1 hW1 => HI.out W1 hW1) ?_
    try simp only [Act.put, List.setIfInBounds_toArray, List.set_cons_zero, List.set_cons_succ]
    refine q_op (.bool false) (by kernel_rfl) (fun W1 hW1 => by simp [go_sem]) ?_
    try simp only [Act.put, List.setIfInBounds_toArray, List.set_cons_zero, List.set_cons_succ]
    go_big_quiet_skip
    try simp only [Act.put, List.setIfInBounds_toArray, List.set_cons_zero, List.set_cons_succ]
    go_big_quiet_skip
    try simp only [Act.put, List.setIfInBounds_toArray, List.set_cons_zero, List.set_cons_succ]
    go_big_quiet_skip
    try simp only [Act.put, List.setIfInBounds_toArray, List.set_cons_zero, List.set_cons_succ]
    go_big_quiet_skip
    try simp only [Act.put, List.setIfInBounds_toArray, List.set_cons_zero, List.set_cons_succ]
    go_big_quiet_skip
    try simp only [Act.put, List.setIfInBounds_toArray, List.set_cons_zero, List.set_cons_succ]
    go_big_quiet_skip
    try simp only [Act.put, List.setIfInBounds_toArray, List.set_cons_zero, List.set_cons_succ]
    go_big_quiet_skip
    try simp only [Act.put, List.setIfInBounds_toArray, List.set_cons_zero, List.set_cons_succ]
    go_big_quiet_skip
    try simp only [Act.put, List.setIfInBounds_toArray, List.set_cons_zero, List.set_cons_succ]
    go_big_quiet_skip
    try simp only [Act.put, List.setIfInBounds_toArray, List.set_cons_zero, List.set_cons_succ]
    go_big_quiet_skip
    try simp only [Act.put, List.setIfInBounds_toArray, List.set_cons_zero, List.set_cons_succ]
    refine q_op (.bool false) (by kernel_rfl) (fun W1 hW1 => by simp [go_sem]) ?_
    try simp only [Act.put, List.setIfInBounds_toArray, List.set_cons_zero, List.set_cons_succ]
    refine wpQuiet_nil ?_
    intro W3 H3
    have HW3 : Hid (Wk E c nb wb kb W3 s) := (HC.out W3 H3).1
    have HT3 : Hid (Tn [3, 4, 26] E.B w W3) := Tn.no (HK.out.trans H3)
    have HB3 : Hid (W3.heap[w.heap.size + 1]? = some (.cells #[.int .i64 t', .int .i64 n'] 40 (0, 0))) := H3.heap HB2.out id
    obtain ⟨-, r0, r1, -⟩ := HC.out W3 H3
    clear HC HI H3 HW HB1 HB2 HK
    go_wp2_with fail
    go_at_call 28
    refine (need_any HE.out HW3.out (t, n)).mono ?_
    rintro e w2 ⟨⟨v, rfl⟩, h2, h3⟩
    obtain ⟨q0, q1⟩ := box_cells (h3.cells HB3.out (by simp))
    have HD : Hid (Wk E c nb wb kb w2 (need E.T s (t, n)) ∧ Tn [3, 4, 26] E.B w w2) := ⟨h2, HT3.out.trans h3⟩
    clear h2 h3 HW3 HB3 HT3 r0 r1
    go_wp2_with fail
    go_at_call 28
    refine (need_any HE.out HD.out.1 (t', n')).mono ?_
    rintro e w3 ⟨⟨v, rfl⟩, h2, h3⟩
    have HD2 : Hid (Wk E c nb wb kb w3 (need E.T (need E.T s (t, n)) (t', n')) ∧ Tn [3, 4, 26] E.B w w3) := ⟨h2, HD.out.2.trans h3⟩
    clear h2 h3
    go_wp2
    go_end0
    exact ⟨⟨_, rfl⟩, by rw [← HS'.out, HNe.out]; exact HD2.out.1, HD2.out.2.mono (by simp)⟩
  case true =>
    obtain ⟨m, rfl, hm⟩ := held_in HHb.out
    have e1 : (m : Int) + 1 - 1 = (m : Int) := by omega
    have hmi : (m : Int) < (E.T.length : Int) := by omega
    have e2 : IntKind.i64.wrap (m : Int) = (m : Int) := by rw [IntKind.wrap_i64]; omega
    obtain ⟨b, HNb⟩ : ∃ b, Hid (s.nd.getD m true = b) := ⟨_, rfl⟩
    have HNe : Hid (needP E.T s (t, (m : Int) + 1) (t', n') = if b then need E.T (need E.T s (t, (m : Int) + 1)) (t', n') else { s with wt := s.wt.set m (s.wt.getD m [] ++ [(t', n')]) }) := by
      show _ = _
      unfold needP; rw [HHb.out]; simp only [show ((m : Int) + 1).toNat - 1 = m by omega]; rw [HNb.out]; cases b <;> rfl
    refine region_quiet_class (C := fun w' => Kept No W w') mixed (by kernel_rfl) (Kept.refl _ _).drew ?_
    refine q_op (PT c) (by kernel_rfl) (fun W1 hW1 => by simp [go_sem]) ?_
    try simp only [Act.put, List.setIfInBounds_toArray, List.set_cons_zero, List.set_cons_succ]
    refine q_op (.pointer (some ⟨c, 0, none⟩)) (by kernel_rfl) (fun W1 hW1 => by simp [go_sem]) ?_
    try simp only [Act.put, List.setIfInBounds_toArray, List.set_cons_zero, List.set_cons_succ]
    refine q_op (.pointer (some ⟨c, 0, none⟩)) (by kernel_rfl) (fun W1 hW1 => by simp [go_sem]) ?_
    try simp only [Act.put, List.setIfInBounds_toArray, List.set_cons_zero, List.set_cons_succ]
    refine q_op (.slice ao E.T.length cap) (by kernel_rfl) (fun W1 hW1 => by obtain ⟨-, r0, r1, r2, r3, r4⟩ := HC.out W1 hW1; simp [go_sem, r2]) ?_
    try simp only [Act.put, List.setIfInBounds_toArray, List.set_cons_zero, List.set_cons_succ]
    refine q_op (AV (t, (m : Int) + 1)) (by kernel_rfl) (fun W1 hW1 => by obtain ⟨-, r0, r1, r2, r3, r4⟩ := HC.out W1 hW1; simp [go_sem, r0, r1]) ?_
    try simp only [Act.put, List.setIfInBounds_toArray, List.set_cons_zero, List.set_cons_succ]
    refine q_call 65 #[.slice ao E.T.length cap, AV (t, (m : Int) + 1)] (.bool true) (by kernel_rfl) (fun W1 hW1 => by simp [go_sem]) (fun W1 hW1 => HI.out W1 hW1) ?_
    try simp only [Act.put, List.setIfInBounds_toArray, List.set_cons_zero, List.set_cons_succ]
    refine q_op (.bool true) (by kernel_rfl) (fun W1 hW1 => by simp [go_sem]) ?_
    try simp only [Act.put, List.setIfInBounds_toArray, List.set_cons_zero, List.set_cons_succ]
    refine q_op (PT c) (by kernel_rfl) (fun W1 hW1 => by simp [go_sem]) ?_
    try simp only [Act.put, List.setIfInBounds_toArray, List.set_cons_zero, List.set_cons_succ]
    refine q_op (.pointer (some ⟨c, 0, none⟩)) (by kernel_rfl) (fun W1 hW1 => by simp [go_sem]) ?_
    try simp only [Act.put, List.setIfInBounds_toArray, List.set_cons_zero, List.set_cons_succ]
    refine q_op (.pointer (some ⟨c, 1, none⟩)) (by kernel_rfl) (fun W1 hW1 => by simp [go_sem]) ?_
    try simp only [Act.put, List.setIfInBounds_toArray, List.set_cons_zero, List.set_cons_succ]
    refine q_op (SLN nb E.T.length) (by kernel_rfl) (fun W1 hW1 => by obtain ⟨-, r0, r1, r2, r3, r4⟩ := HC.out W1 hW1; simp [go_sem, r3]) ?_
    try simp only [Act.put, List.setIfInBounds_toArray, List.set_cons_zero, List.set_cons_succ]
    refine q_op (.pointer (some ⟨w.heap.size, 1, none⟩)) (by kernel_rfl) (fun W1 hW1 => by simp [go_sem]) ?_
    try simp only [Act.put, List.setIfInBounds_toArray, List.set_cons_zero, List.set_cons_succ]
    refine q_op (.int .i64 ((m : Int) + 1)) (by kernel_rfl) (fun W1 hW1 => by obtain ⟨-, r0, r1, r2, r3, r4⟩ := HC.out W1 hW1; simp [go_sem, r1]) ?_
    try simp only [Act.put, List.setIfInBounds_toArray, List.set_cons_zero, List.set_cons_succ]
    refine q_op (.int .i64 (m : Int)) (by kernel_rfl) (fun W1 hW1 => by simp [go_sem, e1]; try (rw [IntKind.wrap_i64]; omega)) ?_
    try simp only [Act.put, List.setIfInBounds_toArray, List.set_cons_zero, List.set_cons_succ]
    refine q_op (.pointer (some ⟨nb, m, none⟩)) (by kernel_rfl) (fun W1 hW1 => by simp [go_sem, hm, hmi]) ?_
    try simp only [Act.put, List.setIfInBounds_toArray, List.set_cons_zero, List.set_cons_succ]
    refine q_op (.bool b) (by kernel_rfl) (fun W1 hW1 => by obtain ⟨-, r0, r1, r2, r3, r4⟩ := HC.out W1 hW1; have g := r4 m hm; rw [HNb.out] at g; simp [go_sem, g]) ?_
    try simp only [Act.put, List.setIfInBounds_toArray, List.set_cons_zero, List.set_cons_succ]
    refine q_op (.bool (!b)) (by kernel_rfl) (fun W1 hW1 => by simp [go_sem]) ?_
    try simp only [Act.put, List.setIfInBounds_toArray, List.set_cons_zero, List.set_cons_succ]
    refine q_op (.bool (!b)) (by kernel_rfl) (fun W1 hW1 => by simp [go_sem]) ?_
    try simp only [Act.put, List.setIfInBounds_toArray, List.set_cons_zero, List.set_cons_succ]
    cases b
    case true =>
      refine wpQuiet_nil ?_
      intro W3 H3
      have HW3 : Hid (Wk E c nb wb kb W3 s) := (HC.out W3 H3).1
      have HT3 : Hid (Tn [3, 4, 26] E.B w W3) := Tn.no (HK.out.trans H3)
      have HB3 : Hid (W3.heap[w.heap.size + 1]? = some (.cells #[.int .i64 t', .int .i64 n'] 40 (0, 0))) := H3.heap HB2.out id
      obtain ⟨-, r0, r1, -⟩ := HC.out W3 H3
      clear HC HI H3 HW HB1 HB2 HK
      go_wp2_with fail
      go_at_call 28
      refine (need_any HE.out HW3.out (t, (m : Int) + 1)).mono ?_
      rintro e w2 ⟨⟨v, rfl⟩, h2, h3⟩
      obtain ⟨q0, q1⟩ := box_cells (h3.cells HB3.out (by simp))
      have HD : Hid (Wk E c nb wb kb w2 (need E.T s (t, (m : Int) + 1)) ∧ Tn [3, 4, 26] E.B w w2) := ⟨h2, HT3.out.trans h3⟩
      clear h2 h3 HW3 HB3 HT3 r0 r1
      go_wp2_with fail
      go_at_call 28
      refine (need_any HE.out HD.out.1 (t', n')).mono ?_
      rintro e w3 ⟨⟨v, rfl⟩, h2, h3⟩
      have HD2 : Hid (Wk E c nb wb kb w3 (need E.T (need E.T s (t, (m : Int) + 1)) (t', n')) ∧ Tn [3, 4, 26] E.B w w3) := ⟨h2, HD.out.2.trans h3⟩
      clear h2 h3
      go_wp2
      go_end0
      exact ⟨⟨_, rfl⟩, by rw [← HS'.out, HNe.out]; first | exact HD2.out.1 | simpa using HD2.out.1, HD2.out.2.mono (by simp)⟩
    case false =>
      refine wpQuiet_nil ?_
      intro W3 H3
      have HW3 : Hid (Wk E c nb wb kb W3 s) := (HC.out W3 H3).1
      have HT3 : Hid (Tn [3, 4, 23, 26, 40] E.B w W3) := Tn.no (HK.out.trans H3)
      have HB3 : Hid (W3.heap[w.heap.size + 1]? = some (.cells #[.int .i64 t', .int .i64 n'] 40 (0, 0))) := H3.heap HB2.out id
      have hv : Wts W3 E.B wb E.T.length s.wt vs := HV0.out.tn (Tn.no (ts := []) (B := 0) (HK.out.trans H3)) (by simp) (by simp)
      have HV : Hid (Wts W3 E.B wb E.T.length s.wt vs) := hv
      obtain ⟨ao3, cp3, hsv⟩ := (hv.row m hm).form
      have hlen : (s.wt.getD m []).length + 1 ≤ 1000000 := by
        refine HQ.out _ ?_
        have hml : m < s.wt.length := by rw [hv.wl]; exact hm
        simp only [List.getD, List.getElem?_eq_getElem hml, Option.getD_some]
        exact List.getElem_mem hml
      obtain ⟨ln3, hln3⟩ : ∃ ln3, (s.wt.getD m []).length = ln3 := ⟨_, rfl⟩
      rw [hln3] at hsv
      have HSV : Hid (vs.getD m undef = .slice ao3 ln3 cp3) := hsv
      have HPS : Hid (PairS c wb w.heap.size (w.heap.size + 1) E.T.length (t, (m : Int) + 1) (t', n') W3) := by
        obtain ⟨-, r0, r1, -⟩ := HC.out W3 H3
        obtain ⟨q0, q1⟩ := box_cells HB3.out
        exact ⟨HW3.out.cells.2.2.1, r0, r1, q0, q1⟩
      have hz := HW3.out.sz hE
      clear HC HI H3 HW HB1 HB2 HK hv hsv hln3
      go_wp2_with fail
      refine wp_region_held_drew (S := fun w' => PairS c wb w.heap.size (w.heap.size + 1) E.T.length (t, (m : Int) + 1) (t', n') w') (by kernel_rfl) ⟨HPS.out.c2, HPS.out.k0, HPS.out.k1, HPS.out.v0, HPS.out.v1⟩ (fun hSS => ?_)
      obtain ⟨W4, HW4⟩ : ∃ W4, Hid (W3.drew = W4) := ⟨_, rfl⟩
      have HF : Hid (Wk E c nb wb kb W4 s ∧ Wts W4 E.B wb E.T.length s.wt vs ∧ Tn [3, 4, 23, 26, 40] E.B w W4) := by
        have hk : Kept No W3 W4 := by rw [← HW4.out]; exact (Kept.refl _ _).drew
        exact ⟨HW3.out.no hE hk, HV.out.tn (Tn.no (ts := []) (B := 0) hk) (by simp) (by simp), HT3.out.trans (Tn.no hk)⟩
      rw [HW4.out] at hSS ⊢
      have hz4 : E.B ≤ W4.heap.size := HF.out.1.sz hE
      have hz5 : w.heap.size + 1 < W4.heap.size := by
        have := hp_lt HB3.out
        have e : W4.heap.size = W3.heap.size := by rw [← HW4.out]; rfl
        omega
      clear HW4 HV HT3 HW3 HB3 HPS hz
      refine wpAnyH_take (i := 0) (v := PT c) rfl (by kernel_rfl) (by kernel_rfl) (by kernel_rfl) (fun _ _ _ h => h) (Or.inl ⟨by rfl, by intro w' hw; go_simp⟩) hSS ?_
      try simp only [Act.put, List.setIfInBounds_toArray, List.set_cons_zero, List.set_cons_succ, List.getElem_toArray, List.getElem_cons_zero, List.getElem_cons_succ]
      refine wpAnyH_take (i := 1) (v := .pointer (some ⟨c, 0, none⟩)) rfl (by kernel_rfl) (by kernel_rfl) (by kernel_rfl) (fun _ _ _ h => h) (Or.inl ⟨by rfl, by intro w' hw; go_simp⟩) hSS ?_
      try simp only [Act.put, List.setIfInBounds_toArray, List.set_cons_zero, List.set_cons_succ, List.getElem_toArray, List.getElem_cons_zero, List.getElem_cons_succ]
      refine wpAnyH_take (i := 2) (v := .pointer (some ⟨c, 2, none⟩)) rfl (by kernel_rfl) (by kernel_rfl) (by kernel_rfl) (fun _ _ _ h => h) (Or.inl ⟨by rfl, by intro w' hw; go_simp⟩) hSS ?_
      try simp only [Act.put, List.setIfInBounds_toArray, List.set_cons_zero, List.set_cons_succ, List.getElem_toArray, List.getElem_cons_zero, List.getElem_cons_succ]
      refine wpAnyH_take (i := 3) (v := SLN wb E.T.length) rfl (by kernel_rfl) (by kernel_rfl) (by kernel_rfl) (fun _ _ _ h => h) (Or.inl ⟨by rfl, by intro w' hw; have g := hw.c2; go_simp⟩) hSS ?_
      try simp only [Act.put, List.setIfInBounds_toArray, List.set_cons_zero, List.set_cons_succ, List.getElem_toArray, List.getElem_cons_zero, List.getElem_cons_succ]
      refine wpAnyH_take (i := 4) (v := .pointer (some ⟨w.heap.size, 1, none⟩)) rfl (by kernel_rfl) (by kernel_rfl) (by kernel_rfl) (fun _ _ _ h => h) (Or.inl ⟨by rfl, by intro w' hw; go_simp⟩) hSS ?_
      try simp only [Act.put, List.setIfInBounds_toArray, List.set_cons_zero, List.set_cons_succ, List.getElem_toArray, List.getElem_cons_zero, List.getElem_cons_succ]
      refine wpAnyH_take (i := 5) (v := .int .i64 ((m : Int) + 1)) rfl (by kernel_rfl) (by kernel_rfl) (by kernel_rfl) (fun _ _ _ h => h) (Or.inl ⟨by rfl, by intro w' hw; have g := hw.k1; dsimp only at g; go_simp⟩) hSS ?_
      try simp only [Act.put, List.setIfInBounds_toArray, List.set_cons_zero, List.set_cons_succ, List.getElem_toArray, List.getElem_cons_zero, List.getElem_cons_succ]
      refine wpAnyH_take (i := 6) (v := .int .i64 (m : Int)) rfl (by kernel_rfl) (by kernel_rfl) (by kernel_rfl) (fun _ _ _ h => h) (Or.inl ⟨by rfl, by intro w' hw; go_simp⟩) hSS ?_
      try simp only [Act.put, List.setIfInBounds_toArray, List.set_cons_zero, List.set_cons_succ, List.getElem_toArray, List.getElem_cons_zero, List.getElem_cons_succ]
      refine wpAnyH_take (i := 7) (v := PT c) rfl (by kernel_rfl) (by kernel_rfl) (by kernel_rfl) (fun _ _ _ h => h) (Or.inl ⟨by rfl, by intro w' hw; go_simp⟩) hSS ?_
      try simp only [Act.put, List.setIfInBounds_toArray, List.set_cons_zero, List.set_cons_succ, List.getElem_toArray, List.getElem_cons_zero, List.getElem_cons_succ]
      refine wpAnyH_take (i := 8) (v := .pointer (some ⟨c, 0, none⟩)) rfl (by kernel_rfl) (by kernel_rfl) (by kernel_rfl) (fun _ _ _ h => h) (Or.inl ⟨by rfl, by intro w' hw; go_simp⟩) hSS ?_
      try simp only [Act.put, List.setIfInBounds_toArray, List.set_cons_zero, List.set_cons_succ, List.getElem_toArray, List.getElem_cons_zero, List.getElem_cons_succ]
      refine wpAnyH_take (i := 9) (v := .pointer (some ⟨c, 2, none⟩)) rfl (by kernel_rfl) (by kernel_rfl) (by kernel_rfl) (fun _ _ _ h => h) (Or.inl ⟨by rfl, by intro w' hw; go_simp⟩) hSS ?_
      try simp only [Act.put, List.setIfInBounds_toArray, List.set_cons_zero, List.set_cons_succ, List.getElem_toArray, List.getElem_cons_zero, List.getElem_cons_succ]
      refine wpAnyH_take (i := 10) (v := SLN wb E.T.length) rfl (by kernel_rfl) (by kernel_rfl) (by kernel_rfl) (fun _ _ _ h => h) (Or.inl ⟨by rfl, by intro w' hw; have g := hw.c2; go_simp⟩) hSS ?_
      try simp only [Act.put, List.setIfInBounds_toArray, List.set_cons_zero, List.set_cons_succ, List.getElem_toArray, List.getElem_cons_zero, List.getElem_cons_succ]
      refine wpAnyH_take (i := 11) (v := .pointer (some ⟨w.heap.size, 1, none⟩)) rfl (by kernel_rfl) (by kernel_rfl) (by kernel_rfl) (fun _ _ _ h => h) (Or.inl ⟨by rfl, by intro w' hw; go_simp⟩) hSS ?_
      try simp only [Act.put, List.setIfInBounds_toArray, List.set_cons_zero, List.set_cons_succ, List.getElem_toArray, List.getElem_cons_zero, List.getElem_cons_succ]
      refine wpAnyH_take (i := 12) (v := .int .i64 ((m : Int) + 1)) rfl (by kernel_rfl) (by kernel_rfl) (by kernel_rfl) (fun _ _ _ h => h) (Or.inl ⟨by rfl, by intro w' hw; have g := hw.k1; dsimp only at g; go_simp⟩) hSS ?_
      try simp only [Act.put, List.setIfInBounds_toArray, List.set_cons_zero, List.set_cons_succ, List.getElem_toArray, List.getElem_cons_zero, List.getElem_cons_succ]
      refine wpAnyH_take (i := 13) (v := .int .i64 (m : Int)) rfl (by kernel_rfl) (by kernel_rfl) (by kernel_rfl) (fun _ _ _ h => h) (Or.inl ⟨by rfl, by intro w' hw; go_simp⟩) hSS ?_
      try simp only [Act.put, List.setIfInBounds_toArray, List.set_cons_zero, List.set_cons_succ, List.getElem_toArray, List.getElem_cons_zero, List.getElem_cons_succ]
      refine wpAnyH_take (i := 14) (v := .pointer (some ⟨wb, m, none⟩)) rfl (by kernel_rfl) (by kernel_rfl) (by kernel_rfl) (fun _ _ _ h => h) (Or.inl ⟨by rfl, by intro w' hw; go_simp⟩) hSS ?_
      try simp only [Act.put, List.setIfInBounds_toArray, List.set_cons_zero, List.set_cons_succ, List.getElem_toArray, List.getElem_cons_zero, List.getElem_cons_succ]
      refine wpAnyH_take (i := 16) (v := AV (t', n')) rfl (by kernel_rfl) (by kernel_rfl) (by kernel_rfl) (fun _ _ _ h => h) (Or.inl ⟨by rfl, by intro w' hw; have g := hw.v0; have g2 := hw.v1; dsimp only at g g2; go_simp⟩) hSS ?_
      try simp only [Act.put, List.setIfInBounds_toArray, List.set_cons_zero, List.set_cons_succ, List.getElem_toArray, List.getElem_cons_zero, List.getElem_cons_succ]
      have HRc : Hid (W4.cell? ⟨wb, m, none⟩ = some (.slice ao3 ln3 cp3)) := by
        show _ = _
        rw [cell_of HF.out.2.1.hp, ← HSV.out]
        have hml : m < vs.length := by rw [HF.out.2.1.vl]; exact hm
        simp [List.getD, hml]
      have HSd : Hid _ := hSS
      have hlx : ∀ x, x = c ∨ x = w.heap.size ∨ x = w.heap.size + 1 → x < W4.heap.size := by
        intro x hx
        omega
      refine wpAnyH_ready (rs := [15, 17]) (by kernel_rfl) (by simp) ?_
      refine AllReadyH.cons rfl (fun K hK => ?_) (AllReadyH.cons rfl (fun K hK => ?_) AllReadyH.nil)
      · obtain ⟨-, -⟩ : True ∧ True := ⟨trivial, trivial⟩
        have g := HRc.out
        go_simp
        refine hK.out _ _ HSd.out (fun hSS => ?_)
        clear hK K g
        try simp only [Act.put, List.setIfInBounds_toArray, List.set_cons_zero, List.set_cons_succ, List.getElem_toArray, List.getElem_cons_zero, List.getElem_cons_succ]
        refine wpAnyH_ready (rs := [17]) (by kernel_rfl) (by simp) ?_
        refine AllReadyH.cons rfl (fun K hK => ?_) AllReadyH.nil
        go_simp
        refine hK.out _ _ (HSd.out.turn (fun x hx => Below.heap_alloc _ _ _ (hlx x hx))) (fun hSS => ?_)
        clear hK K
        try simp only [Act.put, List.setIfInBounds_toArray, List.set_cons_zero, List.set_cons_succ, List.getElem_toArray, List.getElem_cons_zero, List.getElem_cons_succ]
        refine wpAnyH_ready (rs := [18]) (by kernel_rfl) (by simp) ?_
        refine AllReadyH.cons rfl (fun K hK => ?_) AllReadyH.nil
        rw [if_pos (by rfl)]
        refine app_valO _ _ rfl (v := vs.getD m undef) (by rw [HSV.out]; rfl) (World.ownsRow.alloc (HF.out.2.1.row m hm) _) W4.heap.size (t', n') rfl (World.alloc_heap_new W4 _) hlen (by rw [World.size_alloc]; omega) (fun v' W6 hr6 hg6 ho6 => ?_)
        obtain ⟨ao6, cp6, rfl⟩ := hr6.form
        obtain ⟨ln6, hln6⟩ : ∃ ln6, (s.wt.getD m [] ++ [(t', n')]).length = ln6 := ⟨_, rfl⟩
        rw [hln6] at hr6 ho6 ⊢
        have HG := HF.out.1.grow HE.out hm HF.out.2.1 hr6 hg6 ho6
        have hwb6 : W6.heap[wb]? = some (.cells vs.toArray 23 (0, 0)) := by
          rw [hg6.block wb (by rw [World.size_alloc]; exact Nat.lt_succ_of_lt (hp_lt HF.out.2.1.hp)) (fun e => ?_)]
          · exact (Below.heap_alloc W4 _ _ (hp_lt HF.out.2.1.hp)).trans HF.out.2.1.hp
          · obtain ⟨_, cc, hc⟩ := (HF.out.2.1.row m hm).block e.symm
            exact absurd rfl (ne_ty hc HF.out.2.1.hp (by decide))
        have HG : Hid _ := HG
        have fz := fun o => frozen_of hwb6 o
        have hc6 : W6.cell? ⟨wb, m, none⟩ = some (vs.getD m undef) := by
          rw [cell_of hwb6]
          have hml : m < vs.length := by rw [HF.out.2.1.vl]; exact hm
          simp [List.getD, hml]
        rw [HSV.out] at hc6
        have hS6 : PairS c wb w.heap.size (w.heap.size + 1) E.T.length (t, (m : Int) + 1) (t', n') W6 := by
          refine HSd.out.turn (fun x hx => ?_)
          rw [hg6.block x (by rw [World.size_alloc]; exact Nat.lt_succ_of_lt (hlx x hx)) (fun e => ?_)]
          · exact Below.heap_alloc W4 _ _ (hlx x hx)
          · have h1 := HLt.out m hm x e.symm
            obtain ⟨_, cc, hc⟩ := (HF.out.2.1.row m hm).block e.symm
            have h2 : x ≠ c := ne_ty hc HF.out.1.cc (by decide)
            omega
        have HS6 : Hid (PairS c wb w.heap.size (w.heap.size + 1) E.T.length (t, (m : Int) + 1) (t', n') W6) := hS6
        refine hK.out _ _ hS6 (fun hSS => ?_)
        clear hK K hS6
        try simp only [Act.put, List.setIfInBounds_toArray, List.set_cons_zero, List.set_cons_succ, List.getElem_toArray, List.getElem_cons_zero, List.getElem_cons_succ]
        refine wpAnyH_take (i := 19) (v := .pointer (some ⟨wb, m, none⟩)) rfl (by kernel_rfl) (by kernel_rfl) (by kernel_rfl) (fun _ _ _ h => h) (Or.inl ⟨by rfl, by intro w' hw; go_simp⟩) hSS ?_
        try simp only [Act.put, List.setIfInBounds_toArray, List.set_cons_zero, List.set_cons_succ, List.getElem_toArray, List.getElem_cons_zero, List.getElem_cons_succ]
        refine wpAnyH_ready (rs := [20]) (by kernel_rfl) (by simp) ?_
        refine AllReadyH.cons rfl (fun K hK => ?_) AllReadyH.nil
        go_simp
        try go_wp2_with fail
        refine hK.out _ _ (HS6.out.turn (fun x hx => Below.heap_setCell _ _ _ _ (by show x ≠ wb; omega))) (fun hSS => ?_)
        clear hK K
        try simp only [Act.put, List.setIfInBounds_toArray, List.set_cons_zero, List.set_cons_succ, List.getElem_toArray, List.getElem_cons_zero, List.getElem_cons_succ]
        refine wpAnyH_done (by kernel_rfl) ?_ _
        go_wp2
        refine bodyPost_ret (results_none rfl _ _ _) rfl ⟨⟨_, rfl⟩, by rw [← HS'.out, HNe.out]; exact HG.out.1, HF.out.2.2.trans (HG.out.2.mono (by simp))⟩
      · go_simp
        refine hK.out _ _ (HSd.out.turn (fun x hx => Below.heap_alloc _ _ _ (hlx x hx))) (fun hSS => ?_)
        clear hK K
        try simp only [Act.put, List.setIfInBounds_toArray, List.set_cons_zero, List.set_cons_succ, List.getElem_toArray, List.getElem_cons_zero, List.getElem_cons_succ]
        refine wpAnyH_ready (rs := [15]) (by kernel_rfl) (by simp) ?_
        refine AllReadyH.cons rfl (fun K hK => ?_) AllReadyH.nil
        have g : (W4.alloc (.cells #[.int .i64 t', .int .i64 n'] 40)).cell? ⟨wb, m, none⟩ = some (.slice ao3 ln3 cp3) := (World.cell?_of_block (Below.heap_alloc W4 _ wb (hp_lt HF.out.2.1.hp))).trans HRc.out
        go_simp
        refine hK.out _ _ (HSd.out.turn (fun x hx => Below.heap_alloc _ _ _ (hlx x hx))) (fun hSS => ?_)
        clear hK K g
        try simp only [Act.put, List.setIfInBounds_toArray, List.set_cons_zero, List.set_cons_succ, List.getElem_toArray, List.getElem_cons_zero, List.getElem_cons_succ]
        refine wpAnyH_ready (rs := [18]) (by kernel_rfl) (by simp) ?_
        refine AllReadyH.cons rfl (fun K hK => ?_) AllReadyH.nil
        rw [if_pos (by rfl)]
        refine app_valO _ _ rfl (v := vs.getD m undef) (by rw [HSV.out]; rfl) (World.ownsRow.alloc (HF.out.2.1.row m hm) _) W4.heap.size (t', n') rfl (World.alloc_heap_new W4 _) hlen (by rw [World.size_alloc]; omega) (fun v' W6 hr6 hg6 ho6 => ?_)
        obtain ⟨ao6, cp6, rfl⟩ := hr6.form
        obtain ⟨ln6, hln6⟩ : ∃ ln6, (s.wt.getD m [] ++ [(t', n')]).length = ln6 := ⟨_, rfl⟩
        rw [hln6] at hr6 ho6 ⊢
        have HG := HF.out.1.grow HE.out hm HF.out.2.1 hr6 hg6 ho6
        have hwb6 : W6.heap[wb]? = some (.cells vs.toArray 23 (0, 0)) := by
          rw [hg6.block wb (by rw [World.size_alloc]; exact Nat.lt_succ_of_lt (hp_lt HF.out.2.1.hp)) (fun e => ?_)]
          · exact (Below.heap_alloc W4 _ _ (hp_lt HF.out.2.1.hp)).trans HF.out.2.1.hp
          · obtain ⟨_, cc, hc⟩ := (HF.out.2.1.row m hm).block e.symm
            exact absurd rfl (ne_ty hc HF.out.2.1.hp (by decide))
        have HG : Hid _ := HG
        have fz := fun o => frozen_of hwb6 o
        have hc6 : W6.cell? ⟨wb, m, none⟩ = some (vs.getD m undef) := by
          rw [cell_of hwb6]
          have hml : m < vs.length := by rw [HF.out.2.1.vl]; exact hm
          simp [List.getD, hml]
        rw [HSV.out] at hc6
        have hS6 : PairS c wb w.heap.size (w.heap.size + 1) E.T.length (t, (m : Int) + 1) (t', n') W6 := by
          refine HSd.out.turn (fun x hx => ?_)
          rw [hg6.block x (by rw [World.size_alloc]; exact Nat.lt_succ_of_lt (hlx x hx)) (fun e => ?_)]
          · exact Below.heap_alloc W4 _ _ (hlx x hx)
          · have h1 := HLt.out m hm x e.symm
            obtain ⟨_, cc, hc⟩ := (HF.out.2.1.row m hm).block e.symm
            have h2 : x ≠ c := ne_ty hc HF.out.1.cc (by decide)
            omega
        have HS6 : Hid (PairS c wb w.heap.size (w.heap.size + 1) E.T.length (t, (m : Int) + 1) (t', n') W6) := hS6
        refine hK.out _ _ hS6 (fun hSS => ?_)
        clear hK K hS6
        try simp only [Act.put, List.setIfInBounds_toArray, List.set_cons_zero, List.set_cons_succ, List.getElem_toArray, List.getElem_cons_zero, List.getElem_cons_succ]
        refine wpAnyH_take (i := 19) (v := .pointer (some ⟨wb, m, none⟩)) rfl (by kernel_rfl) (by kernel_rfl) (by kernel_rfl) (fun _ _ _ h => h) (Or.inl ⟨by rfl, by intro w' hw; go_simp⟩) hSS ?_
        try simp only [Act.put, List.setIfInBounds_toArray, List.set_cons_zero, List.set_cons_succ, List.getElem_toArray, List.getElem_cons_zero, List.getElem_cons_succ]
        refine wpAnyH_ready (rs := [20]) (by kernel_rfl) (by simp) ?_
        refine AllReadyH.cons rfl (fun K hK => ?_) AllReadyH.nil
        go_simp
        try go_wp2_with fail
        refine hK.out _ _ (HS6.out.turn (fun x hx => Below.heap_setCell _ _ _ _ (by show x ≠ wb; omega))) (fun hSS => ?_)
        clear hK K
        try simp only [Act.put, List.setIfInBounds_toArray, List.set_cons_zero, List.set_cons_succ, List.getElem_toArray, List.getElem_cons_zero, List.getElem_cons_succ]
        refine wpAnyH_done (by kernel_rfl) ?_ _
        go_wp2
        refine bodyPost_ret (results_none rfl _ _ _) rfl ⟨⟨_, rfl⟩, by rw [← HS'.out, HNe.out]; exact HG.out.1, HF.out.2.2.trans (HG.out.2.mono (by simp))⟩
end Go.Proofs.Ytnofmpbdfcolfaa
