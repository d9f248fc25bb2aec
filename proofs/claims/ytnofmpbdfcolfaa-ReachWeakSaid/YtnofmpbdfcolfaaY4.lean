/- ReachWeak. -/
import Derived.Test.YtnofmpbdfcolfaaY2
import Derived.Test.YtnofmpbdfcolfaaF1
import Derived.Deep.DeepCutAuto
namespace Go.Proofs.Ytnofmpbdfcolfaa
open Go.RowKit Go.Shelf
set_option linter.unusedSimpArgs false
set_option linter.unusedVariables false

set_option maxRecDepth 20000 in
set_option maxHeartbeats 16000000 in
theorem ReachWeak_any {w : World} {tv rv : Value} {T : List Th} {R : List V} (hT : RdT w tv T) (hR : RdV w rv R) (hn : T.length ≤ 140737488355328) (hRn : R.length ≤ 140737488355328) (hs : ∀ t ∈ T, t.sl.length ≤ 140737488355328) :
    Calls Try.prog 9 #[.agg #[tv, rv]] w fun e w' => e = .returned (.bool true) ∧ Kept No w w' := by
  have HT : Hid (RdT w tv T) := hT
  have HR : Hid (RdV w rv R) := hR
  have HAl : Hid (∀ W, Calls Try.prog 11 #[] W fun e w' => e = .returned (.bool true) ∧ Kept No W w') := fun W => alive_any W
  have HBd : Hid (smallB T R = true → T.length ≤ 60 ∧ R.length ≤ 600 ∧ ∀ t ∈ T, t.sl.length ≤ 600) := small_bd
  have HSm : Hid (∀ X, Kept No w X → Calls Try.prog 10 #[.agg #[tv, rv]] X fun e w' => e = .returned (.bool (smallB T R)) ∧ Kept No X w') := fun X hX => Small_any (hT.no hX) (hR.no hX) hn hRn hs
  obtain ⟨ao, cap, htv, _⟩ := hT
  obtain ⟨ro, rc, hrv, _⟩ := hR
  subst htv hrv
  obtain ⟨W, HWd⟩ : ∃ W, Hid (W = w.alloc (.cells #[.slice ao T.length cap, .slice ro R.length rc] 25)) := ⟨_, rfl⟩
  have HK : Hid (Kept No w W) := by show Kept _ _ _; rw [HWd.out]; exact (Kept.refl _ _).alloc _
  have HGx : Hid (W.heap[w.heap.size]? = some (.cells #[.slice ao T.length cap, .slice ro R.length rc] 25 (0, 0))) := by show _ = _; rw [HWd.out]; exact World.alloc_heap_new w _
  have HGc : Hid (∀ X, Kept No W X → X.cell? ⟨w.heap.size, 0, none⟩ = some (.slice ao T.length cap) ∧ X.cell? ⟨w.heap.size, 1, none⟩ = some (.slice ro R.length rc)) := fun X hX => by
    have hx := hX.heap HGx.out id
    exact ⟨by rw [cell_of hx]; rfl, by rw [cell_of hx]; rfl⟩
  obtain ⟨g0, g1⟩ := HGc.out W (Kept.refl _ _)
  have HC : Hid _ := HSm.out W HK.out
  obtain ⟨sm, HSe⟩ : ∃ sm, Hid (smallB T R = sm) := ⟨_, rfl⟩
  rw [HSe.out] at HC HBd
  clear HSm HSe hs hn hRn
  go_enter Try.func9, Try.ntmps9
  go_wp2_with (first | rw [← HWd.out])
  refine Calls.mono HC.out ?_
  rintro e w1 ⟨rfl, hk1⟩
  have HK1 : Hid (Kept No W w1) := hk1
  obtain ⟨g2, g3⟩ := HGc.out w1 hk1
  clear hk1 HC g0 g1 HWd
  cases sm
  · go_wp2_with fail
    go_at_call 11
    refine Calls.mono (HAl.out _) ?_
    rintro e w3 ⟨rfl, hk3⟩
    have HK3 : Hid (Kept No w w3) := HK.out.trans (HK1.out.trans hk3)
    clear hk3
    go_wp2
    go_ret
    exact ⟨rfl, HK3.out⟩
  obtain ⟨hn60, hR600, hs600⟩ := HBd.out rfl
  have HSl : Hid (∀ t ∈ T, t.sl.length ≤ 600) := hs600
  clear hs600 HBd
  have HC2 : Hid (Calls Try.prog 16 #[AG ao T.length cap ro R.length rc] w1 fun e w' => e = .returned (.bool (rGraph T R)) ∧ Kept No w1 w') := RRight_any (HT.out.no (HK.out.trans HK1.out)) (HR.out.no (HK.out.trans HK1.out)) (by omega) (fun t ht => by have := HSl.out t ht; omega) (by omega)
  obtain ⟨rt, HRe⟩ : ∃ rt, Hid (rGraph T R = rt) := ⟨_, rfl⟩
  rw [HRe.out] at HC2
  go_wp2_with fail
  refine Calls.mono HC2.out ?_
  rintro e w2 ⟨rfl, hk2⟩
  have HK2 : Hid (Kept No W w2) := HK1.out.trans hk2
  obtain ⟨g4, g5⟩ := HGc.out w2 HK2.out
  clear hk2 HC2 g2 g3 HK1
  cases rt
  · go_wp2_with fail
    go_at_call 11
    refine Calls.mono (HAl.out _) ?_
    rintro e w3 ⟨rfl, hk3⟩
    have HK3 : Hid (Kept No w w3) := HK.out.trans (HK2.out.trans hk3)
    clear hk3
    go_wp2
    go_ret
    exact ⟨rfl, HK3.out⟩
  have HOk : Hid (∀ h, h < T.length → okH T h) := (right_iff.1 HRe.out).1
  have HC3 : Hid _ := Collect_any (HT.out.no (HK.out.trans HK2.out)) (HR.out.no (HK.out.trans HK2.out)) (by omega) (fun t ht => by have := HSl.out t ht; omega) (by omega)
  go_wp2_with fail
  refine Calls.mono HC3.out ?_
  rintro e w3 ⟨lv, pv, ev, D, rfl, nb, rfl, hnb, hpd, hir, hen, hk3⟩
  obtain ⟨po, pc, rfl⟩ := hir.form
  obtain ⟨eo, ec, rfl⟩ := hen.form
  have HPd : Hid (Pd T (strong T R []) D) := hpd
  rw [hdl_len] at hir
  obtain ⟨LE, HLE⟩ : ∃ LE, Hid (LE = clrTo T (strong T R []) (strong T R (hdl D)) T.length) := ⟨_, rfl⟩
  rw [← HLE.out] at hen
  rw [hdl_len, ← HLE.out]
  have HLn : Hid ((strong T R (hdl D)).length = T.length) := strong_len T R _
  obtain ⟨w4, HW4⟩ : ∃ X, Hid (X = w3.alloc (.cells #[SLN nb T.length, .slice po D.length pc, .slice eo LE.length ec] 37)) := ⟨_, rfl⟩
  have hk4 : Kept No w3 w4 := by rw [HW4.out]; exact (Kept.refl _ _).alloc _
  have hb4 : w4.heap[w3.heap.size]? = some (.cells #[SLN nb T.length, .slice po D.length pc, .slice eo LE.length ec] 37 (0, 0)) := by rw [HW4.out]; exact World.alloc_heap_new w3 _
  have HK4 : Hid (Kept No W w4) := HK2.out.trans (hk3.trans hk4)
  have HS5 : Hid (Calls Try.prog 13 #[AG ao T.length cap ro R.length rc, .slice none 0 0] w4 fun e w' => ∃ nb, e = .returned (SLN nb T.length) ∧ w'.heap[nb]? = some (.cells (bc (strong T R [])).toArray 4 (0, 0)) ∧ w4.heap.size ≤ nb ∧ Kept No w4 w') := Strong_any (HT.out.no (HK.out.trans HK4.out)) (HR.out.no (HK.out.trans HK4.out)) ⟨none, 0, rfl, fun j hj => by simp at hj⟩ (by omega) (fun t ht => by have := HSl.out t ht; omega) (by omega) (by simp)
  have HB4 : Hid _ := hb4
  have HE4 : Hid (EnRow w4 w2.heap.size (.slice eo LE.length ec) LE) := hen.no hk4
  obtain ⟨q4, q5⟩ := HGc.out w4 HK4.out
  have hLEn : LE.length ≤ 60000 := by
    have := clrTo_len T (strong T R []) (strong T R (hdl D)) (fun i => by
      by_cases hi : i < T.length
      · rw [thAt_eq hi]; have := HSl.out T[i] (List.getElem_mem hi); omega
      · unfold thAt; simp [List.getD, hi]) T.length
    rw [HLE.out]; omega
  clear hk4 hb4 hnb hir hen hpd hk3 HC3 g4 g5
  go_wp2_with (first | rw [← HW4.out])
  refine Calls.mono HS5.out ?_
  rintro e w5 ⟨n5, rfl, hn5, hs5, hk5⟩
  have HK5w : Hid (Kept No W w5) := HK4.out.trans hk5
  have HF5 : Hid (∀ X, Kept No w5 X → ∀ j, j < T.length → X.cell? ⟨n5, j, none⟩ = some (.bool ((strong T R []).getD j true))) := fun X hX j hj => by
    rw [cell_of (hX.heap hn5 id)]; exact bc_get _ _ (by rw [strong_len]; exact hj)
  have HB5 : Hid (∀ X, Kept No w5 X → X.cell? ⟨w3.heap.size, 2, none⟩ = some (.slice eo LE.length ec)) := fun X hX => by
    have hx := hX.heap (hk5.heap HB4.out id) id
    rw [cell_of hx]; rfl
  have HE5 : Hid (∀ X, Kept No w5 X → ∀ j (hj : j < LE.length), ∃ b, eo = some ⟨b, 0, none⟩ ∧ X.cell? ⟨b, j * 2, none⟩ = some (.int .i64 LE[j].1) ∧ X.cell? ⟨b, j * 2 + 1, none⟩ = some (.int .i64 LE[j].2)) := fun X hX j hj => by
    obtain ⟨b, c, e, h1, h2⟩ := ((HE4.out.no hk5).no hX).at hj
    injection e with e1 e2 e3
    exact ⟨b, e1, h1, h2⟩
  have HTh : Hid (∀ X, Kept No w X → ∀ j (hj : j < T.length), ∃ b off so sc, ao = some ⟨b, off, none⟩ ∧ X.cell? ⟨b, off + j * 5, none⟩ = some (.int .i64 (thAt T j).kind) ∧ X.cell? ⟨b, off + j * 5 + 1, none⟩ = some (.int .i64 (thAt T j).weak) ∧ X.cell? ⟨b, off + j * 5 + 2, none⟩ = some (.int .i64 (thAt T j).arr) ∧ X.cell? ⟨b, off + j * 5 + 3, none⟩ = some (.slice so (thAt T j).sl.length sc) ∧ X.cell? ⟨b, off + j * 5 + 4, none⟩ = some (.int .i64 (thAt T j).fin) ∧ RdV X (.slice so (thAt T j).sl.length sc) (thAt T j).sl ∧ (thAt T j).sl.length ≤ 600) := fun X hX j hj => by
    obtain ⟨ao', cap', e, hq⟩ := HT.out.no hX
    injection e with e1 e2 e3
    subst e1
    obtain ⟨b, off, sv, e2, h1, h2, h3, h4, h5, h6⟩ := hq j hj
    rw [thAt_eq hj]
    obtain ⟨so, sc, rfl, h7⟩ := h6
    exact ⟨b, off, so, sc, e2, h1, h2, h3, h4, h5, ⟨so, sc, rfl, h7⟩, HSl.out _ (List.getElem_mem hj)⟩
  have HWk : Hid (∀ X, Kept No w X → ∀ v, Calls Try.prog 24 #[AG ao T.length cap ro R.length rc, AV v] X fun e w' => e = .returned (.bool (held T v)) ∧ Kept No X w') := fun X hX v => RWeakly_any (HT.out.no hX) (by omega) v
  have HTold : Hid (∀ k (hk : k < LE.length), _) := fun k hk => clr_told (T := T) (R := R) (M := hdl D) (x := LE[k]) (by rw [← HLE.out]; exact List.getElem_mem hk)
  have HUp : Hid (∀ k (hk : k + 1 < LE.length), lexV LE[k] LE[k + 1]) := fun k hk => by
    have := clrTo_up T (strong T R []) (strong T R (hdl D)) T.length
    rw [← HLE.out] at this
    exact (List.pairwise_iff_getElem.1 this) k (k + 1) (by omega) hk (by omega)
  obtain ⟨q6, q7⟩ := HGc.out w5 HK5w.out
  have q8 := HB5.out w5 (Kept.refl _ _)
  clear hn5 hs5 hk5 q4 q5 HS5 HW4 HRe HLE
  generalize strong T R [] = F at *
  go_wp2_with fail
  go_loopw [5, 6, 7, 8, 9, 10, 24, 25, 26, 27, 28, 29, 30, 31, 32, 33, 34, 35, 36, 37, 38, 39, 40, 41, 42, 43, 44, 45, 46, 47, 48, 49, 50, 51, 52, 53, 54, 55, 56, 57, 58, 59, 60, 61, 62, 63, 64, 65, 66, 67, 68, 69, 70, 71, 72, 73, 74, 75, 76, 77, 78, 79, 80, 81, 82, 83, 84, 85, 86, 87, 88, 89, 90, 91, 92, 93, 94, 95, 96, 97, 98, 99, 100, 101, 102, 103, 104, 105, 106, 107, 108, 109, 110, 111, 112, 113, 114, 115, 116, 117, 118, 119, 120, 121, 122, 123, 124, 125, 126, 127, 128, 129, 130, 131, 132, 133, 134, 135, 136, 137, 138, 139, 140, 141, 142, 143, 144, 145, 146, 147, 148, 149, 150, 151, 152, 153, 154, 155, 156, 157, 158, 159, 160, 161, 162, 163, 164, 165, 166, 167, 168, 169, 170, 171, 172, 173, 174] (fun i _ _ _ _ _ _ _ _ _ _ _ _ _ _ _ _ _ _ _ _ _ _ _ _ _ _ _ _ _ _ _ _ _ _ _ _ _ _ _ _ _ _ _ _ _ _ _ _ _ _ _ _ _ _ _ _ _ _ _ _ _ _ _ _ _ _ _ _ _ _ _ _ _ _ _ _ _ _ _ _ _ _ _ _ _ _ _ _ _ _ _ _ _ _ _ _ _ _ _ _ _ _ _ _ _ _ _ _ _ _ _ _ _ _ _ _ _ _ _ _ _ _ _ _ _ _ _ _ _ _ _ _ _ _ _ _ _ _ _ _ _ _ _ _ _ _ _ _ _ _ _ _ _ _ _ _ wr => ∃ j : Nat, j ≤ LE.length ∧ i = .int .i64 j ∧ Hid (Kept No w5 wr)) (fun i _ _ _ _ _ _ _ _ _ _ _ _ _ _ _ _ _ _ _ _ _ _ _ _ _ _ _ _ _ _ _ _ _ _ _ _ _ _ _ _ _ _ _ _ _ _ _ _ _ _ _ _ _ _ _ _ _ _ _ _ _ _ _ _ _ _ _ _ _ _ _ _ _ _ _ _ _ _ _ _ _ _ _ _ _ _ _ _ _ _ _ _ _ _ _ _ _ _ _ _ _ _ _ _ _ _ _ _ _ _ _ _ _ _ _ _ _ _ _ _ _ _ _ _ _ _ _ _ _ _ _ _ _ _ _ _ _ _ _ _ _ _ _ _ _ _ _ _ _ _ _ _ _ _ _ _ _ => LE.length - (intOf i).toNat)
  case atStart => exact ⟨0, by omega, rfl, Kept.refl _ _⟩
  case round =>
    obtain ⟨k, hk, rfl, HJ⟩ := hrel
    obtain ⟨t0, t1⟩ := HGc.out wr (HK5w.out.trans HJ.out)
    have t2 := HB5.out wr HJ.out
    by_cases hlt : k < LE.length
    · have k1 : (k : Int) < (LE.length : Int) := by omega
      obtain ⟨eb, rfl, e0, e1⟩ := HE5.out wr HJ.out k hlt
      obtain ⟨h, i, hhT, hx, hwk, hi1, hil, hky2, HTd⟩ := HTold.out k hlt
      have HTdH : Hid _ := HTd
      clear HTd
      have HPv : Hid (k = 0 ∨ ∃ k' p1 p2, k = k' + 1 ∧ (∀ X, Kept No w5 X → X.cell? ⟨eb, k' * 2, none⟩ = some (.int .i64 p1) ∧ X.cell? ⟨eb, k' * 2 + 1, none⟩ = some (.int .i64 p2)) ∧ (p1 < (h : Int) + 1 ∨ (p1 = (h : Int) + 1 ∧ p2 < (i : Int)))) := by
        rcases Nat.eq_zero_or_pos k with e | e
        · exact .inl e
        · obtain ⟨k', rfl⟩ : ∃ k', k = k' + 1 := ⟨k - 1, by omega⟩
          refine .inr ⟨k', LE[k'].1, LE[k'].2, rfl, fun X hX => ?_, ?_⟩
          · obtain ⟨b, e, h1, h2⟩ := HE5.out X hX k' (by omega)
            cases e; exact ⟨h1, h2⟩
          · have := HUp.out k' hlt
            rw [hx] at this
            exact this
      rw [hx] at e0 e1
      clear hx
      obtain ⟨b, off, so, sc, rfl, r0, r1, r2, r3, r4, hrv, hs6⟩ := HTh.out wr (HK.out.trans (HK5w.out.trans HJ.out)) h hhT
      obtain ⟨bo, off2, rfl, HSl0⟩ : ∃ bo off2, so = some ⟨bo, off2, none⟩ ∧ Hid (∀ X, Kept No wr X → ∀ j (hj : j < (thAt T h).sl.length), X.cell? ⟨bo, off2 + j * 2, none⟩ = some (.int .i64 ((thAt T h).sl.getD j (0, 0)).1) ∧ X.cell? ⟨bo, off2 + j * 2 + 1, none⟩ = some (.int .i64 ((thAt T h).sl.getD j (0, 0)).2)) := by
        obtain ⟨so', sc', e, hv⟩ := hrv
        injection e with e1 e2 e3
        subst e1
        obtain ⟨bo, off2, e, _, _⟩ := hv i hil
        refine ⟨bo, off2, e, fun X hX j hj => ?_⟩
        have hq : (thAt T h).sl.getD j (0, 0) = (thAt T h).sl[j] := by simp [List.getD, hj]
        rw [hq]
        obtain ⟨so', sc', e', hv⟩ := RdV.no ⟨so, sc', rfl, hv⟩ hX
        injection e' with e1 e2 e3
        subst e1
        obtain ⟨bo', off2', e'', h1, h2⟩ := hv j hj
        rw [e] at e''; cases e''; exact ⟨h1, h2⟩
      clear hrv
      have HThR : Hid (∀ X, Kept No wr X → X.cell? ⟨b, off + h * 5, none⟩ = some (.int .i64 (thAt T h).kind) ∧ X.cell? ⟨b, off + h * 5 + 1, none⟩ = some (.int .i64 (thAt T h).weak) ∧ X.cell? ⟨b, off + h * 5 + 2, none⟩ = some (.int .i64 (thAt T h).arr) ∧ X.cell? ⟨b, off + h * 5 + 3, none⟩ = some (.slice (some ⟨bo, off2, none⟩) (thAt T h).sl.length sc) ∧ X.cell? ⟨b, off + h * 5 + 4, none⟩ = some (.int .i64 (thAt T h).fin)) := fun X hX =>
        ⟨by rw [cell_al hX r0]; exact r0, by rw [cell_al hX r1]; exact r1, by rw [cell_al hX r2]; exact r2, by rw [cell_al hX r3]; exact r3, by rw [cell_al hX r4]; exact r4⟩
      clear r0 r1 r2 r3 r4
      generalize thAt T h = t at *
      obtain ⟨wo, hwo⟩ : ∃ wo, wo = wr := ⟨_, rfl⟩
      subst hwo
      obtain ⟨W5, HW5⟩ : ∃ X, Hid (X = wo.alloc (.cells #[.int .i64 ((h : Int) + 1), .int .i64 i] 49)) := ⟨_, rfl⟩
      have HA5 : Hid (Kept No wo W5) := by show Kept _ _ _; rw [HW5.out]; exact (Kept.refl _ _).alloc _
      have HEo : Hid (W5.heap[wo.heap.size]? = some (.cells #[.int .i64 ((h : Int) + 1), .int .i64 i] 49 (0, 0))) := by show _ = _; rw [HW5.out]; exact World.alloc_heap_new wo _
      have x1 : decide ((h : Int) + 1 < 1) = false := decide_eq_false (by omega)
      have x2 : decide ((T.length : Int) < (h : Int) + 1) = false := decide_eq_false (by omega)
      have x3 : (h : Int) + 1 - 1 = (h : Int) := by omega
      have x5 : (h : Int) < (T.length : Int) := by omega
      have k3 : (i : Int) < (t.sl.length : Int) := by omega
      have f0 : W5.cell? ⟨wo.heap.size, 0, none⟩ = some (.int .i64 ((h : Int) + 1)) := by rw [cell_of HEo.out]; rfl
      have f1 : W5.cell? ⟨wo.heap.size, 1, none⟩ = some (.int .i64 i) := by rw [cell_of HEo.out]; rfl
      obtain ⟨t3, t4⟩ := HGc.out W5 (HK5w.out.trans (HJ.out.trans HA5.out))
      have t5 := HB5.out W5 (HJ.out.trans HA5.out)
      obtain ⟨r0, r1, r2, r3, r4⟩ := HThR.out W5 HA5.out
      go_upto_region 9 with (first | rw [← HW5.out])
      clear HW5 t0 t1 t2 e0 e1
      go_cut [94] (fun c wx => c = .bool false ∧ Kept No W5 wx)
      case first =>
        as_aux_lemma =>
          rcases HPv.out with hk0 | ⟨k', p1, p2, hk0, hpc, hlt2⟩
          · subst hk0
            try simp only [List.append_eq, List.cons_append, List.nil_append]
            go_quiet (fail)
            go_wp2_with fail
            go_meet
            exact ⟨rfl, (Kept.refl _ _).drewN nq⟩
          · subst hk0
            obtain ⟨p3, p4⟩ := hpc W5 (HJ.out.trans HA5.out)
            have x6 : ((k' + 1 : Nat) : Int) - 1 = (k' : Int) := by omega
            have x7 : (k' : Int) < (LE.length : Int) := by omega
            have x8 : decide (0 < ((k' + 1 : Nat) : Int)) = true := decide_eq_true (by omega)
            rcases hlt2 with hlt2 | ⟨hp1, hlt2⟩
            · have x9 : decide ((h : Int) + 1 < p1) = false := decide_eq_false (by omega)
              have x10 : (p1 == (h : Int) + 1) = false := by rw [beq_eq_false_iff_ne]; omega
              clear hpc hlt2
              try simp only [List.append_eq, List.cons_append, List.nil_append]
              go_quiet (fail)
              go_wp2_with fail
              go_meet
              exact ⟨rfl, (Kept.refl _ _).drewN nq⟩
            · subst hp1
              have x9 : decide ((h : Int) + 1 < (h : Int) + 1) = false := decide_eq_false (by omega)
              have x10 : ((h : Int) + 1 == (h : Int) + 1) = true := by simp
              have x11 : decide ((i : Int) ≤ p2) = false := decide_eq_false (by omega)
              clear hpc hlt2
              try simp only [List.append_eq, List.cons_append, List.nil_append]
              go_quiet (fail)
              go_wp2_with fail
              go_meet
              exact ⟨rfl, (Kept.refl _ _).drewN nq⟩
      case rest =>
        obtain ⟨rfl, hA6⟩ := hcut
        obtain ⟨W6, hW6⟩ : ∃ W6, W6 = wc := ⟨_, rfl⟩
        subst hW6
        have HA6 : Hid (Kept No W5 W6) := hA6
        clear hA6
        clear t3 t4 t5 r0 r1 r2 r3 r4 f0 f1
        obtain ⟨t3, t4⟩ := HGc.out W6 (HK5w.out.trans (HJ.out.trans (HA5.out.trans HA6.out)))
        obtain ⟨r0, r1, r2, r3, r4⟩ := HThR.out W6 (HA5.out.trans HA6.out)
        have hEo6 := HA6.out.heap HEo.out id
        have f0 : W6.cell? ⟨wo.heap.size, 0, none⟩ = some (.int .i64 ((h : Int) + 1)) := by rw [cell_of hEo6]; rfl
        obtain ⟨W7, HW7⟩ : ∃ X, Hid (X = W6.alloc (.cells #[.int .i64 t.kind, .int .i64 t.weak, .int .i64 t.arr, .slice (some ⟨bo, off2, none⟩) t.sl.length sc, .int .i64 t.fin] 43)) := ⟨_, rfl⟩
        have HA7 : Hid (Kept No W6 W7) := by show Kept _ _ _; rw [HW7.out]; exact (Kept.refl _ _).alloc _
        have HTo : Hid (W7.heap[W6.heap.size]? = some (.cells #[.int .i64 t.kind, .int .i64 t.weak, .int .i64 t.arr, .slice (some ⟨bo, off2, none⟩) t.sl.length sc, .int .i64 t.fin] 43 (0, 0))) := by show _ = _; rw [HW7.out]; exact World.alloc_heap_new W6 _
        have HTB : Hid (∀ X, Kept No W7 X → X.cell? ⟨W6.heap.size, 0, none⟩ = some (.int .i64 t.kind) ∧ X.cell? ⟨W6.heap.size, 1, none⟩ = some (.int .i64 t.weak) ∧ X.cell? ⟨W6.heap.size, 2, none⟩ = some (.int .i64 t.arr) ∧ X.cell? ⟨W6.heap.size, 3, none⟩ = some (.slice (some ⟨bo, off2, none⟩) t.sl.length sc) ∧ X.cell? ⟨W6.heap.size, 4, none⟩ = some (.int .i64 t.fin)) := fun X hX => by
          have hx := hX.heap HTo.out id
          exact ⟨by rw [cell_of hx]; rfl, by rw [cell_of hx]; rfl, by rw [cell_of hx]; rfl, by rw [cell_of hx]; rfl, by rw [cell_of hx]; rfl⟩
        have HEB : Hid (∀ X, Kept No W7 X → X.cell? ⟨wo.heap.size, 0, none⟩ = some (.int .i64 ((h : Int) + 1)) ∧ X.cell? ⟨wo.heap.size, 1, none⟩ = some (.int .i64 i)) := fun X hX => by
          have hx := (HA6.out.trans (HA7.out.trans hX)).heap HEo.out id
          exact ⟨by rw [cell_of hx]; rfl, by rw [cell_of hx]; rfl⟩
        obtain ⟨y0, y1, y2, y3, y4⟩ := HTB.out W7 (Kept.refl _ _)
        obtain ⟨z0, z1⟩ := HEB.out W7 (Kept.refl _ _)
        obtain ⟨ky, Hky⟩ : ∃ ky, Hid (keyN t i = ky) := ⟨_, rfl⟩
        have HCk : Hid (Calls Try.prog 23 #[AT t (.slice (some ⟨bo, off2, none⟩) t.sl.length sc), .int .i64 i] W7 fun e w' => e = .returned (.int .i64 ky) ∧ Kept No W7 w') := by
          have := RKeyOf_any t (some ⟨bo, off2, none⟩) sc i (by omega) (by omega) W7
          rw [Hky.out] at this
          exact this
        have xw0 : (t.weak == 0) = false := by
          rcases wkN_cases t with ⟨e, _⟩ | ⟨_, _, e⟩
          · rw [hwk] at e; cases e
          · rw [beq_eq_false_iff_ne]; omega
        have xk2 : (ky == -2) = false := by rw [beq_eq_false_iff_ne, ← Hky.out]; exact hky2
        have HKo : Hid (Kept No wo W7) := HA5.out.trans (HA6.out.trans HA7.out)
        go_wp2_with (first | rw [← HW7.out])
        refine Calls.mono HCk.out ?_
        rintro e Y1 ⟨rfl, hY1⟩
        have HB7 : Hid (Kept No W7 Y1) := hY1
        have HKZ : Hid (Kept No w5 Y1) := HJ.out.trans (HKo.out.trans hY1)
        have HKY : Hid (Kept No w Y1) := HK.out.trans (HK5w.out.trans HKZ.out)
        clear t3 t4 r0 r1 r2 r3 r4 f0 hEo6 HW7 z0 z1 HCk y0 y1 y2 y3 y4
        obtain ⟨y0, y1, y2, y3, y4⟩ := HTB.out Y1 hY1
        clear hY1
        go_upto_region 15 with fail
        clear y0 y1 y2 y3 y4 xw0 xk2
        obtain ⟨v, Hv⟩ : ∃ v, Hid (t.sl.getD i (0, 0) = v) := ⟨_, rfl⟩
        have HSv0 : Hid (∀ X, Kept No wo X → X.cell? ⟨bo, off2 + i * 2, none⟩ = some (.int .i64 v.1) ∧ X.cell? ⟨bo, off2 + i * 2 + 1, none⟩ = some (.int .i64 v.2)) := fun X hX => by have := HSl0.out X hX i hil; rw [Hv.out] at this; exact this
        obtain ⟨vb, Hvb⟩ : ∃ vb, Hid (vb = (decide (2 ≤ t.weak) && (held T v && !F.getD (ix v) true))) := ⟨_, rfl⟩
        go_cut [9] (fun c wx => c = .bool vb ∧ Kept No Y1 wx)
        case first =>
          as_aux_lemma =>
            have HCw : Hid (∀ X, Kept No Y1 X → (X.cell? ⟨w.heap.size, 0, none⟩ = some (.slice (some ⟨b, off, none⟩) T.length cap) ∧ X.cell? ⟨w.heap.size, 1, none⟩ = some (.slice ro R.length rc)) ∧ (X.cell? ⟨W6.heap.size, 0, none⟩ = some (.int .i64 t.kind) ∧ X.cell? ⟨W6.heap.size, 1, none⟩ = some (.int .i64 t.weak) ∧ X.cell? ⟨W6.heap.size, 2, none⟩ = some (.int .i64 t.arr) ∧ X.cell? ⟨W6.heap.size, 3, none⟩ = some (.slice (some ⟨bo, off2, none⟩) t.sl.length sc) ∧ X.cell? ⟨W6.heap.size, 4, none⟩ = some (.int .i64 t.fin)) ∧ (X.cell? ⟨wo.heap.size, 0, none⟩ = some (.int .i64 ((h : Int) + 1)) ∧ X.cell? ⟨wo.heap.size, 1, none⟩ = some (.int .i64 i))) := fun X hX => ⟨HGc.out X (HK5w.out.trans (HKZ.out.trans hX)), HTB.out X (HB7.out.trans hX), HEB.out X (HB7.out.trans hX)⟩
            have HSv : Hid (∀ X, Kept No Y1 X → X.cell? ⟨bo, off2 + i * 2, none⟩ = some (.int .i64 v.1) ∧ X.cell? ⟨bo, off2 + i * 2 + 1, none⟩ = some (.int .i64 v.2)) := fun X hX => HSv0.out X (HKo.out.trans (HB7.out.trans hX))
            by_cases xw : 2 ≤ t.weak
            · cases xh : held T v
              · refine region_quiet_class (C := fun w' => Kept No Y1 w') mixed (by kernel_rfl) (Kept.refl _ _).drew ?_
                refine q_op (.pointer (some ⟨W6.heap.size, 1, none⟩)) (by kernel_rfl) (fun W1 hW1 => by simp [go_sem]) ?_
                try simp only [Act.put, List.setIfInBounds_toArray, List.set_cons_zero, List.set_cons_succ, List.getElem_toArray, List.getElem_cons_zero, List.getElem_cons_succ]
                refine q_op (.int .i64 t.weak) (by kernel_rfl) (fun W1 hW1 => by obtain ⟨⟨a0, a1⟩, ⟨b0, b1, b2, b3, b4⟩, ⟨c0, c1⟩⟩ := HCw.out W1 hW1; simp [go_sem, b1]) ?_
                try simp only [Act.put, List.setIfInBounds_toArray, List.set_cons_zero, List.set_cons_succ, List.getElem_toArray, List.getElem_cons_zero, List.getElem_cons_succ]
                refine q_op (.bool true) (by kernel_rfl) (fun W1 hW1 => by simp [go_sem, xw]) ?_
                try simp only [Act.put, List.setIfInBounds_toArray, List.set_cons_zero, List.set_cons_succ, List.getElem_toArray, List.getElem_cons_zero, List.getElem_cons_succ]
                refine q_op (.bool true) (by kernel_rfl) (fun W1 hW1 => by simp [go_sem]) ?_
                try simp only [Act.put, List.setIfInBounds_toArray, List.set_cons_zero, List.set_cons_succ, List.getElem_toArray, List.getElem_cons_zero, List.getElem_cons_succ]
                refine q_op (AG (some ⟨b, off, none⟩) T.length cap ro R.length rc) (by kernel_rfl) (fun W1 hW1 => by obtain ⟨⟨a0, a1⟩, ⟨b0, b1, b2, b3, b4⟩, ⟨c0, c1⟩⟩ := HCw.out W1 hW1; simp [go_sem, a0, a1]) ?_
                try simp only [Act.put, List.setIfInBounds_toArray, List.set_cons_zero, List.set_cons_succ, List.getElem_toArray, List.getElem_cons_zero, List.getElem_cons_succ]
                refine q_op (.pointer (some ⟨W6.heap.size, 3, none⟩)) (by kernel_rfl) (fun W1 hW1 => by simp [go_sem]) ?_
                try simp only [Act.put, List.setIfInBounds_toArray, List.set_cons_zero, List.set_cons_succ, List.getElem_toArray, List.getElem_cons_zero, List.getElem_cons_succ]
                refine q_op (.slice (some ⟨bo, off2, none⟩) t.sl.length sc) (by kernel_rfl) (fun W1 hW1 => by obtain ⟨⟨a0, a1⟩, ⟨b0, b1, b2, b3, b4⟩, ⟨c0, c1⟩⟩ := HCw.out W1 hW1; simp [go_sem, b3]) ?_
                try simp only [Act.put, List.setIfInBounds_toArray, List.set_cons_zero, List.set_cons_succ, List.getElem_toArray, List.getElem_cons_zero, List.getElem_cons_succ]
                refine q_op (.pointer (some ⟨wo.heap.size, 1, none⟩)) (by kernel_rfl) (fun W1 hW1 => by simp [go_sem]) ?_
                try simp only [Act.put, List.setIfInBounds_toArray, List.set_cons_zero, List.set_cons_succ, List.getElem_toArray, List.getElem_cons_zero, List.getElem_cons_succ]
                refine q_op (.int .i64 i) (by kernel_rfl) (fun W1 hW1 => by obtain ⟨⟨a0, a1⟩, ⟨b0, b1, b2, b3, b4⟩, ⟨c0, c1⟩⟩ := HCw.out W1 hW1; simp [go_sem, c1]) ?_
                try simp only [Act.put, List.setIfInBounds_toArray, List.set_cons_zero, List.set_cons_succ, List.getElem_toArray, List.getElem_cons_zero, List.getElem_cons_succ]
                refine q_op (.pointer (some ⟨bo, off2 + i * 2, none⟩)) (by kernel_rfl) (fun W1 hW1 => by simp [go_sem, k3]) ?_
                try simp only [Act.put, List.setIfInBounds_toArray, List.set_cons_zero, List.set_cons_succ, List.getElem_toArray, List.getElem_cons_zero, List.getElem_cons_succ]
                refine q_op (AV v) (by kernel_rfl) (fun W1 hW1 => by obtain ⟨a3, a4⟩ := HSv.out W1 hW1; simp [go_sem, a3, a4]) ?_
                try simp only [Act.put, List.setIfInBounds_toArray, List.set_cons_zero, List.set_cons_succ, List.getElem_toArray, List.getElem_cons_zero, List.getElem_cons_succ]
                refine q_call 24 #[AG (some ⟨b, off, none⟩) T.length cap ro R.length rc, AV v] (.bool false) (by kernel_rfl) (fun W1 hW1 => by simp [go_sem]) (fun W1 hW1 => by have := HWk.out W1 (HKY.out.trans hW1) v; rw [xh] at this; exact this.mono (fun e w' ⟨h1, h2⟩ => ⟨h1, hW1.trans h2⟩)) ?_
                try simp only [Act.put, List.setIfInBounds_toArray, List.set_cons_zero, List.set_cons_succ, List.getElem_toArray, List.getElem_cons_zero, List.getElem_cons_succ]
                refine q_op (.bool false) (by kernel_rfl) (fun W1 hW1 => by simp [go_sem]) ?_
                try simp only [Act.put, List.setIfInBounds_toArray, List.set_cons_zero, List.set_cons_succ, List.getElem_toArray, List.getElem_cons_zero, List.getElem_cons_succ]
                refine q_op (.bool false) (by kernel_rfl) (fun W1 hW1 => by simp [go_sem]) ?_
                try simp only [Act.put, List.setIfInBounds_toArray, List.set_cons_zero, List.set_cons_succ, List.getElem_toArray, List.getElem_cons_zero, List.getElem_cons_succ]
                go_big_quiet_skip
                try simp only [Act.put, List.setIfInBounds_toArray, List.set_cons_zero, List.set_cons_succ, List.getElem_toArray, List.getElem_cons_zero, List.getElem_cons_succ]
                go_big_quiet_skip
                try simp only [Act.put, List.setIfInBounds_toArray, List.set_cons_zero, List.set_cons_succ, List.getElem_toArray, List.getElem_cons_zero, List.getElem_cons_succ]
                go_big_quiet_skip
                try simp only [Act.put, List.setIfInBounds_toArray, List.set_cons_zero, List.set_cons_succ, List.getElem_toArray, List.getElem_cons_zero, List.getElem_cons_succ]
                go_big_quiet_skip
                try simp only [Act.put, List.setIfInBounds_toArray, List.set_cons_zero, List.set_cons_succ, List.getElem_toArray, List.getElem_cons_zero, List.getElem_cons_succ]
                go_big_quiet_skip
                try simp only [Act.put, List.setIfInBounds_toArray, List.set_cons_zero, List.set_cons_succ, List.getElem_toArray, List.getElem_cons_zero, List.getElem_cons_succ]
                go_big_quiet_skip
                try simp only [Act.put, List.setIfInBounds_toArray, List.set_cons_zero, List.set_cons_succ, List.getElem_toArray, List.getElem_cons_zero, List.getElem_cons_succ]
                go_big_quiet_skip
                try simp only [Act.put, List.setIfInBounds_toArray, List.set_cons_zero, List.set_cons_succ, List.getElem_toArray, List.getElem_cons_zero, List.getElem_cons_succ]
                go_big_quiet_skip
                try simp only [Act.put, List.setIfInBounds_toArray, List.set_cons_zero, List.set_cons_succ, List.getElem_toArray, List.getElem_cons_zero, List.getElem_cons_succ]
                go_big_quiet_skip
                try simp only [Act.put, List.setIfInBounds_toArray, List.set_cons_zero, List.set_cons_succ, List.getElem_toArray, List.getElem_cons_zero, List.getElem_cons_succ]
                go_big_quiet_skip
                try simp only [Act.put, List.setIfInBounds_toArray, List.set_cons_zero, List.set_cons_succ, List.getElem_toArray, List.getElem_cons_zero, List.getElem_cons_succ]
                go_big_quiet_skip
                try simp only [Act.put, List.setIfInBounds_toArray, List.set_cons_zero, List.set_cons_succ, List.getElem_toArray, List.getElem_cons_zero, List.getElem_cons_succ]
                go_big_quiet_skip
                try simp only [Act.put, List.setIfInBounds_toArray, List.set_cons_zero, List.set_cons_succ, List.getElem_toArray, List.getElem_cons_zero, List.getElem_cons_succ]
                refine q_op (.bool false) (by kernel_rfl) (fun W1 hW1 => by simp [go_sem]) ?_
                try simp only [Act.put, List.setIfInBounds_toArray, List.set_cons_zero, List.set_cons_succ, List.getElem_toArray, List.getElem_cons_zero, List.getElem_cons_succ]
                refine q_op (.bool false) (by kernel_rfl) (fun W1 hW1 => by simp [go_sem]) ?_
                try simp only [Act.put, List.setIfInBounds_toArray, List.set_cons_zero, List.set_cons_succ, List.getElem_toArray, List.getElem_cons_zero, List.getElem_cons_succ]
                refine wpQuiet_nil ?_
                intro Y9 hY9
                go_wp2_with fail
                go_meet
                exact ⟨by rw [Hvb.out, xh]; simp, hY9⟩
              · obtain ⟨xlN, xg1, xg2⟩ := held_lt xh
                have xn : v.2 = (ix v : Int) + 1 := by unfold ix; omega
                have xm : (ix v : Int) + 1 - 1 = (ix v : Int) := by omega
                have xl : (ix v : Int) < (T.length : Int) := by omega
                refine region_quiet_class (C := fun w' => Kept No Y1 w') mixed (by kernel_rfl) (Kept.refl _ _).drew ?_
                refine q_op (.pointer (some ⟨W6.heap.size, 1, none⟩)) (by kernel_rfl) (fun W1 hW1 => by simp [go_sem]) ?_
                try simp only [Act.put, List.setIfInBounds_toArray, List.set_cons_zero, List.set_cons_succ, List.getElem_toArray, List.getElem_cons_zero, List.getElem_cons_succ]
                refine q_op (.int .i64 t.weak) (by kernel_rfl) (fun W1 hW1 => by obtain ⟨⟨a0, a1⟩, ⟨b0, b1, b2, b3, b4⟩, ⟨c0, c1⟩⟩ := HCw.out W1 hW1; simp [go_sem, b1]) ?_
                try simp only [Act.put, List.setIfInBounds_toArray, List.set_cons_zero, List.set_cons_succ, List.getElem_toArray, List.getElem_cons_zero, List.getElem_cons_succ]
                refine q_op (.bool true) (by kernel_rfl) (fun W1 hW1 => by simp [go_sem, xw]) ?_
                try simp only [Act.put, List.setIfInBounds_toArray, List.set_cons_zero, List.set_cons_succ, List.getElem_toArray, List.getElem_cons_zero, List.getElem_cons_succ]
                refine q_op (.bool true) (by kernel_rfl) (fun W1 hW1 => by simp [go_sem]) ?_
                try simp only [Act.put, List.setIfInBounds_toArray, List.set_cons_zero, List.set_cons_succ, List.getElem_toArray, List.getElem_cons_zero, List.getElem_cons_succ]
                refine q_op (AG (some ⟨b, off, none⟩) T.length cap ro R.length rc) (by kernel_rfl) (fun W1 hW1 => by obtain ⟨⟨a0, a1⟩, ⟨b0, b1, b2, b3, b4⟩, ⟨c0, c1⟩⟩ := HCw.out W1 hW1; simp [go_sem, a0, a1]) ?_
                try simp only [Act.put, List.setIfInBounds_toArray, List.set_cons_zero, List.set_cons_succ, List.getElem_toArray, List.getElem_cons_zero, List.getElem_cons_succ]
                refine q_op (.pointer (some ⟨W6.heap.size, 3, none⟩)) (by kernel_rfl) (fun W1 hW1 => by simp [go_sem]) ?_
                try simp only [Act.put, List.setIfInBounds_toArray, List.set_cons_zero, List.set_cons_succ, List.getElem_toArray, List.getElem_cons_zero, List.getElem_cons_succ]
                refine q_op (.slice (some ⟨bo, off2, none⟩) t.sl.length sc) (by kernel_rfl) (fun W1 hW1 => by obtain ⟨⟨a0, a1⟩, ⟨b0, b1, b2, b3, b4⟩, ⟨c0, c1⟩⟩ := HCw.out W1 hW1; simp [go_sem, b3]) ?_
                try simp only [Act.put, List.setIfInBounds_toArray, List.set_cons_zero, List.set_cons_succ, List.getElem_toArray, List.getElem_cons_zero, List.getElem_cons_succ]
                refine q_op (.pointer (some ⟨wo.heap.size, 1, none⟩)) (by kernel_rfl) (fun W1 hW1 => by simp [go_sem]) ?_
                try simp only [Act.put, List.setIfInBounds_toArray, List.set_cons_zero, List.set_cons_succ, List.getElem_toArray, List.getElem_cons_zero, List.getElem_cons_succ]
                refine q_op (.int .i64 i) (by kernel_rfl) (fun W1 hW1 => by obtain ⟨⟨a0, a1⟩, ⟨b0, b1, b2, b3, b4⟩, ⟨c0, c1⟩⟩ := HCw.out W1 hW1; simp [go_sem, c1]) ?_
                try simp only [Act.put, List.setIfInBounds_toArray, List.set_cons_zero, List.set_cons_succ, List.getElem_toArray, List.getElem_cons_zero, List.getElem_cons_succ]
                refine q_op (.pointer (some ⟨bo, off2 + i * 2, none⟩)) (by kernel_rfl) (fun W1 hW1 => by simp [go_sem, k3]) ?_
                try simp only [Act.put, List.setIfInBounds_toArray, List.set_cons_zero, List.set_cons_succ, List.getElem_toArray, List.getElem_cons_zero, List.getElem_cons_succ]
                refine q_op (AV v) (by kernel_rfl) (fun W1 hW1 => by obtain ⟨a3, a4⟩ := HSv.out W1 hW1; simp [go_sem, a3, a4]) ?_
                try simp only [Act.put, List.setIfInBounds_toArray, List.set_cons_zero, List.set_cons_succ, List.getElem_toArray, List.getElem_cons_zero, List.getElem_cons_succ]
                refine q_call 24 #[AG (some ⟨b, off, none⟩) T.length cap ro R.length rc, AV v] (.bool true) (by kernel_rfl) (fun W1 hW1 => by simp [go_sem]) (fun W1 hW1 => by have := HWk.out W1 (HKY.out.trans hW1) v; rw [xh] at this; exact this.mono (fun e w' ⟨h1, h2⟩ => ⟨h1, hW1.trans h2⟩)) ?_
                try simp only [Act.put, List.setIfInBounds_toArray, List.set_cons_zero, List.set_cons_succ, List.getElem_toArray, List.getElem_cons_zero, List.getElem_cons_succ]
                refine q_op (.bool true) (by kernel_rfl) (fun W1 hW1 => by simp [go_sem]) ?_
                try simp only [Act.put, List.setIfInBounds_toArray, List.set_cons_zero, List.set_cons_succ, List.getElem_toArray, List.getElem_cons_zero, List.getElem_cons_succ]
                refine q_op (.bool true) (by kernel_rfl) (fun W1 hW1 => by simp [go_sem]) ?_
                try simp only [Act.put, List.setIfInBounds_toArray, List.set_cons_zero, List.set_cons_succ, List.getElem_toArray, List.getElem_cons_zero, List.getElem_cons_succ]
                refine q_op (SLN n5 T.length) (by kernel_rfl) (fun W1 hW1 => by simp [go_sem]) ?_
                try simp only [Act.put, List.setIfInBounds_toArray, List.set_cons_zero, List.set_cons_succ, List.getElem_toArray, List.getElem_cons_zero, List.getElem_cons_succ]
                refine q_op (.pointer (some ⟨W6.heap.size, 3, none⟩)) (by kernel_rfl) (fun W1 hW1 => by simp [go_sem]) ?_
                try simp only [Act.put, List.setIfInBounds_toArray, List.set_cons_zero, List.set_cons_succ, List.getElem_toArray, List.getElem_cons_zero, List.getElem_cons_succ]
                refine q_op (.slice (some ⟨bo, off2, none⟩) t.sl.length sc) (by kernel_rfl) (fun W1 hW1 => by obtain ⟨⟨a0, a1⟩, ⟨b0, b1, b2, b3, b4⟩, ⟨c0, c1⟩⟩ := HCw.out W1 hW1; simp [go_sem, b3]) ?_
                try simp only [Act.put, List.setIfInBounds_toArray, List.set_cons_zero, List.set_cons_succ, List.getElem_toArray, List.getElem_cons_zero, List.getElem_cons_succ]
                refine q_op (.pointer (some ⟨wo.heap.size, 1, none⟩)) (by kernel_rfl) (fun W1 hW1 => by simp [go_sem]) ?_
                try simp only [Act.put, List.setIfInBounds_toArray, List.set_cons_zero, List.set_cons_succ, List.getElem_toArray, List.getElem_cons_zero, List.getElem_cons_succ]
                refine q_op (.int .i64 i) (by kernel_rfl) (fun W1 hW1 => by obtain ⟨⟨a0, a1⟩, ⟨b0, b1, b2, b3, b4⟩, ⟨c0, c1⟩⟩ := HCw.out W1 hW1; simp [go_sem, c1]) ?_
                try simp only [Act.put, List.setIfInBounds_toArray, List.set_cons_zero, List.set_cons_succ, List.getElem_toArray, List.getElem_cons_zero, List.getElem_cons_succ]
                refine q_op (.pointer (some ⟨bo, off2 + i * 2, none⟩)) (by kernel_rfl) (fun W1 hW1 => by simp [go_sem, k3]) ?_
                try simp only [Act.put, List.setIfInBounds_toArray, List.set_cons_zero, List.set_cons_succ, List.getElem_toArray, List.getElem_cons_zero, List.getElem_cons_succ]
                refine q_op (.pointer (some ⟨bo, off2 + i * 2 + 1, none⟩)) (by kernel_rfl) (fun W1 hW1 => by simp [go_sem]) ?_
                try simp only [Act.put, List.setIfInBounds_toArray, List.set_cons_zero, List.set_cons_succ, List.getElem_toArray, List.getElem_cons_zero, List.getElem_cons_succ]
                refine q_op (.int .i64 ((ix v : Int) + 1)) (by kernel_rfl) (fun W1 hW1 => by obtain ⟨a3, a4⟩ := HSv.out W1 hW1; rw [xn] at a4; simp [go_sem, a4]) ?_
                try simp only [Act.put, List.setIfInBounds_toArray, List.set_cons_zero, List.set_cons_succ, List.getElem_toArray, List.getElem_cons_zero, List.getElem_cons_succ]
                refine q_op (.int .i64 (ix v : Int)) (by kernel_rfl) (fun W1 hW1 => by simp [go_sem]; rw [IntKind.wrap_i64]; omega) ?_
                try simp only [Act.put, List.setIfInBounds_toArray, List.set_cons_zero, List.set_cons_succ, List.getElem_toArray, List.getElem_cons_zero, List.getElem_cons_succ]
                refine q_op (.pointer (some ⟨n5, ix v, none⟩)) (by kernel_rfl) (fun W1 hW1 => by simp [go_sem, xl]) ?_
                try simp only [Act.put, List.setIfInBounds_toArray, List.set_cons_zero, List.set_cons_succ, List.getElem_toArray, List.getElem_cons_zero, List.getElem_cons_succ]
                refine q_op (.bool (F.getD (ix v) true)) (by kernel_rfl) (fun W1 hW1 => by have a5 := HF5.out W1 (HKZ.out.trans hW1) (ix v) xlN; simp [go_sem, a5]) ?_
                try simp only [Act.put, List.setIfInBounds_toArray, List.set_cons_zero, List.set_cons_succ, List.getElem_toArray, List.getElem_cons_zero, List.getElem_cons_succ]
                refine q_op (.bool (!F.getD (ix v) true)) (by kernel_rfl) (fun W1 hW1 => by simp [go_sem]) ?_
                try simp only [Act.put, List.setIfInBounds_toArray, List.set_cons_zero, List.set_cons_succ, List.getElem_toArray, List.getElem_cons_zero, List.getElem_cons_succ]
                refine q_op (.bool (!F.getD (ix v) true)) (by kernel_rfl) (fun W1 hW1 => by simp [go_sem]) ?_
                try simp only [Act.put, List.setIfInBounds_toArray, List.set_cons_zero, List.set_cons_succ, List.getElem_toArray, List.getElem_cons_zero, List.getElem_cons_succ]
                refine q_op (.bool (!F.getD (ix v) true)) (by kernel_rfl) (fun W1 hW1 => by simp [go_sem]) ?_
                try simp only [Act.put, List.setIfInBounds_toArray, List.set_cons_zero, List.set_cons_succ, List.getElem_toArray, List.getElem_cons_zero, List.getElem_cons_succ]
                refine wpQuiet_nil ?_
                intro Y9 hY9
                go_wp2_with fail
                go_meet
                exact ⟨by rw [Hvb.out, xh, decide_eq_true xw]; rfl, hY9⟩
            · refine region_quiet_class (C := fun w' => Kept No Y1 w') mixed (by kernel_rfl) (Kept.refl _ _).drew ?_
              refine q_op (.pointer (some ⟨W6.heap.size, 1, none⟩)) (by kernel_rfl) (fun W1 hW1 => by simp [go_sem]) ?_
              try simp only [Act.put, List.setIfInBounds_toArray, List.set_cons_zero, List.set_cons_succ, List.getElem_toArray, List.getElem_cons_zero, List.getElem_cons_succ]
              refine q_op (.int .i64 t.weak) (by kernel_rfl) (fun W1 hW1 => by obtain ⟨⟨a0, a1⟩, ⟨b0, b1, b2, b3, b4⟩, ⟨c0, c1⟩⟩ := HCw.out W1 hW1; simp [go_sem, b1]) ?_
              try simp only [Act.put, List.setIfInBounds_toArray, List.set_cons_zero, List.set_cons_succ, List.getElem_toArray, List.getElem_cons_zero, List.getElem_cons_succ]
              refine q_op (.bool false) (by kernel_rfl) (fun W1 hW1 => by simp [go_sem, xw]) ?_
              try simp only [Act.put, List.setIfInBounds_toArray, List.set_cons_zero, List.set_cons_succ, List.getElem_toArray, List.getElem_cons_zero, List.getElem_cons_succ]
              refine q_op (.bool false) (by kernel_rfl) (fun W1 hW1 => by simp [go_sem]) ?_
              try simp only [Act.put, List.setIfInBounds_toArray, List.set_cons_zero, List.set_cons_succ, List.getElem_toArray, List.getElem_cons_zero, List.getElem_cons_succ]
              go_big_quiet_skip
              try simp only [Act.put, List.setIfInBounds_toArray, List.set_cons_zero, List.set_cons_succ, List.getElem_toArray, List.getElem_cons_zero, List.getElem_cons_succ]
              go_big_quiet_skip
              try simp only [Act.put, List.setIfInBounds_toArray, List.set_cons_zero, List.set_cons_succ, List.getElem_toArray, List.getElem_cons_zero, List.getElem_cons_succ]
              go_big_quiet_skip
              try simp only [Act.put, List.setIfInBounds_toArray, List.set_cons_zero, List.set_cons_succ, List.getElem_toArray, List.getElem_cons_zero, List.getElem_cons_succ]
              go_big_quiet_skip
              try simp only [Act.put, List.setIfInBounds_toArray, List.set_cons_zero, List.set_cons_succ, List.getElem_toArray, List.getElem_cons_zero, List.getElem_cons_succ]
              go_big_quiet_skip
              try simp only [Act.put, List.setIfInBounds_toArray, List.set_cons_zero, List.set_cons_succ, List.getElem_toArray, List.getElem_cons_zero, List.getElem_cons_succ]
              go_big_quiet_skip
              try simp only [Act.put, List.setIfInBounds_toArray, List.set_cons_zero, List.set_cons_succ, List.getElem_toArray, List.getElem_cons_zero, List.getElem_cons_succ]
              go_big_quiet_skip
              try simp only [Act.put, List.setIfInBounds_toArray, List.set_cons_zero, List.set_cons_succ, List.getElem_toArray, List.getElem_cons_zero, List.getElem_cons_succ]
              go_big_quiet_skip
              try simp only [Act.put, List.setIfInBounds_toArray, List.set_cons_zero, List.set_cons_succ, List.getElem_toArray, List.getElem_cons_zero, List.getElem_cons_succ]
              refine q_op (.bool false) (by kernel_rfl) (fun W1 hW1 => by simp [go_sem]) ?_
              try simp only [Act.put, List.setIfInBounds_toArray, List.set_cons_zero, List.set_cons_succ, List.getElem_toArray, List.getElem_cons_zero, List.getElem_cons_succ]
              refine q_op (.bool false) (by kernel_rfl) (fun W1 hW1 => by simp [go_sem]) ?_
              try simp only [Act.put, List.setIfInBounds_toArray, List.set_cons_zero, List.set_cons_succ, List.getElem_toArray, List.getElem_cons_zero, List.getElem_cons_succ]
              go_big_quiet_skip
              try simp only [Act.put, List.setIfInBounds_toArray, List.set_cons_zero, List.set_cons_succ, List.getElem_toArray, List.getElem_cons_zero, List.getElem_cons_succ]
              go_big_quiet_skip
              try simp only [Act.put, List.setIfInBounds_toArray, List.set_cons_zero, List.set_cons_succ, List.getElem_toArray, List.getElem_cons_zero, List.getElem_cons_succ]
              go_big_quiet_skip
              try simp only [Act.put, List.setIfInBounds_toArray, List.set_cons_zero, List.set_cons_succ, List.getElem_toArray, List.getElem_cons_zero, List.getElem_cons_succ]
              go_big_quiet_skip
              try simp only [Act.put, List.setIfInBounds_toArray, List.set_cons_zero, List.set_cons_succ, List.getElem_toArray, List.getElem_cons_zero, List.getElem_cons_succ]
              go_big_quiet_skip
              try simp only [Act.put, List.setIfInBounds_toArray, List.set_cons_zero, List.set_cons_succ, List.getElem_toArray, List.getElem_cons_zero, List.getElem_cons_succ]
              go_big_quiet_skip
              try simp only [Act.put, List.setIfInBounds_toArray, List.set_cons_zero, List.set_cons_succ, List.getElem_toArray, List.getElem_cons_zero, List.getElem_cons_succ]
              go_big_quiet_skip
              try simp only [Act.put, List.setIfInBounds_toArray, List.set_cons_zero, List.set_cons_succ, List.getElem_toArray, List.getElem_cons_zero, List.getElem_cons_succ]
              go_big_quiet_skip
              try simp only [Act.put, List.setIfInBounds_toArray, List.set_cons_zero, List.set_cons_succ, List.getElem_toArray, List.getElem_cons_zero, List.getElem_cons_succ]
              go_big_quiet_skip
              try simp only [Act.put, List.setIfInBounds_toArray, List.set_cons_zero, List.set_cons_succ, List.getElem_toArray, List.getElem_cons_zero, List.getElem_cons_succ]
              go_big_quiet_skip
              try simp only [Act.put, List.setIfInBounds_toArray, List.set_cons_zero, List.set_cons_succ, List.getElem_toArray, List.getElem_cons_zero, List.getElem_cons_succ]
              go_big_quiet_skip
              try simp only [Act.put, List.setIfInBounds_toArray, List.set_cons_zero, List.set_cons_succ, List.getElem_toArray, List.getElem_cons_zero, List.getElem_cons_succ]
              go_big_quiet_skip
              try simp only [Act.put, List.setIfInBounds_toArray, List.set_cons_zero, List.set_cons_succ, List.getElem_toArray, List.getElem_cons_zero, List.getElem_cons_succ]
              refine q_op (.bool false) (by kernel_rfl) (fun W1 hW1 => by simp [go_sem]) ?_
              try simp only [Act.put, List.setIfInBounds_toArray, List.set_cons_zero, List.set_cons_succ, List.getElem_toArray, List.getElem_cons_zero, List.getElem_cons_succ]
              refine q_op (.bool false) (by kernel_rfl) (fun W1 hW1 => by simp [go_sem]) ?_
              try simp only [Act.put, List.setIfInBounds_toArray, List.set_cons_zero, List.set_cons_succ, List.getElem_toArray, List.getElem_cons_zero, List.getElem_cons_succ]
              refine wpQuiet_nil ?_
              intro Y9 hY9
              go_wp2_with fail
              go_meet
              exact ⟨by rw [Hvb.out, show decide (2 ≤ t.weak) = false from decide_eq_false (by omega)]; rfl, hY9⟩
        case rest =>
          obtain ⟨rfl, hY2⟩ := hcut
          obtain ⟨Y2, hYe⟩ : ∃ Y2, Y2 = wc := ⟨_, rfl⟩
          subst hYe
          have HKZ2 : Hid (Kept No w5 Y2) := HKZ.out.trans hY2
          have HKY2 : Hid (Kept No w Y2) := HKY.out.trans hY2
          have HB72 : Hid (Kept No W7 Y2) := HB7.out.trans hY2
          clear hY2 HKZ HKY HB7
          have HKZ := HKZ2
          have HKY := HKY2
          have HB7 := HB72
          clear HKZ2 HKY2 HB72
          obtain ⟨kb, Hkb⟩ : ∃ kb, Hid (kb = (decide (¬ t.weak = 2) && (decide (0 ≤ ky) && (held T (t.sl.getD ky.toNat (0, 0)) && !F.getD (ix (t.sl.getD ky.toNat (0, 0))) true)))) := ⟨_, rfl⟩
          go_upto_region 16 with fail
          go_cut [10] (fun c wx => c = .bool kb ∧ Kept No Y2 wx)
          case first =>
            as_aux_lemma =>
              have HCw : Hid (∀ X, Kept No Y2 X → (X.cell? ⟨w.heap.size, 0, none⟩ = some (.slice (some ⟨b, off, none⟩) T.length cap) ∧ X.cell? ⟨w.heap.size, 1, none⟩ = some (.slice ro R.length rc)) ∧ (X.cell? ⟨W6.heap.size, 0, none⟩ = some (.int .i64 t.kind) ∧ X.cell? ⟨W6.heap.size, 1, none⟩ = some (.int .i64 t.weak) ∧ X.cell? ⟨W6.heap.size, 2, none⟩ = some (.int .i64 t.arr) ∧ X.cell? ⟨W6.heap.size, 3, none⟩ = some (.slice (some ⟨bo, off2, none⟩) t.sl.length sc) ∧ X.cell? ⟨W6.heap.size, 4, none⟩ = some (.int .i64 t.fin)) ∧ (X.cell? ⟨wo.heap.size, 0, none⟩ = some (.int .i64 ((h : Int) + 1)) ∧ X.cell? ⟨wo.heap.size, 1, none⟩ = some (.int .i64 i))) := fun X hX => ⟨HGc.out X (HK5w.out.trans (HKZ.out.trans hX)), HTB.out X (HB7.out.trans hX), HEB.out X (HB7.out.trans hX)⟩
              by_cases xw2 : t.weak = 2
              · refine region_quiet_class (C := fun w' => Kept No Y2 w') mixed (by kernel_rfl) (Kept.refl _ _).drew ?_
                refine q_op (.pointer (some ⟨W6.heap.size, 1, none⟩)) (by kernel_rfl) (fun W1 hW1 => by simp [go_sem]) ?_
                try simp only [Act.put, List.setIfInBounds_toArray, List.set_cons_zero, List.set_cons_succ, List.getElem_toArray, List.getElem_cons_zero, List.getElem_cons_succ]
                refine q_op (.int .i64 t.weak) (by kernel_rfl) (fun W1 hW1 => by obtain ⟨⟨a0, a1⟩, ⟨b0, b1, b2, b3, b4⟩, ⟨c0, c1⟩⟩ := HCw.out W1 hW1; simp [go_sem, b1]) ?_
                try simp only [Act.put, List.setIfInBounds_toArray, List.set_cons_zero, List.set_cons_succ, List.getElem_toArray, List.getElem_cons_zero, List.getElem_cons_succ]
                refine q_op (.bool false) (by kernel_rfl) (fun W1 hW1 => by simp [go_sem, xw2]) ?_
                try simp only [Act.put, List.setIfInBounds_toArray, List.set_cons_zero, List.set_cons_succ, List.getElem_toArray, List.getElem_cons_zero, List.getElem_cons_succ]
                refine q_op (.bool false) (by kernel_rfl) (fun W1 hW1 => by simp [go_sem]) ?_
                try simp only [Act.put, List.setIfInBounds_toArray, List.set_cons_zero, List.set_cons_succ, List.getElem_toArray, List.getElem_cons_zero, List.getElem_cons_succ]
                go_big_quiet_skip
                try simp only [Act.put, List.setIfInBounds_toArray, List.set_cons_zero, List.set_cons_succ, List.getElem_toArray, List.getElem_cons_zero, List.getElem_cons_succ]
                go_big_quiet_skip
                try simp only [Act.put, List.setIfInBounds_toArray, List.set_cons_zero, List.set_cons_succ, List.getElem_toArray, List.getElem_cons_zero, List.getElem_cons_succ]
                refine q_op (.bool false) (by kernel_rfl) (fun W1 hW1 => by simp [go_sem]) ?_
                try simp only [Act.put, List.setIfInBounds_toArray, List.set_cons_zero, List.set_cons_succ, List.getElem_toArray, List.getElem_cons_zero, List.getElem_cons_succ]
                refine q_op (.bool false) (by kernel_rfl) (fun W1 hW1 => by simp [go_sem]) ?_
                try simp only [Act.put, List.setIfInBounds_toArray, List.set_cons_zero, List.set_cons_succ, List.getElem_toArray, List.getElem_cons_zero, List.getElem_cons_succ]
                go_big_quiet_skip
                try simp only [Act.put, List.setIfInBounds_toArray, List.set_cons_zero, List.set_cons_succ, List.getElem_toArray, List.getElem_cons_zero, List.getElem_cons_succ]
                go_big_quiet_skip
                try simp only [Act.put, List.setIfInBounds_toArray, List.set_cons_zero, List.set_cons_succ, List.getElem_toArray, List.getElem_cons_zero, List.getElem_cons_succ]
                go_big_quiet_skip
                try simp only [Act.put, List.setIfInBounds_toArray, List.set_cons_zero, List.set_cons_succ, List.getElem_toArray, List.getElem_cons_zero, List.getElem_cons_succ]
                go_big_quiet_skip
                try simp only [Act.put, List.setIfInBounds_toArray, List.set_cons_zero, List.set_cons_succ, List.getElem_toArray, List.getElem_cons_zero, List.getElem_cons_succ]
                go_big_quiet_skip
                try simp only [Act.put, List.setIfInBounds_toArray, List.set_cons_zero, List.set_cons_succ, List.getElem_toArray, List.getElem_cons_zero, List.getElem_cons_succ]
                go_big_quiet_skip
                try simp only [Act.put, List.setIfInBounds_toArray, List.set_cons_zero, List.set_cons_succ, List.getElem_toArray, List.getElem_cons_zero, List.getElem_cons_succ]
                go_big_quiet_skip
                try simp only [Act.put, List.setIfInBounds_toArray, List.set_cons_zero, List.set_cons_succ, List.getElem_toArray, List.getElem_cons_zero, List.getElem_cons_succ]
                refine q_op (.bool false) (by kernel_rfl) (fun W1 hW1 => by simp [go_sem]) ?_
                try simp only [Act.put, List.setIfInBounds_toArray, List.set_cons_zero, List.set_cons_succ, List.getElem_toArray, List.getElem_cons_zero, List.getElem_cons_succ]
                refine q_op (.bool false) (by kernel_rfl) (fun W1 hW1 => by simp [go_sem]) ?_
                try simp only [Act.put, List.setIfInBounds_toArray, List.set_cons_zero, List.set_cons_succ, List.getElem_toArray, List.getElem_cons_zero, List.getElem_cons_succ]
                go_big_quiet_skip
                try simp only [Act.put, List.setIfInBounds_toArray, List.set_cons_zero, List.set_cons_succ, List.getElem_toArray, List.getElem_cons_zero, List.getElem_cons_succ]
                go_big_quiet_skip
                try simp only [Act.put, List.setIfInBounds_toArray, List.set_cons_zero, List.set_cons_succ, List.getElem_toArray, List.getElem_cons_zero, List.getElem_cons_succ]
                go_big_quiet_skip
                try simp only [Act.put, List.setIfInBounds_toArray, List.set_cons_zero, List.set_cons_succ, List.getElem_toArray, List.getElem_cons_zero, List.getElem_cons_succ]
                go_big_quiet_skip
                try simp only [Act.put, List.setIfInBounds_toArray, List.set_cons_zero, List.set_cons_succ, List.getElem_toArray, List.getElem_cons_zero, List.getElem_cons_succ]
                go_big_quiet_skip
                try simp only [Act.put, List.setIfInBounds_toArray, List.set_cons_zero, List.set_cons_succ, List.getElem_toArray, List.getElem_cons_zero, List.getElem_cons_succ]
                go_big_quiet_skip
                try simp only [Act.put, List.setIfInBounds_toArray, List.set_cons_zero, List.set_cons_succ, List.getElem_toArray, List.getElem_cons_zero, List.getElem_cons_succ]
                go_big_quiet_skip
                try simp only [Act.put, List.setIfInBounds_toArray, List.set_cons_zero, List.set_cons_succ, List.getElem_toArray, List.getElem_cons_zero, List.getElem_cons_succ]
                go_big_quiet_skip
                try simp only [Act.put, List.setIfInBounds_toArray, List.set_cons_zero, List.set_cons_succ, List.getElem_toArray, List.getElem_cons_zero, List.getElem_cons_succ]
                go_big_quiet_skip
                try simp only [Act.put, List.setIfInBounds_toArray, List.set_cons_zero, List.set_cons_succ, List.getElem_toArray, List.getElem_cons_zero, List.getElem_cons_succ]
                go_big_quiet_skip
                try simp only [Act.put, List.setIfInBounds_toArray, List.set_cons_zero, List.set_cons_succ, List.getElem_toArray, List.getElem_cons_zero, List.getElem_cons_succ]
                go_big_quiet_skip
                try simp only [Act.put, List.setIfInBounds_toArray, List.set_cons_zero, List.set_cons_succ, List.getElem_toArray, List.getElem_cons_zero, List.getElem_cons_succ]
                refine q_op (.bool false) (by kernel_rfl) (fun W1 hW1 => by simp [go_sem]) ?_
                try simp only [Act.put, List.setIfInBounds_toArray, List.set_cons_zero, List.set_cons_succ, List.getElem_toArray, List.getElem_cons_zero, List.getElem_cons_succ]
                refine q_op (.bool false) (by kernel_rfl) (fun W1 hW1 => by simp [go_sem]) ?_
                try simp only [Act.put, List.setIfInBounds_toArray, List.set_cons_zero, List.set_cons_succ, List.getElem_toArray, List.getElem_cons_zero, List.getElem_cons_succ]
                refine wpQuiet_nil ?_
                intro Y9 hY9
                go_wp2_with fail
                go_meet
                exact ⟨by rw [Hkb.out]; simp [xw2], hY9⟩
              · rcases keyN_cases hil (by omega) with hq | hq | hq
                · obtain rfl : ky = -1 := Hky.out.symm.trans hq
                  refine region_quiet_class (C := fun w' => Kept No Y2 w') mixed (by kernel_rfl) (Kept.refl _ _).drew ?_
                  refine q_op (.pointer (some ⟨W6.heap.size, 1, none⟩)) (by kernel_rfl) (fun W1 hW1 => by simp [go_sem]) ?_
                  try simp only [Act.put, List.setIfInBounds_toArray, List.set_cons_zero, List.set_cons_succ, List.getElem_toArray, List.getElem_cons_zero, List.getElem_cons_succ]
                  refine q_op (.int .i64 t.weak) (by kernel_rfl) (fun W1 hW1 => by obtain ⟨⟨a0, a1⟩, ⟨b0, b1, b2, b3, b4⟩, ⟨c0, c1⟩⟩ := HCw.out W1 hW1; simp [go_sem, b1]) ?_
                  try simp only [Act.put, List.setIfInBounds_toArray, List.set_cons_zero, List.set_cons_succ, List.getElem_toArray, List.getElem_cons_zero, List.getElem_cons_succ]
                  refine q_op (.bool true) (by kernel_rfl) (fun W1 hW1 => by simp [go_sem, xw2]) ?_
                  try simp only [Act.put, List.setIfInBounds_toArray, List.set_cons_zero, List.set_cons_succ, List.getElem_toArray, List.getElem_cons_zero, List.getElem_cons_succ]
                  refine q_op (.bool true) (by kernel_rfl) (fun W1 hW1 => by simp [go_sem]) ?_
                  try simp only [Act.put, List.setIfInBounds_toArray, List.set_cons_zero, List.set_cons_succ, List.getElem_toArray, List.getElem_cons_zero, List.getElem_cons_succ]
                  refine q_op (.int .i64 (-1)) (by kernel_rfl) (fun W1 hW1 => by simp [go_sem]) ?_
                  try simp only [Act.put, List.setIfInBounds_toArray, List.set_cons_zero, List.set_cons_succ, List.getElem_toArray, List.getElem_cons_zero, List.getElem_cons_succ]
                  refine q_op (.bool false) (by kernel_rfl) (fun W1 hW1 => by simp [go_sem]) ?_
                  try simp only [Act.put, List.setIfInBounds_toArray, List.set_cons_zero, List.set_cons_succ, List.getElem_toArray, List.getElem_cons_zero, List.getElem_cons_succ]
                  refine q_op (.bool false) (by kernel_rfl) (fun W1 hW1 => by simp [go_sem]) ?_
                  try simp only [Act.put, List.setIfInBounds_toArray, List.set_cons_zero, List.set_cons_succ, List.getElem_toArray, List.getElem_cons_zero, List.getElem_cons_succ]
                  refine q_op (.bool false) (by kernel_rfl) (fun W1 hW1 => by simp [go_sem]) ?_
                  try simp only [Act.put, List.setIfInBounds_toArray, List.set_cons_zero, List.set_cons_succ, List.getElem_toArray, List.getElem_cons_zero, List.getElem_cons_succ]
                  go_big_quiet_skip
                  try simp only [Act.put, List.setIfInBounds_toArray, List.set_cons_zero, List.set_cons_succ, List.getElem_toArray, List.getElem_cons_zero, List.getElem_cons_succ]
                  go_big_quiet_skip
                  try simp only [Act.put, List.setIfInBounds_toArray, List.set_cons_zero, List.set_cons_succ, List.getElem_toArray, List.getElem_cons_zero, List.getElem_cons_succ]
                  go_big_quiet_skip
                  try simp only [Act.put, List.setIfInBounds_toArray, List.set_cons_zero, List.set_cons_succ, List.getElem_toArray, List.getElem_cons_zero, List.getElem_cons_succ]
                  go_big_quiet_skip
                  try simp only [Act.put, List.setIfInBounds_toArray, List.set_cons_zero, List.set_cons_succ, List.getElem_toArray, List.getElem_cons_zero, List.getElem_cons_succ]
                  go_big_quiet_skip
                  try simp only [Act.put, List.setIfInBounds_toArray, List.set_cons_zero, List.set_cons_succ, List.getElem_toArray, List.getElem_cons_zero, List.getElem_cons_succ]
                  go_big_quiet_skip
                  try simp only [Act.put, List.setIfInBounds_toArray, List.set_cons_zero, List.set_cons_succ, List.getElem_toArray, List.getElem_cons_zero, List.getElem_cons_succ]
                  go_big_quiet_skip
                  try simp only [Act.put, List.setIfInBounds_toArray, List.set_cons_zero, List.set_cons_succ, List.getElem_toArray, List.getElem_cons_zero, List.getElem_cons_succ]
                  refine q_op (.bool false) (by kernel_rfl) (fun W1 hW1 => by simp [go_sem]) ?_
                  try simp only [Act.put, List.setIfInBounds_toArray, List.set_cons_zero, List.set_cons_succ, List.getElem_toArray, List.getElem_cons_zero, List.getElem_cons_succ]
                  refine q_op (.bool false) (by kernel_rfl) (fun W1 hW1 => by simp [go_sem]) ?_
                  try simp only [Act.put, List.setIfInBounds_toArray, List.set_cons_zero, List.set_cons_succ, List.getElem_toArray, List.getElem_cons_zero, List.getElem_cons_succ]
                  go_big_quiet_skip
                  try simp only [Act.put, List.setIfInBounds_toArray, List.set_cons_zero, List.set_cons_succ, List.getElem_toArray, List.getElem_cons_zero, List.getElem_cons_succ]
                  go_big_quiet_skip
                  try simp only [Act.put, List.setIfInBounds_toArray, List.set_cons_zero, List.set_cons_succ, List.getElem_toArray, List.getElem_cons_zero, List.getElem_cons_succ]
                  go_big_quiet_skip
                  try simp only [Act.put, List.setIfInBounds_toArray, List.set_cons_zero, List.set_cons_succ, List.getElem_toArray, List.getElem_cons_zero, List.getElem_cons_succ]
                  go_big_quiet_skip
                  try simp only [Act.put, List.setIfInBounds_toArray, List.set_cons_zero, List.set_cons_succ, List.getElem_toArray, List.getElem_cons_zero, List.getElem_cons_succ]
                  go_big_quiet_skip
                  try simp only [Act.put, List.setIfInBounds_toArray, List.set_cons_zero, List.set_cons_succ, List.getElem_toArray, List.getElem_cons_zero, List.getElem_cons_succ]
                  go_big_quiet_skip
                  try simp only [Act.put, List.setIfInBounds_toArray, List.set_cons_zero, List.set_cons_succ, List.getElem_toArray, List.getElem_cons_zero, List.getElem_cons_succ]
                  go_big_quiet_skip
                  try simp only [Act.put, List.setIfInBounds_toArray, List.set_cons_zero, List.set_cons_succ, List.getElem_toArray, List.getElem_cons_zero, List.getElem_cons_succ]
                  go_big_quiet_skip
                  try simp only [Act.put, List.setIfInBounds_toArray, List.set_cons_zero, List.set_cons_succ, List.getElem_toArray, List.getElem_cons_zero, List.getElem_cons_succ]
                  go_big_quiet_skip
                  try simp only [Act.put, List.setIfInBounds_toArray, List.set_cons_zero, List.set_cons_succ, List.getElem_toArray, List.getElem_cons_zero, List.getElem_cons_succ]
                  go_big_quiet_skip
                  try simp only [Act.put, List.setIfInBounds_toArray, List.set_cons_zero, List.set_cons_succ, List.getElem_toArray, List.getElem_cons_zero, List.getElem_cons_succ]
                  go_big_quiet_skip
                  try simp only [Act.put, List.setIfInBounds_toArray, List.set_cons_zero, List.set_cons_succ, List.getElem_toArray, List.getElem_cons_zero, List.getElem_cons_succ]
                  refine q_op (.bool false) (by kernel_rfl) (fun W1 hW1 => by simp [go_sem]) ?_
                  try simp only [Act.put, List.setIfInBounds_toArray, List.set_cons_zero, List.set_cons_succ, List.getElem_toArray, List.getElem_cons_zero, List.getElem_cons_succ]
                  refine q_op (.bool false) (by kernel_rfl) (fun W1 hW1 => by simp [go_sem]) ?_
                  try simp only [Act.put, List.setIfInBounds_toArray, List.set_cons_zero, List.set_cons_succ, List.getElem_toArray, List.getElem_cons_zero, List.getElem_cons_succ]
                  refine wpQuiet_nil ?_
                  intro Y9 hY9
                  go_wp2_with fail
                  go_meet
                  exact ⟨by rw [Hkb.out]; simp, hY9⟩
                · exact absurd hq hky2
                · obtain ⟨kk, hkk⟩ : ∃ kk, kk = i - 1 := ⟨_, rfl⟩
                  rw [← hkk] at hq
                  have hkl : kk < t.sl.length := by omega
                  obtain rfl : ky = (kk : Int) := Hky.out.symm.trans hq
                  rw [Int.toNat_natCast] at Hkb
                  obtain ⟨kv, Hkv⟩ : ∃ kv, Hid (t.sl.getD kk (0, 0) = kv) := ⟨_, rfl⟩
                  have HSk0 : Hid (∀ X, Kept No wo X → X.cell? ⟨bo, off2 + kk * 2, none⟩ = some (.int .i64 kv.1) ∧ X.cell? ⟨bo, off2 + kk * 2 + 1, none⟩ = some (.int .i64 kv.2)) := fun X hX => by have := HSl0.out X hX kk hkl; rw [Hkv.out] at this; exact this
                  have k4 : (kk : Int) < (t.sl.length : Int) := by omega
                  have xk : (0 : Int) ≤ (kk : Int) := by omega
                  rw [Hkv.out] at Hkb
                  clear hkk
                  have HSk : Hid (∀ X, Kept No Y2 X → X.cell? ⟨bo, off2 + kk * 2, none⟩ = some (.int .i64 kv.1) ∧ X.cell? ⟨bo, off2 + kk * 2 + 1, none⟩ = some (.int .i64 kv.2)) := fun X hX => HSk0.out X (HKo.out.trans (HB7.out.trans hX))
                  cases xh2 : held T kv
                  · refine region_quiet_class (C := fun w' => Kept No Y2 w') mixed (by kernel_rfl) (Kept.refl _ _).drew ?_
                    refine q_op (.pointer (some ⟨W6.heap.size, 1, none⟩)) (by kernel_rfl) (fun W1 hW1 => by simp [go_sem]) ?_
                    try simp only [Act.put, List.setIfInBounds_toArray, List.set_cons_zero, List.set_cons_succ, List.getElem_toArray, List.getElem_cons_zero, List.getElem_cons_succ]
                    refine q_op (.int .i64 t.weak) (by kernel_rfl) (fun W1 hW1 => by obtain ⟨⟨a0, a1⟩, ⟨b0, b1, b2, b3, b4⟩, ⟨c0, c1⟩⟩ := HCw.out W1 hW1; simp [go_sem, b1]) ?_
                    try simp only [Act.put, List.setIfInBounds_toArray, List.set_cons_zero, List.set_cons_succ, List.getElem_toArray, List.getElem_cons_zero, List.getElem_cons_succ]
                    refine q_op (.bool true) (by kernel_rfl) (fun W1 hW1 => by simp [go_sem, xw2]) ?_
                    try simp only [Act.put, List.setIfInBounds_toArray, List.set_cons_zero, List.set_cons_succ, List.getElem_toArray, List.getElem_cons_zero, List.getElem_cons_succ]
                    refine q_op (.bool true) (by kernel_rfl) (fun W1 hW1 => by simp [go_sem]) ?_
                    try simp only [Act.put, List.setIfInBounds_toArray, List.set_cons_zero, List.set_cons_succ, List.getElem_toArray, List.getElem_cons_zero, List.getElem_cons_succ]
                    refine q_op (.int .i64 (kk : Int)) (by kernel_rfl) (fun W1 hW1 => by simp [go_sem]) ?_
                    try simp only [Act.put, List.setIfInBounds_toArray, List.set_cons_zero, List.set_cons_succ, List.getElem_toArray, List.getElem_cons_zero, List.getElem_cons_succ]
                    refine q_op (.bool true) (by kernel_rfl) (fun W1 hW1 => by simp [go_sem, xk]) ?_
                    try simp only [Act.put, List.setIfInBounds_toArray, List.set_cons_zero, List.set_cons_succ, List.getElem_toArray, List.getElem_cons_zero, List.getElem_cons_succ]
                    refine q_op (.bool true) (by kernel_rfl) (fun W1 hW1 => by simp [go_sem]) ?_
                    try simp only [Act.put, List.setIfInBounds_toArray, List.set_cons_zero, List.set_cons_succ, List.getElem_toArray, List.getElem_cons_zero, List.getElem_cons_succ]
                    refine q_op (.bool true) (by kernel_rfl) (fun W1 hW1 => by simp [go_sem]) ?_
                    try simp only [Act.put, List.setIfInBounds_toArray, List.set_cons_zero, List.set_cons_succ, List.getElem_toArray, List.getElem_cons_zero, List.getElem_cons_succ]
                    refine q_op (AG (some ⟨b, off, none⟩) T.length cap ro R.length rc) (by kernel_rfl) (fun W1 hW1 => by obtain ⟨⟨a0, a1⟩, ⟨b0, b1, b2, b3, b4⟩, ⟨c0, c1⟩⟩ := HCw.out W1 hW1; simp [go_sem, a0, a1]) ?_
                    try simp only [Act.put, List.setIfInBounds_toArray, List.set_cons_zero, List.set_cons_succ, List.getElem_toArray, List.getElem_cons_zero, List.getElem_cons_succ]
                    refine q_op (.pointer (some ⟨W6.heap.size, 3, none⟩)) (by kernel_rfl) (fun W1 hW1 => by simp [go_sem]) ?_
                    try simp only [Act.put, List.setIfInBounds_toArray, List.set_cons_zero, List.set_cons_succ, List.getElem_toArray, List.getElem_cons_zero, List.getElem_cons_succ]
                    refine q_op (.slice (some ⟨bo, off2, none⟩) t.sl.length sc) (by kernel_rfl) (fun W1 hW1 => by obtain ⟨⟨a0, a1⟩, ⟨b0, b1, b2, b3, b4⟩, ⟨c0, c1⟩⟩ := HCw.out W1 hW1; simp [go_sem, b3]) ?_
                    try simp only [Act.put, List.setIfInBounds_toArray, List.set_cons_zero, List.set_cons_succ, List.getElem_toArray, List.getElem_cons_zero, List.getElem_cons_succ]
                    refine q_op (.int .i64 kk) (by kernel_rfl) (fun W1 hW1 => by simp [go_sem]) ?_
                    try simp only [Act.put, List.setIfInBounds_toArray, List.set_cons_zero, List.set_cons_succ, List.getElem_toArray, List.getElem_cons_zero, List.getElem_cons_succ]
                    refine q_op (.pointer (some ⟨bo, off2 + kk * 2, none⟩)) (by kernel_rfl) (fun W1 hW1 => by simp [go_sem, k4]) ?_
                    try simp only [Act.put, List.setIfInBounds_toArray, List.set_cons_zero, List.set_cons_succ, List.getElem_toArray, List.getElem_cons_zero, List.getElem_cons_succ]
                    refine q_op (AV kv) (by kernel_rfl) (fun W1 hW1 => by obtain ⟨a3, a4⟩ := HSk.out W1 hW1; simp [go_sem, a3, a4]) ?_
                    try simp only [Act.put, List.setIfInBounds_toArray, List.set_cons_zero, List.set_cons_succ, List.getElem_toArray, List.getElem_cons_zero, List.getElem_cons_succ]
                    refine q_call 24 #[AG (some ⟨b, off, none⟩) T.length cap ro R.length rc, AV kv] (.bool false) (by kernel_rfl) (fun W1 hW1 => by simp [go_sem]) (fun W1 hW1 => by have := HWk.out W1 (HKY.out.trans hW1) kv; rw [xh2] at this; exact this.mono (fun e w' ⟨h1, h2⟩ => ⟨h1, hW1.trans h2⟩)) ?_
                    try simp only [Act.put, List.setIfInBounds_toArray, List.set_cons_zero, List.set_cons_succ, List.getElem_toArray, List.getElem_cons_zero, List.getElem_cons_succ]
                    refine q_op (.bool false) (by kernel_rfl) (fun W1 hW1 => by simp [go_sem]) ?_
                    try simp only [Act.put, List.setIfInBounds_toArray, List.set_cons_zero, List.set_cons_succ, List.getElem_toArray, List.getElem_cons_zero, List.getElem_cons_succ]
                    refine q_op (.bool false) (by kernel_rfl) (fun W1 hW1 => by simp [go_sem]) ?_
                    try simp only [Act.put, List.setIfInBounds_toArray, List.set_cons_zero, List.set_cons_succ, List.getElem_toArray, List.getElem_cons_zero, List.getElem_cons_succ]
                    go_big_quiet_skip
                    try simp only [Act.put, List.setIfInBounds_toArray, List.set_cons_zero, List.set_cons_succ, List.getElem_toArray, List.getElem_cons_zero, List.getElem_cons_succ]
                    go_big_quiet_skip
                    try simp only [Act.put, List.setIfInBounds_toArray, List.set_cons_zero, List.set_cons_succ, List.getElem_toArray, List.getElem_cons_zero, List.getElem_cons_succ]
                    go_big_quiet_skip
                    try simp only [Act.put, List.setIfInBounds_toArray, List.set_cons_zero, List.set_cons_succ, List.getElem_toArray, List.getElem_cons_zero, List.getElem_cons_succ]
                    go_big_quiet_skip
                    try simp only [Act.put, List.setIfInBounds_toArray, List.set_cons_zero, List.set_cons_succ, List.getElem_toArray, List.getElem_cons_zero, List.getElem_cons_succ]
                    go_big_quiet_skip
                    try simp only [Act.put, List.setIfInBounds_toArray, List.set_cons_zero, List.set_cons_succ, List.getElem_toArray, List.getElem_cons_zero, List.getElem_cons_succ]
                    go_big_quiet_skip
                    try simp only [Act.put, List.setIfInBounds_toArray, List.set_cons_zero, List.set_cons_succ, List.getElem_toArray, List.getElem_cons_zero, List.getElem_cons_succ]
                    go_big_quiet_skip
                    try simp only [Act.put, List.setIfInBounds_toArray, List.set_cons_zero, List.set_cons_succ, List.getElem_toArray, List.getElem_cons_zero, List.getElem_cons_succ]
                    go_big_quiet_skip
                    try simp only [Act.put, List.setIfInBounds_toArray, List.set_cons_zero, List.set_cons_succ, List.getElem_toArray, List.getElem_cons_zero, List.getElem_cons_succ]
                    go_big_quiet_skip
                    try simp only [Act.put, List.setIfInBounds_toArray, List.set_cons_zero, List.set_cons_succ, List.getElem_toArray, List.getElem_cons_zero, List.getElem_cons_succ]
                    go_big_quiet_skip
                    try simp only [Act.put, List.setIfInBounds_toArray, List.set_cons_zero, List.set_cons_succ, List.getElem_toArray, List.getElem_cons_zero, List.getElem_cons_succ]
                    go_big_quiet_skip
                    try simp only [Act.put, List.setIfInBounds_toArray, List.set_cons_zero, List.set_cons_succ, List.getElem_toArray, List.getElem_cons_zero, List.getElem_cons_succ]
                    refine q_op (.bool false) (by kernel_rfl) (fun W1 hW1 => by simp [go_sem]) ?_
                    try simp only [Act.put, List.setIfInBounds_toArray, List.set_cons_zero, List.set_cons_succ, List.getElem_toArray, List.getElem_cons_zero, List.getElem_cons_succ]
                    refine q_op (.bool false) (by kernel_rfl) (fun W1 hW1 => by simp [go_sem]) ?_
                    try simp only [Act.put, List.setIfInBounds_toArray, List.set_cons_zero, List.set_cons_succ, List.getElem_toArray, List.getElem_cons_zero, List.getElem_cons_succ]
                    refine wpQuiet_nil ?_
                    intro Y9 hY9
                    go_wp2_with fail
                    go_meet
                    exact ⟨by rw [Hkb.out, xh2]; simp, hY9⟩
                  · obtain ⟨xlN2, xg3, xg4⟩ := held_lt xh2
                    have xn2 : kv.2 = (ix kv : Int) + 1 := by unfold ix; omega
                    have xm2 : (ix kv : Int) + 1 - 1 = (ix kv : Int) := by omega
                    have xl2 : (ix kv : Int) < (T.length : Int) := by omega
                    refine region_quiet_class (C := fun w' => Kept No Y2 w') mixed (by kernel_rfl) (Kept.refl _ _).drew ?_
                    refine q_op (.pointer (some ⟨W6.heap.size, 1, none⟩)) (by kernel_rfl) (fun W1 hW1 => by simp [go_sem]) ?_
                    try simp only [Act.put, List.setIfInBounds_toArray, List.set_cons_zero, List.set_cons_succ, List.getElem_toArray, List.getElem_cons_zero, List.getElem_cons_succ]
                    refine q_op (.int .i64 t.weak) (by kernel_rfl) (fun W1 hW1 => by obtain ⟨⟨a0, a1⟩, ⟨b0, b1, b2, b3, b4⟩, ⟨c0, c1⟩⟩ := HCw.out W1 hW1; simp [go_sem, b1]) ?_
                    try simp only [Act.put, List.setIfInBounds_toArray, List.set_cons_zero, List.set_cons_succ, List.getElem_toArray, List.getElem_cons_zero, List.getElem_cons_succ]
                    refine q_op (.bool true) (by kernel_rfl) (fun W1 hW1 => by simp [go_sem, xw2]) ?_
                    try simp only [Act.put, List.setIfInBounds_toArray, List.set_cons_zero, List.set_cons_succ, List.getElem_toArray, List.getElem_cons_zero, List.getElem_cons_succ]
                    refine q_op (.bool true) (by kernel_rfl) (fun W1 hW1 => by simp [go_sem]) ?_
                    try simp only [Act.put, List.setIfInBounds_toArray, List.set_cons_zero, List.set_cons_succ, List.getElem_toArray, List.getElem_cons_zero, List.getElem_cons_succ]
                    refine q_op (.int .i64 (kk : Int)) (by kernel_rfl) (fun W1 hW1 => by simp [go_sem]) ?_
                    try simp only [Act.put, List.setIfInBounds_toArray, List.set_cons_zero, List.set_cons_succ, List.getElem_toArray, List.getElem_cons_zero, List.getElem_cons_succ]
                    refine q_op (.bool true) (by kernel_rfl) (fun W1 hW1 => by simp [go_sem, xk]) ?_
                    try simp only [Act.put, List.setIfInBounds_toArray, List.set_cons_zero, List.set_cons_succ, List.getElem_toArray, List.getElem_cons_zero, List.getElem_cons_succ]
                    refine q_op (.bool true) (by kernel_rfl) (fun W1 hW1 => by simp [go_sem]) ?_
                    try simp only [Act.put, List.setIfInBounds_toArray, List.set_cons_zero, List.set_cons_succ, List.getElem_toArray, List.getElem_cons_zero, List.getElem_cons_succ]
                    refine q_op (.bool true) (by kernel_rfl) (fun W1 hW1 => by simp [go_sem]) ?_
                    try simp only [Act.put, List.setIfInBounds_toArray, List.set_cons_zero, List.set_cons_succ, List.getElem_toArray, List.getElem_cons_zero, List.getElem_cons_succ]
                    refine q_op (AG (some ⟨b, off, none⟩) T.length cap ro R.length rc) (by kernel_rfl) (fun W1 hW1 => by obtain ⟨⟨a0, a1⟩, ⟨b0, b1, b2, b3, b4⟩, ⟨c0, c1⟩⟩ := HCw.out W1 hW1; simp [go_sem, a0, a1]) ?_
                    try simp only [Act.put, List.setIfInBounds_toArray, List.set_cons_zero, List.set_cons_succ, List.getElem_toArray, List.getElem_cons_zero, List.getElem_cons_succ]
                    refine q_op (.pointer (some ⟨W6.heap.size, 3, none⟩)) (by kernel_rfl) (fun W1 hW1 => by simp [go_sem]) ?_
                    try simp only [Act.put, List.setIfInBounds_toArray, List.set_cons_zero, List.set_cons_succ, List.getElem_toArray, List.getElem_cons_zero, List.getElem_cons_succ]
                    refine q_op (.slice (some ⟨bo, off2, none⟩) t.sl.length sc) (by kernel_rfl) (fun W1 hW1 => by obtain ⟨⟨a0, a1⟩, ⟨b0, b1, b2, b3, b4⟩, ⟨c0, c1⟩⟩ := HCw.out W1 hW1; simp [go_sem, b3]) ?_
                    try simp only [Act.put, List.setIfInBounds_toArray, List.set_cons_zero, List.set_cons_succ, List.getElem_toArray, List.getElem_cons_zero, List.getElem_cons_succ]
                    refine q_op (.int .i64 kk) (by kernel_rfl) (fun W1 hW1 => by simp [go_sem]) ?_
                    try simp only [Act.put, List.setIfInBounds_toArray, List.set_cons_zero, List.set_cons_succ, List.getElem_toArray, List.getElem_cons_zero, List.getElem_cons_succ]
                    refine q_op (.pointer (some ⟨bo, off2 + kk * 2, none⟩)) (by kernel_rfl) (fun W1 hW1 => by simp [go_sem, k4]) ?_
                    try simp only [Act.put, List.setIfInBounds_toArray, List.set_cons_zero, List.set_cons_succ, List.getElem_toArray, List.getElem_cons_zero, List.getElem_cons_succ]
                    refine q_op (AV kv) (by kernel_rfl) (fun W1 hW1 => by obtain ⟨a3, a4⟩ := HSk.out W1 hW1; simp [go_sem, a3, a4]) ?_
                    try simp only [Act.put, List.setIfInBounds_toArray, List.set_cons_zero, List.set_cons_succ, List.getElem_toArray, List.getElem_cons_zero, List.getElem_cons_succ]
                    refine q_call 24 #[AG (some ⟨b, off, none⟩) T.length cap ro R.length rc, AV kv] (.bool true) (by kernel_rfl) (fun W1 hW1 => by simp [go_sem]) (fun W1 hW1 => by have := HWk.out W1 (HKY.out.trans hW1) kv; rw [xh2] at this; exact this.mono (fun e w' ⟨h1, h2⟩ => ⟨h1, hW1.trans h2⟩)) ?_
                    try simp only [Act.put, List.setIfInBounds_toArray, List.set_cons_zero, List.set_cons_succ, List.getElem_toArray, List.getElem_cons_zero, List.getElem_cons_succ]
                    refine q_op (.bool true) (by kernel_rfl) (fun W1 hW1 => by simp [go_sem]) ?_
                    try simp only [Act.put, List.setIfInBounds_toArray, List.set_cons_zero, List.set_cons_succ, List.getElem_toArray, List.getElem_cons_zero, List.getElem_cons_succ]
                    refine q_op (.bool true) (by kernel_rfl) (fun W1 hW1 => by simp [go_sem]) ?_
                    try simp only [Act.put, List.setIfInBounds_toArray, List.set_cons_zero, List.set_cons_succ, List.getElem_toArray, List.getElem_cons_zero, List.getElem_cons_succ]
                    refine q_op (SLN n5 T.length) (by kernel_rfl) (fun W1 hW1 => by simp [go_sem]) ?_
                    try simp only [Act.put, List.setIfInBounds_toArray, List.set_cons_zero, List.set_cons_succ, List.getElem_toArray, List.getElem_cons_zero, List.getElem_cons_succ]
                    refine q_op (.pointer (some ⟨W6.heap.size, 3, none⟩)) (by kernel_rfl) (fun W1 hW1 => by simp [go_sem]) ?_
                    try simp only [Act.put, List.setIfInBounds_toArray, List.set_cons_zero, List.set_cons_succ, List.getElem_toArray, List.getElem_cons_zero, List.getElem_cons_succ]
                    refine q_op (.slice (some ⟨bo, off2, none⟩) t.sl.length sc) (by kernel_rfl) (fun W1 hW1 => by obtain ⟨⟨a0, a1⟩, ⟨b0, b1, b2, b3, b4⟩, ⟨c0, c1⟩⟩ := HCw.out W1 hW1; simp [go_sem, b3]) ?_
                    try simp only [Act.put, List.setIfInBounds_toArray, List.set_cons_zero, List.set_cons_succ, List.getElem_toArray, List.getElem_cons_zero, List.getElem_cons_succ]
                    refine q_op (.int .i64 kk) (by kernel_rfl) (fun W1 hW1 => by simp [go_sem]) ?_
                    try simp only [Act.put, List.setIfInBounds_toArray, List.set_cons_zero, List.set_cons_succ, List.getElem_toArray, List.getElem_cons_zero, List.getElem_cons_succ]
                    refine q_op (.pointer (some ⟨bo, off2 + kk * 2, none⟩)) (by kernel_rfl) (fun W1 hW1 => by simp [go_sem, k4]) ?_
                    try simp only [Act.put, List.setIfInBounds_toArray, List.set_cons_zero, List.set_cons_succ, List.getElem_toArray, List.getElem_cons_zero, List.getElem_cons_succ]
                    refine q_op (.pointer (some ⟨bo, off2 + kk * 2 + 1, none⟩)) (by kernel_rfl) (fun W1 hW1 => by simp [go_sem]) ?_
                    try simp only [Act.put, List.setIfInBounds_toArray, List.set_cons_zero, List.set_cons_succ, List.getElem_toArray, List.getElem_cons_zero, List.getElem_cons_succ]
                    refine q_op (.int .i64 ((ix kv : Int) + 1)) (by kernel_rfl) (fun W1 hW1 => by obtain ⟨a3, a4⟩ := HSk.out W1 hW1; rw [xn2] at a4; simp [go_sem, a4]) ?_
                    try simp only [Act.put, List.setIfInBounds_toArray, List.set_cons_zero, List.set_cons_succ, List.getElem_toArray, List.getElem_cons_zero, List.getElem_cons_succ]
                    refine q_op (.int .i64 (ix kv : Int)) (by kernel_rfl) (fun W1 hW1 => by simp [go_sem]; rw [IntKind.wrap_i64]; omega) ?_
                    try simp only [Act.put, List.setIfInBounds_toArray, List.set_cons_zero, List.set_cons_succ, List.getElem_toArray, List.getElem_cons_zero, List.getElem_cons_succ]
                    refine q_op (.pointer (some ⟨n5, ix kv, none⟩)) (by kernel_rfl) (fun W1 hW1 => by simp [go_sem, xl2]) ?_
                    try simp only [Act.put, List.setIfInBounds_toArray, List.set_cons_zero, List.set_cons_succ, List.getElem_toArray, List.getElem_cons_zero, List.getElem_cons_succ]
                    refine q_op (.bool (F.getD (ix kv) true)) (by kernel_rfl) (fun W1 hW1 => by have a5 := HF5.out W1 (HKZ.out.trans hW1) (ix kv) xlN2; simp [go_sem, a5]) ?_
                    try simp only [Act.put, List.setIfInBounds_toArray, List.set_cons_zero, List.set_cons_succ, List.getElem_toArray, List.getElem_cons_zero, List.getElem_cons_succ]
                    refine q_op (.bool (!F.getD (ix kv) true)) (by kernel_rfl) (fun W1 hW1 => by simp [go_sem]) ?_
                    try simp only [Act.put, List.setIfInBounds_toArray, List.set_cons_zero, List.set_cons_succ, List.getElem_toArray, List.getElem_cons_zero, List.getElem_cons_succ]
                    refine q_op (.bool (!F.getD (ix kv) true)) (by kernel_rfl) (fun W1 hW1 => by simp [go_sem]) ?_
                    try simp only [Act.put, List.setIfInBounds_toArray, List.set_cons_zero, List.set_cons_succ, List.getElem_toArray, List.getElem_cons_zero, List.getElem_cons_succ]
                    refine q_op (.bool (!F.getD (ix kv) true)) (by kernel_rfl) (fun W1 hW1 => by simp [go_sem]) ?_
                    try simp only [Act.put, List.setIfInBounds_toArray, List.set_cons_zero, List.set_cons_succ, List.getElem_toArray, List.getElem_cons_zero, List.getElem_cons_succ]
                    refine wpQuiet_nil ?_
                    intro Y9 hY9
                    go_wp2_with fail
                    go_meet
                    exact ⟨by rw [Hkb.out, xh2, decide_eq_true (show ¬ t.weak = 2 from xw2), decide_eq_true xk]; rfl, hY9⟩
          case rest =>
            obtain ⟨rfl, hY3⟩ := hcut
            have HKZ3 : Hid (Kept No w5 wc) := HKZ.out.trans hY3
            have hor : vb = true ∨ kb = true := by
              rcases HTdH.out with ⟨xw, xh, xf⟩ | ⟨xw2, kk, hkk, hkl, xh2, xf2⟩
              · rw [Hv.out] at xh xf
                exact .inl (by rw [Hvb.out, xh, xf]; simp [xw])
              · obtain rfl : ky = (kk : Int) := Hky.out.symm.trans hkk
                exact .inr (by rw [Hkb.out, Int.toNat_natCast, xh2, xf2]; simp [xw2])
            clear hY3 HKZ HKY HB7 Hvb Hkb
            rcases hor with rfl | rfl
            · go_wp2_with fail
              go_roundw
              case rel => exact ⟨k + 1, by omega, by go_num, HKZ3.out⟩
              case measure => simp [intOf]; omega
            · cases vb
              · go_wp2_with fail
                go_roundw
                case rel => exact ⟨k + 1, by omega, by go_num, HKZ3.out⟩
                case measure => simp [intOf]; omega
              · go_wp2_with fail
                go_roundw
                case rel => exact ⟨k + 1, by omega, by go_num, HKZ3.out⟩
                case measure => simp [intOf]; omega
    · have k1 : ¬ (k : Int) < (LE.length : Int) := by omega
      go_wp2_with fail
      go_at_call 11
      refine Calls.mono (HAl.out _) ?_
      rintro e w7 ⟨rfl, hk7⟩
      have HK7 : Hid (Kept No w w7) := HK.out.trans (HK5w.out.trans (HJ.out.trans hk7))
      clear hk7
      go_wp2
      go_ret
      exact ⟨rfl, HK7.out⟩
end Go.Proofs.Ytnofmpbdfcolfaa
