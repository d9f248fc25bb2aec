/- ReachClosed. -/
import Derived.Test.YtnofmpbdfcolfaaY2
import Derived.Test.YtnofmpbdfcolfaaF1
namespace Go.Proofs.Ytnofmpbdfcolfaa
open Go.RowKit Go.Shelf
set_option linter.unusedSimpArgs false
set_option linter.unusedVariables false

set_option maxRecDepth 20000 in
set_option maxHeartbeats 8000000 in
theorem ReachClosed_any {w : World} {tv rv : Value} {T : List Th} {R : List V} (hT : RdT w tv T) (hR : RdV w rv R) (hn : T.length ≤ 140737488355328) (hRn : R.length ≤ 140737488355328) (hs : ∀ t ∈ T, t.sl.length ≤ 140737488355328) :
    Calls Try.prog 7 #[.agg #[tv, rv]] w fun e w' => e = .returned (.bool true) ∧ Kept No w w' := by
  have HT : Hid (RdT w tv T) := hT
  have HR : Hid (RdV w rv R) := hR
  have HAl : Hid (∀ W, Calls Try.prog 11 #[] W fun e w' => e = .returned (.bool true) ∧ Kept No W w') := fun W => alive_any W
  have HBd : Hid (smallB T R = true → T.length ≤ 60 ∧ R.length ≤ 600 ∧ ∀ t ∈ T, t.sl.length ≤ 600) := small_bd
  have HSm : Hid (∀ X, Kept No w X → Calls Try.prog 10 #[.agg #[tv, rv]] X fun e w' => e = .returned (.bool (smallB T R)) ∧ Kept No X w') := fun X hX => Small_any (hT.no hX) (hR.no hX) hn hRn hs
  obtain ⟨ao, cap, htv, _⟩ := hT
  obtain ⟨ro, rc, hrv, _⟩ := hR
  subst htv hrv
  obtain ⟨W, HWd⟩ : ∃ W, Hid (W = w.alloc (.cells #[.slice ao T.length cap, .slice ro R.length rc] 25)) := ⟨_, rfl⟩
  have HK : Hid (Kept No w W) := by show Kept _ _ _; rw [HWd.out]; exact (Kept.refl _ _).alloc _
  have HGx : Hid (W.heap[w.heap.size]? = some (.cells #[.slice ao T.length cap, .slice ro R.length rc] 25 (0, 0))) := by show _ = _; rw [HWd.out]; exact World.alloc_heap_new w _
  have HGc : Hid (∀ X, Kept No W X → X.cell? ⟨w.heap.size, 0, none⟩ = some (.slice ao T.length cap) ∧ X.cell? ⟨w.heap.size, 1, none⟩ = some (.slice ro R.length rc)) := fun X hX => by
    have hx := hX.heap HGx.out id
    exact ⟨by rw [cell_of hx]; rfl, by rw [cell_of hx]; rfl⟩
  obtain ⟨g0, g1⟩ := HGc.out W (Kept.refl _ _)
  have HC : Hid _ := HSm.out W HK.out
  obtain ⟨sm, HSe⟩ : ∃ sm, Hid (smallB T R = sm) := ⟨_, rfl⟩
  rw [HSe.out] at HC HBd
  clear HSm HSe hs hn hRn
  go_enter Try.func7, Try.ntmps7
  go_wp2_with (first | rw [← HWd.out])
  refine Calls.mono HC.out ?_
  rintro e w1 ⟨rfl, hk1⟩
  have HK1 : Hid (Kept No W w1) := hk1
  obtain ⟨g2, g3⟩ := HGc.out w1 hk1
  clear hk1 HC g0 g1 HWd
  cases sm
  · go_wp2_with fail
    go_at_call 11
    refine Calls.mono (HAl.out _) ?_
    rintro e w3 ⟨rfl, hk3⟩
    have HK3 : Hid (Kept No w w3) := HK.out.trans (HK1.out.trans hk3)
    clear hk3
    go_wp2
    go_ret
    exact ⟨rfl, HK3.out⟩
  obtain ⟨hn60, hR600, hs600⟩ := HBd.out rfl
  have HSl : Hid (∀ t ∈ T, t.sl.length ≤ 600) := hs600
  clear hs600 HBd
  have HC2 : Hid (Calls Try.prog 16 #[AG ao T.length cap ro R.length rc] w1 fun e w' => e = .returned (.bool (rGraph T R)) ∧ Kept No w1 w') := RRight_any (HT.out.no (HK.out.trans HK1.out)) (HR.out.no (HK.out.trans HK1.out)) (by omega) (fun t ht => by have := HSl.out t ht; omega) (by omega)
  obtain ⟨rt, HRe⟩ : ∃ rt, Hid (rGraph T R = rt) := ⟨_, rfl⟩
  rw [HRe.out] at HC2
  go_wp2_with fail
  refine Calls.mono HC2.out ?_
  rintro e w2 ⟨rfl, hk2⟩
  have HK2 : Hid (Kept No W w2) := HK1.out.trans hk2
  obtain ⟨g4, g5⟩ := HGc.out w2 HK2.out
  clear hk2 HC2 g2 g3 HK1
  cases rt
  · go_wp2_with fail
    go_at_call 11
    refine Calls.mono (HAl.out _) ?_
    rintro e w3 ⟨rfl, hk3⟩
    have HK3 : Hid (Kept No w w3) := HK.out.trans (HK2.out.trans hk3)
    clear hk3
    go_wp2
    go_ret
    exact ⟨rfl, HK3.out⟩
  have HOk : Hid (∀ h, h < T.length → okH T h) := (right_iff.1 HRe.out).1
  have HC3 : Hid _ := Collect_any (HT.out.no (HK.out.trans HK2.out)) (HR.out.no (HK.out.trans HK2.out)) (by omega) (fun t ht => by have := HSl.out t ht; omega) (by omega)
  go_wp2_with fail
  refine Calls.mono HC3.out ?_
  rintro e w3 ⟨lv, pv, ev, D, rfl, nb, rfl, hnb, hpd, hir, hen, hk3⟩
  obtain ⟨po, pc, rfl⟩ := hir.form
  obtain ⟨eo, ec, rfl⟩ := hen.form
  have HPd : Hid (Pd T (strong T R []) D) := hpd
  rw [hdl_len] at hir
  obtain ⟨LE, HLE⟩ : ∃ LE, Hid (LE = clrTo T (strong T R []) (strong T R (hdl D)) T.length) := ⟨_, rfl⟩
  rw [← HLE.out] at hen
  rw [hdl_len, ← HLE.out]
  have HLn : Hid ((strong T R (hdl D)).length = T.length) := strong_len T R _
  obtain ⟨w4, HW4⟩ : ∃ X, Hid (X = w3.alloc (.cells #[SLN nb T.length, .slice po D.length pc, .slice eo LE.length ec] 37)) := ⟨_, rfl⟩
  have hk4 : Kept No w3 w4 := by rw [HW4.out]; exact (Kept.refl _ _).alloc _
  have hb4 : w4.heap[w3.heap.size]? = some (.cells #[SLN nb T.length, .slice po D.length pc, .slice eo LE.length ec] 37 (0, 0)) := by rw [HW4.out]; exact World.alloc_heap_new w3 _
  have HK4 : Hid (Kept No W w4) := HK2.out.trans (hk3.trans hk4)
  have HB4 : Hid _ := hb4
  have HNb : Hid _ := hk4.heap hnb id
  have HE4 : Hid (EnRow w4 w2.heap.size (.slice eo LE.length ec) LE) := hen.no hk4
  have hLEn : LE.length ≤ 60000 := by
    have := clrTo_len T (strong T R []) (strong T R (hdl D)) (fun i => by
      by_cases hi : i < T.length
      · rw [thAt_eq hi]; have := HSl.out T[i] (List.getElem_mem hi); omega
      · unfold thAt; simp [List.getD, hi]) T.length
    rw [HLE.out]; omega
  have HNL : Hid (∀ X, Kept No w4 X → ∀ j, j < T.length → X.cell? ⟨nb, j, none⟩ = some (.bool ((strong T R (hdl D)).getD j true))) := fun X hX j hj => by
    rw [cell_of (hX.heap HNb.out id)]; exact bc_get _ _ (by rw [strong_len]; exact hj)
  have HB5 : Hid (∀ X, Kept No w4 X → X.cell? ⟨w3.heap.size, 0, none⟩ = some (SLN nb T.length) ∧ X.cell? ⟨w3.heap.size, 1, none⟩ = some (.slice po D.length pc) ∧ X.cell? ⟨w3.heap.size, 2, none⟩ = some (.slice eo LE.length ec)) := fun X hX => by
    have hx := hX.heap HB4.out id
    exact ⟨by rw [cell_of hx]; rfl, by rw [cell_of hx]; rfl, by rw [cell_of hx]; rfl⟩
  have HTh : Hid (∀ X, Kept No w X → ∀ j (hj : j < T.length), ∃ b off so sc, ao = some ⟨b, off, none⟩ ∧ X.cell? ⟨b, off + j * 5, none⟩ = some (.int .i64 (thAt T j).kind) ∧ X.cell? ⟨b, off + j * 5 + 1, none⟩ = some (.int .i64 (thAt T j).weak) ∧ X.cell? ⟨b, off + j * 5 + 2, none⟩ = some (.int .i64 (thAt T j).arr) ∧ X.cell? ⟨b, off + j * 5 + 3, none⟩ = some (.slice so (thAt T j).sl.length sc) ∧ X.cell? ⟨b, off + j * 5 + 4, none⟩ = some (.int .i64 (thAt T j).fin) ∧ RdV X (.slice so (thAt T j).sl.length sc) (thAt T j).sl ∧ (thAt T j).sl.length ≤ 600) := fun X hX j hj => by
    obtain ⟨ao', cap', e, hq⟩ := HT.out.no hX
    injection e with e1 e2 e3
    subst e1
    obtain ⟨b, off, sv, e2, h1, h2, h3, h4, h5, h6⟩ := hq j hj
    rw [thAt_eq hj]
    obtain ⟨so, sc, rfl, h7⟩ := h6
    exact ⟨b, off, so, sc, e2, h1, h2, h3, h4, h5, ⟨so, sc, rfl, h7⟩, HSl.out _ (List.getElem_mem hj)⟩
  have HOb : Hid (∀ X, Kept No w X → ∀ v, Calls Try.prog 21 #[AG ao T.length cap ro R.length rc, AV v] X fun e w' => e = .returned (.int .i64 (objN T v)) ∧ Kept No X w') := fun X hX v => RObject_any (HT.out.no hX) (by omega) v
  have HCl : Hid (∀ X, Kept No w4 X → ∀ x y, Calls Try.prog 22 #[.agg #[SLN nb T.length, .slice po D.length pc, .slice eo LE.length ec], .int .i64 x, .int .i64 y] X fun e w' => e = .returned (.bool (decide ((x, y) ∈ LE))) ∧ Kept No X w') := fun X hX x y => cleared22_any (HE4.out.no hX) (by omega) x y
  have HRd : Hid (∀ X, Kept No w X → ∀ j (hj : j < R.length), ∃ b off, ro = some ⟨b, off, none⟩ ∧ X.cell? ⟨b, off + j * 2, none⟩ = some (.int .i64 R[j].1) ∧ X.cell? ⟨b, off + j * 2 + 1, none⟩ = some (.int .i64 R[j].2)) := fun X hX j hj => by
    obtain ⟨ao', cap', e, hq⟩ := HR.out.no hX
    injection e with e1 e2 e3
    subst e1
    exact hq j hj
  have HCs : Hid (∀ h i, h < T.length → (strong T R (hdl D)).getD h true = true → i < (thAt T h).sl.length → obj T ((thAt T h).sl.getD i (0, 0)) = true → (strong T R (hdl D)).getD (ix ((thAt T h).sl.getD i (0, 0))) true = false →
    ((h : Int) + 1, (i : Int)) ∈ LE ∨ (0 < (thAt T h).weak ∧ ((h : Int) + 1, (i : Int) + 1) ∈ LE ∧ keyN (thAt T h) (i + 1) = (i : Int) ∧ i + 1 < (thAt T h).sl.length)) := fun h i h1 h2 h3 h4 h5 => by rw [HLE.out]; exact closed_slot h1 h2 h3 h4 h5
  have HRl : Hid (∀ v ∈ R, obj T v = true → (strong T R (hdl D)).getD (ix v) true = true) := fun v hv ho => (strong_iff _ _ _ _ (obj_ix ho).1).2 (Nd.root v hv ho)
  obtain ⟨q4, q5⟩ := HGc.out w4 HK4.out
  obtain ⟨q6, q7, q8⟩ := HB5.out w4 (Kept.refl _ _)
  clear hk4 hb4 hnb hir hen hpd hk3 HC3 g4 g5 HRe HLE
  generalize strong T R (hdl D) = L at *
  go_wp2_with (first | rw [← HW4.out])
  clear HW4
  go_loopw [4, 5, 6, 7, 28, 29, 30, 31, 32, 33, 34, 35, 36, 37, 38, 39, 40, 41, 42, 43, 44, 45, 46, 47, 48, 49, 50, 51, 52, 53, 54, 55, 56, 57, 58, 59, 60, 61, 62, 63, 64, 65, 66, 67, 68, 69, 70, 71, 72, 73, 74, 75, 76, 77, 78, 79, 80, 81, 82, 83, 84, 85, 86, 87, 88, 89, 90, 91, 92, 93, 94, 95, 96, 97, 98, 99, 100, 101] (fun i _ _ _ _ _ _ _ _ _ _ _ _ _ _ _ _ _ _ _ _ _ _ _ _ _ _ _ _ _ _ _ _ _ _ _ _ _ _ _ _ _ _ _ _ _ _ _ _ _ _ _ _ _ _ _ _ _ _ _ _ _ _ _ _ _ _ _ _ _ _ _ _ _ _ _ _ _ wr => ∃ j : Nat, j ≤ T.length ∧ i = .int .i64 j ∧ Hid (Kept No w4 wr)) (fun i _ _ _ _ _ _ _ _ _ _ _ _ _ _ _ _ _ _ _ _ _ _ _ _ _ _ _ _ _ _ _ _ _ _ _ _ _ _ _ _ _ _ _ _ _ _ _ _ _ _ _ _ _ _ _ _ _ _ _ _ _ _ _ _ _ _ _ _ _ _ _ _ _ _ _ _ _ _ => T.length - (intOf i).toNat)
  case atStart => exact ⟨0, by omega, rfl, Kept.refl _ _⟩
  case round =>
    obtain ⟨h, hh, rfl, HJ⟩ := hrel
    obtain ⟨t0, t1⟩ := HGc.out wr (HK4.out.trans HJ.out)
    by_cases hlt : h < T.length
    · have k1 : (h : Int) < (T.length : Int) := by omega
      obtain ⟨b, off, so, sc, rfl, r0, r1, r2, r3, r4, hrv, hs6⟩ := HTh.out wr (HK.out.trans (HK4.out.trans HJ.out)) h hlt
      obtain ⟨wo, hwo⟩ : ∃ wo, wo = wr := ⟨_, rfl⟩
      subst hwo
      have HCh : Hid _ := fun i => HCs.out h i hlt
      generalize thAt T h = t at *
      obtain ⟨W5, HW5⟩ : ∃ X, Hid (X = wo.alloc (.cells #[.int .i64 t.kind, .int .i64 t.weak, .int .i64 t.arr, .slice so t.sl.length sc, .int .i64 t.fin] 43)) := ⟨_, rfl⟩
      have HK5 : Hid (Kept No w4 W5) := by show Kept _ _ _; rw [HW5.out]; exact HJ.out.alloc _
      have HB6 : Hid (W5.heap[wo.heap.size]? = some (.cells #[.int .i64 t.kind, .int .i64 t.weak, .int .i64 t.arr, .slice so t.sl.length sc, .int .i64 t.fin] 43 (0, 0))) := by show _ = _; rw [HW5.out]; exact World.alloc_heap_new wo _
      have HV6 : Hid (RdV W5 (.slice so t.sl.length sc) t.sl) := by show RdV _ _ _; rw [HW5.out]; exact hrv.no ((Kept.refl _ _).alloc _)
      clear hrv
      have HTB : Hid (∀ X, Kept No W5 X → X.cell? ⟨wo.heap.size, 0, none⟩ = some (.int .i64 t.kind) ∧ X.cell? ⟨wo.heap.size, 1, none⟩ = some (.int .i64 t.weak) ∧ X.cell? ⟨wo.heap.size, 2, none⟩ = some (.int .i64 t.arr) ∧ X.cell? ⟨wo.heap.size, 3, none⟩ = some (.slice so t.sl.length sc) ∧ X.cell? ⟨wo.heap.size, 4, none⟩ = some (.int .i64 t.fin)) := fun X hX => by
        have hx := hX.heap HB6.out id
        exact ⟨by rw [cell_of hx]; rfl, by rw [cell_of hx]; rfl, by rw [cell_of hx]; rfl, by rw [cell_of hx]; rfl, by rw [cell_of hx]; rfl⟩
      have HKy : Hid (∀ X (i : Nat), i ≤ 1000 → Calls Try.prog 23 #[AT t (.slice so t.sl.length sc), .int .i64 i] X fun e w' => e = .returned (.int .i64 (keyN t i)) ∧ Kept No X w') := fun X i hi => RKeyOf_any t so sc i (by omega) (by omega) X
      obtain ⟨y0, y1, y2, y3, y4⟩ := HTB.out W5 (Kept.refl _ _)
      go_wp2_with (first | rw [← HW5.out])
      clear r0 r1 r2 r3 r4 t0 t1 y0 y1 y2 y3 y4
      go_loopw [6, 7, 40, 41, 42, 43, 44, 45, 46, 47, 48, 49, 50, 51, 52, 53, 54, 55, 56, 57, 58, 59, 60, 61, 62, 63, 64, 65, 66, 67, 68, 69, 70, 71, 72, 73, 74, 75, 76, 77, 78, 79, 80, 81, 82, 83, 84, 85, 86, 87, 88, 89, 90, 91, 92, 93, 94, 95, 96, 97, 98, 99, 100, 101] (fun i _ _ _ _ _ _ _ _ _ _ _ _ _ _ _ _ _ _ _ _ _ _ _ _ _ _ _ _ _ _ _ _ _ _ _ _ _ _ _ _ _ _ _ _ _ _ _ _ _ _ _ _ _ _ _ _ _ _ _ _ _ _ _ wr => ∃ j : Nat, j ≤ t.sl.length ∧ i = .int .i64 j ∧ Hid (Kept No W5 wr)) (fun i _ _ _ _ _ _ _ _ _ _ _ _ _ _ _ _ _ _ _ _ _ _ _ _ _ _ _ _ _ _ _ _ _ _ _ _ _ _ _ _ _ _ _ _ _ _ _ _ _ _ _ _ _ _ _ _ _ _ _ _ _ _ _ _ => t.sl.length - (intOf i).toNat)
      case atStart => exact ⟨0, by omega, rfl, Kept.refl _ _⟩
      case round =>
        obtain ⟨i, hi, rfl, HI⟩ := hrel
        obtain ⟨z0, z1⟩ := HGc.out wr (HK4.out.trans (HK5.out.trans HI.out))
        obtain ⟨z2, z3, z4⟩ := HB5.out wr (HK5.out.trans HI.out)
        obtain ⟨y0, y1, y2, y3, y4⟩ := HTB.out wr HI.out
        have z5 := HNL.out wr (HK5.out.trans HI.out) h hlt
        have HLh : Hid (∀ (i : Nat), L.getD h true = true → i < t.sl.length → obj T (t.sl.getD i (0, 0)) = true → L.getD (ix (t.sl.getD i (0, 0))) true = false → ((h : Int) + 1, (i : Int)) ∈ LE ∨ (0 < t.weak ∧ ((h : Int) + 1, (i : Int) + 1) ∈ LE ∧ keyN t (i + 1) = (i : Int) ∧ i + 1 < t.sl.length)) := HCh.out
        generalize L.getD h true = lh at z5 HLh
        cases lh
        · go_wp2_with fail
          go_roundw
          case rel => exact ⟨h + 1, by omega, by go_num, HK5.out.trans HI.out⟩
          case measure => simp [intOf]; omega
        by_cases hlt2 : i < t.sl.length
        · have k2 : (i : Int) < (t.sl.length : Int) := by omega
          obtain ⟨bo, off2, rfl, v0, v1⟩ : ∃ bo off2, so = some ⟨bo, off2, none⟩ ∧ (∀ X, Kept No wr X → X.cell? ⟨bo, off2 + i * 2, none⟩ = some (.int .i64 (t.sl.getD i (0, 0)).1)) ∧ (∀ X, Kept No wr X → X.cell? ⟨bo, off2 + i * 2 + 1, none⟩ = some (.int .i64 (t.sl.getD i (0, 0)).2)) := by
            have hq : t.sl.getD i (0, 0) = t.sl[i] := by simp [List.getD, hlt2]
            rw [hq]
            obtain ⟨so', sc', e, hv⟩ := HV6.out.no HI.out
            injection e with e1 e2 e3
            subst e1
            obtain ⟨bo, off2, e, _, _⟩ := hv i hlt2
            refine ⟨bo, off2, e, fun X hX => ?_, fun X hX => ?_⟩
            · obtain ⟨so', sc', e', hv⟩ := HV6.out.no (HI.out.trans hX)
              injection e' with e1 e2 e3
              subst e1
              obtain ⟨bo', off2', e'', h1, h2⟩ := hv i hlt2
              rw [e] at e''; cases e''; exact h1
            · obtain ⟨so', sc', e', hv⟩ := HV6.out.no (HI.out.trans hX)
              injection e' with e1 e2 e3
              subst e1
              obtain ⟨bo', off2', e'', h1, h2⟩ := hv i hlt2
              rw [e] at e''; cases e''; exact h2
          have HLi : Hid _ := HLh.out i rfl hlt2
          have HCw : Hid (∀ X, Kept No wr X → (X.cell? ⟨w.heap.size, 0, none⟩ = some (.slice (some ⟨b, off, none⟩) T.length cap) ∧ X.cell? ⟨w.heap.size, 1, none⟩ = some (.slice ro R.length rc)) ∧ X.cell? ⟨wo.heap.size, 3, none⟩ = some (.slice (some ⟨bo, off2, none⟩) t.sl.length sc)) := fun X hX => ⟨HGc.out X (HK4.out.trans (HK5.out.trans (HI.out.trans hX))), (HTB.out X (HI.out.trans hX)).2.2.2.1⟩
          generalize t.sl.getD i (0, 0) = v at v0 v1 HLi
          go_wp2_with fail
          refine region_quiet_class (C := fun w' => Kept No wr w') mixed (by kernel_rfl) (Kept.refl _ _).drew ?_
          refine q_op (AG (some ⟨b, off, none⟩) T.length cap ro R.length rc) (by kernel_rfl) (fun W1 hW1 => by obtain ⟨⟨a0, a1⟩, a2⟩ := HCw.out W1 hW1; simp [go_sem, a0, a1]) ?_
          try simp only [Act.put, List.setIfInBounds_toArray, List.set_cons_zero, List.set_cons_succ, List.getElem_toArray, List.getElem_cons_zero, List.getElem_cons_succ]
          refine q_op (.pointer (some ⟨wo.heap.size, 3, none⟩)) (by kernel_rfl) (fun W1 hW1 => by simp [go_sem]) ?_
          try simp only [Act.put, List.setIfInBounds_toArray, List.set_cons_zero, List.set_cons_succ, List.getElem_toArray, List.getElem_cons_zero, List.getElem_cons_succ]
          refine q_op (.slice (some ⟨bo, off2, none⟩) t.sl.length sc) (by kernel_rfl) (fun W1 hW1 => by obtain ⟨⟨a0, a1⟩, a2⟩ := HCw.out W1 hW1; simp [go_sem, a2]) ?_
          try simp only [Act.put, List.setIfInBounds_toArray, List.set_cons_zero, List.set_cons_succ, List.getElem_toArray, List.getElem_cons_zero, List.getElem_cons_succ]
          refine q_op (.int .i64 i) (by kernel_rfl) (fun W1 hW1 => by simp [go_sem]) ?_
          try simp only [Act.put, List.setIfInBounds_toArray, List.set_cons_zero, List.set_cons_succ, List.getElem_toArray, List.getElem_cons_zero, List.getElem_cons_succ]
          refine q_op (.pointer (some ⟨bo, off2 + i * 2, none⟩)) (by kernel_rfl) (fun W1 hW1 => by simp [go_sem, k2]) ?_
          try simp only [Act.put, List.setIfInBounds_toArray, List.set_cons_zero, List.set_cons_succ, List.getElem_toArray, List.getElem_cons_zero, List.getElem_cons_succ]
          refine q_op (AV v) (by kernel_rfl) (fun W1 hW1 => by have a3 := v0 W1 hW1; have a4 := v1 W1 hW1; simp [go_sem, a3, a4]) ?_
          try simp only [Act.put, List.setIfInBounds_toArray, List.set_cons_zero, List.set_cons_succ, List.getElem_toArray, List.getElem_cons_zero, List.getElem_cons_succ]
          refine q_call 21 #[AG (some ⟨b, off, none⟩) T.length cap ro R.length rc, AV v] (.int .i64 (objN T v)) (by kernel_rfl) (fun W1 hW1 => by simp [go_sem]) (fun W1 hW1 => (HOb.out W1 (HK.out.trans (HK4.out.trans (HK5.out.trans (HI.out.trans hW1)))) v).mono (fun e w' ⟨h1, h2⟩ => ⟨h1, hW1.trans h2⟩)) ?_
          try simp only [Act.put, List.setIfInBounds_toArray, List.set_cons_zero, List.set_cons_succ, List.getElem_toArray, List.getElem_cons_zero, List.getElem_cons_succ]
          refine q_op (.int .i64 (objN T v)) (by kernel_rfl) (fun W1 hW1 => by simp [go_sem]) ?_
          try simp only [Act.put, List.setIfInBounds_toArray, List.set_cons_zero, List.set_cons_succ, List.getElem_toArray, List.getElem_cons_zero, List.getElem_cons_succ]
          refine wpQuiet_nil ?_
          intro X3 hX3
          have HI3 : Hid (Kept No W5 X3) := HI.out.trans hX3
          clear hX3 HCw z0 z1 z2 z3 z4 y0 y1 y2 y3 y4 z5 HI v0 v1
          obtain ⟨z2, z3, z4⟩ := HB5.out X3 (HK5.out.trans HI3.out)
          obtain ⟨y0, y1, y2, y3, y4⟩ := HTB.out X3 HI3.out
          cases hob : obj T v with
          | false =>
            have hoN : objN T v = 0 := by unfold objN; rw [if_neg (by rw [hob]; decide)]
            rw [hoN]
            clear hob hoN HLi
            go_wp2_with fail
            go_roundw
            case rel => exact ⟨i + 1, by omega, by go_num, HI3.out⟩
            case measure => simp [intOf]; omega
          | true =>
            obtain ⟨m1, m2, m3⟩ := obj_ix hob
            have hoN : objN T v = (ix v : Int) + 1 := by unfold objN; rw [if_pos hob]; unfold ix; omega
            rw [hoN]
            have HLj : Hid _ := HLi.out hob
            have z5 := HNL.out X3 (HK5.out.trans HI3.out) (ix v) m1
            clear hoN hob HLi
            generalize ix v = m at *
            have x1 : (m : Int) + 1 - 1 = (m : Int) := by omega
            have x2 : (m : Int) < (T.length : Int) := by omega
            have x3 : decide (0 < (m : Int) + 1) = true := decide_eq_true (by omega)
            generalize L.getD m true = lm at z5 HLj
            clear m1 m2 m3
            cases lm
            case true =>
              clear HLj
              go_wp2_with fail
              go_roundw
              case rel => exact ⟨i + 1, by omega, by go_num, HI3.out⟩
              case measure => simp [intOf]; omega
            case false =>
              have HCa : Hid _ := HCl.out X3 (HK5.out.trans HI3.out) ((h : Int) + 1) (i : Int)
              go_wp2_with fail
              refine Calls.mono HCa.out ?_
              rintro e X4 ⟨rfl, hk4⟩
              have HI4 : Hid (Kept No W5 X4) := HI3.out.trans hk4
              clear hk4 HCa y0 y1 y2 y3 y4 z2 z3 z4 z5
              obtain ⟨z2, z3, z4⟩ := HB5.out X4 (HK5.out.trans HI4.out)
              obtain ⟨y0, y1, y2, y3, y4⟩ := HTB.out X4 HI4.out
              by_cases hc : ((h : Int) + 1, (i : Int)) ∈ LE
              · rw [decide_eq_true hc]
                clear hc HLj
                go_wp2_with fail
                go_roundw
                case rel => exact ⟨i + 1, by omega, by go_num, HI4.out⟩
                case measure => simp [intOf]; omega
              · rw [decide_eq_false hc]
                obtain ⟨d1, d2, d3, d4⟩ := (HLj.out (by first | rfl | trivial)).resolve_left hc
                have HCb : Hid _ := HCl.out X4 (HK5.out.trans HI4.out) ((h : Int) + 1) ((i : Int) + 1)
                rw [decide_eq_true d2] at HCb
                have HKi : Hid _ := d3
                have x4 : decide (0 < t.weak) = true := decide_eq_true d1
                clear hc HLj d2 d3
                go_wp2_with fail
                refine Calls.mono HCb.out ?_
                rintro e X5 ⟨rfl, hk5⟩
                have HI5 : Hid (Kept No W5 X5) := HI4.out.trans hk5
                clear hk5 HCb y0 y1 y2 y3 y4 z2 z3 z4
                obtain ⟨z2, z3, z4⟩ := HB5.out X5 (HK5.out.trans HI5.out)
                obtain ⟨y0, y1, y2, y3, y4⟩ := HTB.out X5 HI5.out
                have HCc : Hid (Calls Try.prog 23 #[AT t (.slice (some ⟨bo, off2, none⟩) t.sl.length sc), .int .i64 ((i : Int) + 1)] X5 fun e w' => e = .returned (.int .i64 (i : Int)) ∧ Kept No X5 w') := by
                  have := HKy.out X5 (i + 1) (by omega)
                  rw [HKi.out] at this
                  exact this
                clear HKi
                go_wp2_with fail
                refine Calls.mono HCc.out ?_
                rintro e X6 ⟨rfl, hk6⟩
                have HI6 : Hid (Kept No W5 X6) := HI5.out.trans hk6
                clear hk6 HCc y0 y1 y2 y3 y4 z2 z3 z4
                go_wp2_with fail
                go_roundw
                case rel => exact ⟨i + 1, by omega, by go_num, HI6.out⟩
                case measure => simp [intOf]; omega
        · have k2 : ¬ (i : Int) < (t.sl.length : Int) := by omega
          go_wp2_with fail
          go_roundw
          case rel => exact ⟨h + 1, by omega, by go_num, HK5.out.trans HI.out⟩
          case measure => simp [intOf]; omega
    · have k1 : ¬ (h : Int) < (T.length : Int) := by omega
      obtain rfl : h = T.length := by omega
      obtain ⟨wo, hwo⟩ : ∃ wo, wo = wr := ⟨_, rfl⟩
      subst hwo
      clear HCs
      go_wp2_with fail
      go_loopw [8, 9, 102, 103, 104, 105, 106, 107, 108, 109, 110, 111, 112, 113, 114, 115, 116, 117, 118, 119, 120, 121, 122, 123, 124, 125, 126] (fun i _ _ _ _ _ _ _ _ _ _ _ _ _ _ _ _ _ _ _ _ _ _ _ _ _ _ wr => ∃ j : Nat, j ≤ R.length ∧ i = .int .i64 j ∧ Hid (Kept No w4 wr)) (fun i _ _ _ _ _ _ _ _ _ _ _ _ _ _ _ _ _ _ _ _ _ _ _ _ _ _ _ => R.length - (intOf i).toNat)
      case atStart => exact ⟨0, by omega, rfl, HJ.out⟩
      case round =>
        obtain ⟨i, hi, rfl, HI⟩ := hrel
        obtain ⟨z0, z1⟩ := HGc.out wr (HK4.out.trans HI.out)
        by_cases hlt2 : i < R.length
        · have k2 : (i : Int) < (R.length : Int) := by omega
          obtain ⟨bo, off2, rfl, v0, v1⟩ := HRd.out wr (HK.out.trans (HK4.out.trans HI.out)) i hlt2
          have HRv : Hid (∀ X, Kept No wr X → X.cell? ⟨bo, off2 + i * 2, none⟩ = some (.int .i64 R[i].1) ∧ X.cell? ⟨bo, off2 + i * 2 + 1, none⟩ = some (.int .i64 R[i].2)) := fun X hX => by
            obtain ⟨bo', off2', e, h1, h2⟩ := HRd.out X (HK.out.trans (HK4.out.trans (HI.out.trans hX))) i hlt2
            cases e; exact ⟨h1, h2⟩
          have HLi : Hid _ := HRl.out R[i] (List.getElem_mem hlt2)
          have HCw : Hid (∀ X, Kept No wr X → X.cell? ⟨w.heap.size, 0, none⟩ = some (.slice ao T.length cap) ∧ X.cell? ⟨w.heap.size, 1, none⟩ = some (.slice (some ⟨bo, off2, none⟩) R.length rc)) := fun X hX => HGc.out X (HK4.out.trans (HI.out.trans hX))
          clear v0 v1
          generalize R[i] = v at HRv HLi
          go_wp2_with fail
          refine region_quiet_class (C := fun w' => Kept No wr w') mixed (by kernel_rfl) (Kept.refl _ _).drew ?_
          refine q_op (AG ao T.length cap (some ⟨bo, off2, none⟩) R.length rc) (by kernel_rfl) (fun W1 hW1 => by obtain ⟨a0, a1⟩ := HCw.out W1 hW1; simp [go_sem, a0, a1]) ?_
          try simp only [Act.put, List.setIfInBounds_toArray, List.set_cons_zero, List.set_cons_succ, List.getElem_toArray, List.getElem_cons_zero, List.getElem_cons_succ]
          refine q_op (.pointer (some ⟨w.heap.size, 1, none⟩)) (by kernel_rfl) (fun W1 hW1 => by simp [go_sem]) ?_
          try simp only [Act.put, List.setIfInBounds_toArray, List.set_cons_zero, List.set_cons_succ, List.getElem_toArray, List.getElem_cons_zero, List.getElem_cons_succ]
          refine q_op (.slice (some ⟨bo, off2, none⟩) R.length rc) (by kernel_rfl) (fun W1 hW1 => by obtain ⟨a0, a1⟩ := HCw.out W1 hW1; simp [go_sem, a1]) ?_
          try simp only [Act.put, List.setIfInBounds_toArray, List.set_cons_zero, List.set_cons_succ, List.getElem_toArray, List.getElem_cons_zero, List.getElem_cons_succ]
          refine q_op (.int .i64 i) (by kernel_rfl) (fun W1 hW1 => by simp [go_sem]) ?_
          try simp only [Act.put, List.setIfInBounds_toArray, List.set_cons_zero, List.set_cons_succ, List.getElem_toArray, List.getElem_cons_zero, List.getElem_cons_succ]
          refine q_op (.pointer (some ⟨bo, off2 + i * 2, none⟩)) (by kernel_rfl) (fun W1 hW1 => by simp [go_sem, k2]) ?_
          try simp only [Act.put, List.setIfInBounds_toArray, List.set_cons_zero, List.set_cons_succ, List.getElem_toArray, List.getElem_cons_zero, List.getElem_cons_succ]
          refine q_op (AV v) (by kernel_rfl) (fun W1 hW1 => by obtain ⟨a3, a4⟩ := HRv.out W1 hW1; simp [go_sem, a3, a4]) ?_
          try simp only [Act.put, List.setIfInBounds_toArray, List.set_cons_zero, List.set_cons_succ, List.getElem_toArray, List.getElem_cons_zero, List.getElem_cons_succ]
          refine q_call 21 #[AG ao T.length cap (some ⟨bo, off2, none⟩) R.length rc, AV v] (.int .i64 (objN T v)) (by kernel_rfl) (fun W1 hW1 => by simp [go_sem]) (fun W1 hW1 => (HOb.out W1 (HK.out.trans (HK4.out.trans (HI.out.trans hW1))) v).mono (fun e w' ⟨h1, h2⟩ => ⟨h1, hW1.trans h2⟩)) ?_
          try simp only [Act.put, List.setIfInBounds_toArray, List.set_cons_zero, List.set_cons_succ, List.getElem_toArray, List.getElem_cons_zero, List.getElem_cons_succ]
          refine q_op (.int .i64 (objN T v)) (by kernel_rfl) (fun W1 hW1 => by simp [go_sem]) ?_
          try simp only [Act.put, List.setIfInBounds_toArray, List.set_cons_zero, List.set_cons_succ, List.getElem_toArray, List.getElem_cons_zero, List.getElem_cons_succ]
          refine wpQuiet_nil ?_
          intro X3 hX3
          have HI3 : Hid (Kept No w4 X3) := HI.out.trans hX3
          clear hX3 HCw z0 z1 HI HRv
          obtain ⟨z2, z3, z4⟩ := HB5.out X3 HI3.out
          cases hob : obj T v with
          | false =>
            have hoN : objN T v = 0 := by unfold objN; rw [if_neg (by rw [hob]; decide)]
            rw [hoN]
            clear hob hoN HLi
            go_wp2_with fail
            go_roundw
            case rel => exact ⟨i + 1, by omega, by go_num, HI3.out⟩
            case measure => simp [intOf]; omega
          | true =>
            obtain ⟨m1, m2, m3⟩ := obj_ix hob
            have hoN : objN T v = (ix v : Int) + 1 := by unfold objN; rw [if_pos hob]; unfold ix; omega
            rw [hoN]
            have z5 := HNL.out X3 HI3.out (ix v) m1
            rw [HLi.out hob] at z5
            clear hoN hob HLi
            generalize ix v = m at *
            have x1 : (m : Int) + 1 - 1 = (m : Int) := by omega
            have x2 : (m : Int) < (T.length : Int) := by omega
            have x3 : decide (0 < (m : Int) + 1) = true := decide_eq_true (by omega)
            clear m1 m2 m3
            go_wp2_with fail
            go_roundw
            case rel => exact ⟨i + 1, by omega, by go_num, HI3.out⟩
            case measure => simp [intOf]; omega
        · have k2 : ¬ (i : Int) < (R.length : Int) := by omega
          go_wp2_with fail
          go_at_call 11
          refine Calls.mono (HAl.out _) ?_
          rintro e w7 ⟨rfl, hk7⟩
          have HK7 : Hid (Kept No w w7) := HK.out.trans (HK4.out.trans (HI.out.trans hk7))
          clear hk7
          go_wp2
          go_ret
          exact ⟨rfl, HK7.out⟩
end Go.Proofs.Ytnofmpbdfcolfaa
