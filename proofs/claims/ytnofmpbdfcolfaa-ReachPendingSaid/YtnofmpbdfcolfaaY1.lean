/- ReachPending. -/
import Derived.Test.YtnofmpbdfcolfaaX5
import Derived.Test.YtnofmpbdfcolfaaY0
import Derived.Test.YtnofmpbdfcolfaaF1
namespace Go.Proofs.Ytnofmpbdfcolfaa
open Go.RowKit Go.Shelf
set_option linter.unusedSimpArgs false
set_option linter.unusedVariables false

theorem finL_count {T : List Th} {F : List Bool} {j : Nat} : ((finL T F (j + 1)).length : Int) = (finL T F j).length + (if finB T F j then 1 else 0) := by
  cases h : finB T F j
  · rw [finL_no h]; simp
  · rw [finL_yes h]; simp

set_option maxRecDepth 20000 in
set_option maxHeartbeats 8000000 in
theorem ReachPending_any {w : World} {tv rv : Value} {T : List Th} {R : List V} (hT : RdT w tv T) (hR : RdV w rv R) (hn : T.length ≤ 140737488355328) (hRn : R.length ≤ 140737488355328) (hs : ∀ t ∈ T, t.sl.length ≤ 140737488355328) :
    Calls Try.prog 8 #[.agg #[tv, rv]] w fun e w' => e = .returned (.bool true) ∧ Kept No w w' := by
  have HT : Hid (RdT w tv T) := hT
  have HR : Hid (RdV w rv R) := hR
  have HAl : Hid (∀ W, Calls Try.prog 11 #[] W fun e w' => e = .returned (.bool true) ∧ Kept No W w') := fun W => alive_any W
  have HBd : Hid (smallB T R = true → T.length ≤ 60 ∧ R.length ≤ 600 ∧ ∀ t ∈ T, t.sl.length ≤ 600) := small_bd
  have HSm : Hid (∀ X, Kept No w X → Calls Try.prog 10 #[.agg #[tv, rv]] X fun e w' => e = .returned (.bool (smallB T R)) ∧ Kept No X w') := fun X hX => Small_any (hT.no hX) (hR.no hX) hn hRn hs
  obtain ⟨ao, cap, htv, _⟩ := hT
  obtain ⟨ro, rc, hrv, _⟩ := hR
  subst htv hrv
  obtain ⟨W, HWd⟩ : ∃ W, Hid (W = w.alloc (.cells #[.slice ao T.length cap, .slice ro R.length rc] 25)) := ⟨_, rfl⟩
  have HK : Hid (Kept No w W) := by show Kept _ _ _; rw [HWd.out]; exact (Kept.refl _ _).alloc _
  have HGx : Hid (W.heap[w.heap.size]? = some (.cells #[.slice ao T.length cap, .slice ro R.length rc] 25 (0, 0))) := by show _ = _; rw [HWd.out]; exact World.alloc_heap_new w _
  have HGc : Hid (∀ X, Kept No W X → X.cell? ⟨w.heap.size, 0, none⟩ = some (.slice ao T.length cap) ∧ X.cell? ⟨w.heap.size, 1, none⟩ = some (.slice ro R.length rc)) := fun X hX => by
    have hx := hX.heap HGx.out id
    exact ⟨by rw [cell_of hx]; rfl, by rw [cell_of hx]; rfl⟩
  obtain ⟨g0, g1⟩ := HGc.out W (Kept.refl _ _)
  have HC : Hid _ := HSm.out W HK.out
  obtain ⟨sm, HSe⟩ : ∃ sm, Hid (smallB T R = sm) := ⟨_, rfl⟩
  rw [HSe.out] at HC HBd
  clear HSm HSe hs hn hRn
  go_enter Try.func8, Try.ntmps8
  go_wp2_with (first | rw [← HWd.out])
  refine Calls.mono HC.out ?_
  rintro e w1 ⟨rfl, hk1⟩
  have HK1 : Hid (Kept No W w1) := hk1
  obtain ⟨g2, g3⟩ := HGc.out w1 hk1
  clear hk1 HC g0 g1 HWd
  cases sm
  · go_wp2_with fail
    go_at_call 11
    refine Calls.mono (HAl.out _) ?_
    rintro e w3 ⟨rfl, hk3⟩
    have HK3 : Hid (Kept No w w3) := HK.out.trans (HK1.out.trans hk3)
    clear hk3
    go_wp2
    go_ret
    exact ⟨rfl, HK3.out⟩
  obtain ⟨hn60, hR600, hs600⟩ := HBd.out rfl
  have HSl : Hid (∀ t ∈ T, t.sl.length ≤ 600) := hs600
  clear hs600 HBd
  have HC2 : Hid (Calls Try.prog 16 #[AG ao T.length cap ro R.length rc] w1 fun e w' => e = .returned (.bool (rGraph T R)) ∧ Kept No w1 w') := RRight_any (HT.out.no (HK.out.trans HK1.out)) (HR.out.no (HK.out.trans HK1.out)) (by omega) (fun t ht => by have := HSl.out t ht; omega) (by omega)
  obtain ⟨rt, HRe⟩ : ∃ rt, Hid (rGraph T R = rt) := ⟨_, rfl⟩
  rw [HRe.out] at HC2
  go_wp2_with fail
  refine Calls.mono HC2.out ?_
  rintro e w2 ⟨rfl, hk2⟩
  have HK2 : Hid (Kept No W w2) := HK1.out.trans hk2
  obtain ⟨g4, g5⟩ := HGc.out w2 HK2.out
  clear hk2 HC2 g2 g3 HK1
  cases rt
  · go_wp2_with fail
    go_at_call 11
    refine Calls.mono (HAl.out _) ?_
    rintro e w3 ⟨rfl, hk3⟩
    have HK3 : Hid (Kept No w w3) := HK.out.trans (HK2.out.trans hk3)
    clear hk3
    go_wp2
    go_ret
    exact ⟨rfl, HK3.out⟩
  have HOk : Hid (∀ h, h < T.length → okH T h) := (right_iff.1 HRe.out).1
  have HC3 : Hid _ := Collect_any (HT.out.no (HK.out.trans HK2.out)) (HR.out.no (HK.out.trans HK2.out)) (by omega) (fun t ht => by have := HSl.out t ht; omega) (by omega)
  go_wp2_with fail
  refine Calls.mono HC3.out ?_
  rintro e w3 ⟨lv, pv, ev, D, rfl, nb, rfl, hnb, hpd, hir, hen, hk3⟩
  obtain ⟨po, pc, rfl⟩ := hir.form
  obtain ⟨eo, ec, rfl⟩ := hen.form
  have HPd : Hid (Pd T (strong T R []) D) := hpd
  rw [hdl_len] at hir
  obtain ⟨LE, HLE⟩ : ∃ LE, Hid (LE = clrTo T (strong T R []) (strong T R (hdl D)) T.length) := ⟨_, rfl⟩
  rw [← HLE.out] at hen
  rw [hdl_len, ← HLE.out]
  have HLn : Hid ((strong T R (hdl D)).length = T.length) := strong_len T R _
  obtain ⟨w4, HW4⟩ : ∃ X, Hid (X = w3.alloc (.cells #[SLN nb T.length, .slice po D.length pc, .slice eo LE.length ec] 37)) := ⟨_, rfl⟩
  have hk4 : Kept No w3 w4 := by rw [HW4.out]; exact (Kept.refl _ _).alloc _
  have hb4 : w4.heap[w3.heap.size]? = some (.cells #[SLN nb T.length, .slice po D.length pc, .slice eo LE.length ec] 37 (0, 0)) := by rw [HW4.out]; exact World.alloc_heap_new w3 _
  have HK4 : Hid (Kept No W w4) := HK2.out.trans (hk3.trans hk4)
  have HS5 : Hid (Calls Try.prog 13 #[AG ao T.length cap ro R.length rc, .slice none 0 0] w4 fun e w' => ∃ nb, e = .returned (SLN nb T.length) ∧ w'.heap[nb]? = some (.cells (bc (strong T R [])).toArray 4 (0, 0)) ∧ w4.heap.size ≤ nb ∧ Kept No w4 w') := Strong_any (HT.out.no (HK.out.trans HK4.out)) (HR.out.no (HK.out.trans HK4.out)) ⟨none, 0, rfl, fun j hj => by simp at hj⟩ (by omega) (fun t ht => by have := HSl.out t ht; omega) (by omega) (by simp)
  have HB4 : Hid _ := hb4
  have HNb : Hid _ := hk4.heap hnb id
  have HI4 : Hid _ := hir.no hk4
  obtain ⟨q4, q5⟩ := HGc.out w4 HK4.out
  clear hk4 hb4 hnb hir hen hpd hk3 HC3 g4 g5
  go_wp2_with (first | rw [← HW4.out])
  refine Calls.mono HS5.out ?_
  rintro e w5 ⟨n5, rfl, hn5, hs5, hk5⟩
  have HK5 : Hid (Kept No W w5) := HK4.out.trans hk5
  have HN5 : Hid (∀ X, Kept No w5 X → ∀ j, j < T.length → X.cell? ⟨n5, j, none⟩ = some (.bool ((strong T R []).getD j true))) := fun X hX j hj => by
    rw [cell_of (hX.heap hn5 id)]; exact bc_get _ _ (by rw [strong_len]; exact hj)
  have HNL : Hid (∀ X, Kept No w5 X → ∀ j, j < T.length → X.cell? ⟨nb, j, none⟩ = some (.bool ((strong T R (hdl D)).getD j true))) := fun X hX j hj => by
    rw [cell_of (hX.heap (hk5.heap HNb.out id) id)]; exact bc_get _ _ (by rw [strong_len]; exact hj)
  have HB5 : Hid (∀ X, Kept No w5 X → X.cell? ⟨w3.heap.size, 0, none⟩ = some (SLN nb T.length) ∧ X.cell? ⟨w3.heap.size, 1, none⟩ = some (.slice po D.length pc)) := fun X hX => by
    have hx := hX.heap (hk5.heap HB4.out id) id
    exact ⟨by rw [cell_of hx]; rfl, by rw [cell_of hx]; rfl⟩
  have HI5 : Hid (∀ X, Kept No w5 X → ∀ j (hj : j < D.length), ∃ b, po = some ⟨b, 0, none⟩ ∧ X.cell? ⟨b, j, none⟩ = some (.int .i64 ((D[j] : Int) + 1))) := fun X hX j hj => by
    obtain ⟨b, c, e, _, h⟩ := IRow.at (IRow.no (IRow.no HI4.out hk5) hX) (j := j) (by rw [hdl_len]; exact hj)
    injection e with e1 e2 e3
    refine ⟨b, e1, h.trans ?_⟩
    simp [hdl]
  have HTh : Hid (∀ X, Kept No w X → ∀ j (hj : j < T.length), ∃ b off, ao = some ⟨b, off, none⟩ ∧ X.cell? ⟨b, off + j * 5 + 4, none⟩ = some (.int .i64 (thAt T j).fin)) := fun X hX j hj => by
    obtain ⟨ao', cap', e, hq⟩ := HT.out.no hX
    injection e with e1 e2 e3
    subst e1
    obtain ⟨b, off, sv, e2, h1, h2, h3, h4, h5, h6⟩ := hq j hj
    rw [thAt_eq hj]
    exact ⟨b, off, e2, h5⟩
  have HFL : Hid (∀ j, (finL T (strong T R []) j).length ≤ j) := fun j => finL_len _ _ j
  have HFe : Hid (D.length = (finL T (strong T R []) T.length).length) := HPd.out.perm.length_eq
  have HFL2 : Hid (∀ j, j < T.length → (strong T R []).getD j true = true → (strong T R (hdl D)).getD j true = true) := fun j hj h => strong_more (fun _ h => h) (fun _ h => by cases h) j hj h
  obtain ⟨q6, q7⟩ := HGc.out w5 HK5.out
  obtain ⟨q8, q9⟩ := HB5.out w5 (Kept.refl _ _)
  clear hn5 hs5 hk5 q4 q5 HS5 HW4 HRe
  have HDm : Hid (∀ k (hk : k < D.length), D[k] < T.length ∧ 0 < (thAt T D[k]).fin ∧ (strong T R []).getD D[k] true = false ∧ (strong T R (hdl D)).getD D[k] true = true) := fun k hk => by
    obtain ⟨m1, m2, m3⟩ := HPd.out.mem.1 (List.getElem_mem hk)
    refine ⟨m1, m2, m3, (strong_iff _ _ _ _ m1).2 ?_⟩
    have := Nd.more (T := T) (R := R) (M := hdl D) ((D[k] : Int) + 1) (List.mem_map.2 ⟨D[k], List.getElem_mem hk, rfl⟩) (by omega) (by omega)
    rwa [show ((D[k] : Int) + 1).toNat - 1 = D[k] by omega] at this
  have HDf : Hid (∀ k (hk : k + 1 < D.length), (thAt T D[k + 1]).fin < (thAt T D[k]).fin) := fun k hk => HPd.out.falls HOk.out hk
  have hDn : D.length ≤ 60 := by have := HPd.out.len; omega
  have HFB : Hid (∀ j, finB T (strong T R []) j = (decide (0 < (thAt T j).fin) && !((strong T R []).getD j true))) := fun j => rfl
  generalize strong T R [] = F at *
  generalize strong T R (hdl D) = L at *
  go_wp2_with fail
  go_loopw [6, 5] (fun i n wr => ∃ j : Nat, j ≤ T.length ∧ i = .int .i64 j ∧ n = .int .i64 ((finL T F j).length : Nat) ∧ wr = w5) (fun i _ _ => T.length - (intOf i).toNat)
  case atStart => exact ⟨0, by omega, rfl, rfl, rfl⟩
  case round =>
    obtain ⟨j, hj, rfl, rfl, rfl⟩ := hrel
    by_cases hlt : j < T.length
    · have k1 : (j : Int) < (T.length : Int) := by omega
      obtain ⟨b, off, rfl, r4⟩ := HTh.out wr (HK.out.trans HK5.out) j hlt
      have r5 := HN5.out wr (Kept.refl _ _) j hlt
      have r6 := HNL.out wr (Kept.refl _ _) j hlt
      have hfb := HFB.out j
      have hfl2 := HFL2.out j hlt
      have hlen := HFL.out j
      have HCt : Hid _ := finL_count (T := T) (F := F) (j := j)
      rw [hfb] at HCt
      generalize (finL T F j).length = m at hlen HCt ⊢
      generalize (thAt T j).fin = ff at r4 HCt
      generalize F.getD j true = fj at r5 hfl2 HCt
      generalize L.getD j true = lj at r6 hfl2
      clear hfb
      by_cases hf : 0 < ff
      · have bf : decide (0 < ff) = true := decide_eq_true hf
        rw [bf, Bool.true_and] at HCt
        cases fj
        · clear hfl2
          go_wp2
          go_roundw
          case rel => exact ⟨j + 1, by omega, by go_num, by rw [HCt.out]; go_num, by first | rfl | trivial⟩
          case measure => simp [intOf]; omega
        · obtain rfl := hfl2 rfl
          go_wp2
          go_roundw
          case rel => exact ⟨j + 1, by omega, by go_num, by rw [HCt.out]; simp, by first | rfl | trivial⟩
          case measure => simp [intOf]; omega
      · have bf : decide (0 < ff) = false := decide_eq_false hf
        rw [bf, Bool.false_and] at HCt
        cases fj
        · clear hfl2
          go_wp2
          go_roundw
          case rel => exact ⟨j + 1, by omega, by go_num, by rw [HCt.out]; simp, by first | rfl | trivial⟩
          case measure => simp [intOf]; omega
        · obtain rfl := hfl2 rfl
          go_wp2
          go_roundw
          case rel => exact ⟨j + 1, by omega, by go_num, by rw [HCt.out]; simp, by first | rfl | trivial⟩
          case measure => simp [intOf]; omega
    · have k1 : ¬ (j : Int) < (T.length : Int) := by omega
      obtain rfl : j = T.length := by omega
      rw [← HFe.out]
      obtain ⟨w6, h6⟩ : ∃ w6, w6 = wr := ⟨_, rfl⟩
      subst h6
      go_wp2_with fail
      go_loopw [7, 8, 70, 71, 72, 73, 74, 75, 76, 77, 78, 79, 80, 81, 82, 83, 84, 85, 86, 87, 88, 89, 90, 91, 92, 93, 94, 95, 96, 97, 98, 99, 100, 101, 102, 103, 104, 105, 106, 107, 108, 109, 110, 111, 112, 113, 114, 115, 116, 117, 118, 119, 120, 121, 122, 123, 124, 125, 126, 127, 128, 129, 130, 131, 132, 133, 134, 135, 136, 137, 138, 139, 140, 141] (fun i _ _ _ _ _ _ _ _ _ _ _ _ _ _ _ _ _ _ _ _ _ _ _ _ _ _ _ _ _ _ _ _ _ _ _ _ _ _ _ _ _ _ _ _ _ _ _ _ _ _ _ _ _ _ _ _ _ _ _ _ _ _ _ _ _ _ _ _ _ _ _ _ _ wr => ∃ j : Nat, j ≤ D.length ∧ i = .int .i64 j ∧ Hid (Kept No w6 wr)) (fun i _ _ _ _ _ _ _ _ _ _ _ _ _ _ _ _ _ _ _ _ _ _ _ _ _ _ _ _ _ _ _ _ _ _ _ _ _ _ _ _ _ _ _ _ _ _ _ _ _ _ _ _ _ _ _ _ _ _ _ _ _ _ _ _ _ _ _ _ _ _ _ _ _ _ => D.length - (intOf i).toNat)
      case atStart => exact ⟨0, by omega, rfl, Kept.refl _ _⟩
      case round =>
        obtain ⟨k, hk, rfl, HJ⟩ := hrel
        obtain ⟨t0, t1⟩ := HGc.out wr (HK5.out.trans HJ.out)
        obtain ⟨t2, t3⟩ := HB5.out wr HJ.out
        by_cases hlt : k < D.length
        · have k1 : (k : Int) < (D.length : Int) := by omega
          obtain ⟨pb, rfl, p0⟩ := HI5.out wr HJ.out k hlt
          obtain ⟨m1, m2, m3, m4⟩ := HDm.out k hlt
          obtain ⟨b, off, rfl, r4⟩ := HTh.out wr (HK.out.trans (HK5.out.trans HJ.out)) D[k] m1
          have r5 := HN5.out wr HJ.out D[k] m1
          have r6 := HNL.out wr HJ.out D[k] m1
          rw [m3] at r5
          rw [m4] at r6
          have HKd : Hid (∀ q, Kept No w6 (wr.drewN q)) := fun q => HJ.out.drewN q
          rcases Nat.eq_zero_or_pos k with k0 | k0
          · subst k0
            clear HI5 HDf
            generalize D[0] = d at *
            generalize (thAt T d).fin = ff at r4 m2
            have x1 : decide ((d : Int) + 1 < 1) = false := decide_eq_false (by omega)
            have x2 : decide ((T.length : Int) < (d : Int) + 1) = false := decide_eq_false (by omega)
            have x3 : (d : Int) + 1 - 1 = (d : Int) := by omega
            have x4 : decide (ff < 1) = false := decide_eq_false (by omega)
            have x5 : (d : Int) < (T.length : Int) := by omega
            clear m1 m2 m3 m4
            go_wp2_with fail
            try simp only [List.append_eq, List.cons_append, List.nil_append]
            go_quiet (fail)
            go_wp2
            go_roundw
            case rel => exact ⟨1, by omega, by go_num, HKd.out _⟩
            case measure => simp [intOf]; omega
          · obtain ⟨k', rfl⟩ : ∃ k', k = k' + 1 := ⟨k - 1, by omega⟩
            obtain ⟨pb', e', p1⟩ := HI5.out wr HJ.out k' (by omega)
            injection e' with e'
            injection e' with e'
            subst e'
            obtain ⟨n1, n2, n3, n4⟩ := HDm.out k' (by omega)
            obtain ⟨b', off', e', r7⟩ := HTh.out wr (HK.out.trans (HK5.out.trans HJ.out)) D[k'] n1
            injection e' with e'
            injection e' with e1 e2
            subst e1 e2
            have hff := HDf.out k' hlt
            generalize D[k' + 1] = d at *
            generalize D[k'] = d' at *
            generalize (thAt T d).fin = ff at r4 m2 hff
            generalize (thAt T d').fin = ff' at r7 n2 hff
            have x1 : decide ((d : Int) + 1 < 1) = false := decide_eq_false (by omega)
            have x2 : decide ((T.length : Int) < (d : Int) + 1) = false := decide_eq_false (by omega)
            have x3 : (d : Int) + 1 - 1 = (d : Int) := by omega
            have x4 : decide (ff < 1) = false := decide_eq_false (by omega)
            have x5 : (d : Int) < (T.length : Int) := by omega
            have x6 : (d' : Int) + 1 - 1 = (d' : Int) := by omega
            have x7 : (d' : Int) < (T.length : Int) := by omega
            have x8 : decide (ff' ≤ ff) = false := decide_eq_false (by omega)
            have x9 : ((k' + 1 : Nat) : Int) - 1 = (k' : Int) := by omega
            have x10 : (k' : Int) < (D.length : Int) := by omega
            have x11 : decide (0 < ((k' + 1 : Nat) : Int)) = true := decide_eq_true (by omega)
            clear m1 m2 m3 m4 n1 n2 n3 n4 hff
            go_wp2_with fail
            try simp only [List.append_eq, List.cons_append, List.nil_append]
            go_quiet (fail)
            go_wp2
            go_roundw
            case rel => exact ⟨k' + 1 + 1, by omega, by go_num, HKd.out _⟩
            case measure => simp [intOf]; omega
        · have k1 : ¬ (k : Int) < (D.length : Int) := by omega
          obtain rfl : k = D.length := by omega
          go_wp2_with fail
          go_at_call 11
          refine Calls.mono (HAl.out _) ?_
          rintro e w7 ⟨rfl, hk7⟩
          have HK7 : Hid (Kept No w w7) := HK.out.trans (HK5.out.trans (HJ.out.trans hk7))
          clear hk7
          go_wp2
          go_ret
          exact ⟨rfl, HK7.out⟩
end Go.Proofs.Ytnofmpbdfcolfaa
