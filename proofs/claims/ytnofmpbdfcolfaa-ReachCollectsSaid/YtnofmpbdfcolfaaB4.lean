/- Right. -/
import Derived.Test.YtnofmpbdfcolfaaB3
namespace Go.Proofs.Ytnofmpbdfcolfaa
open Go.RowKit Go.Shelf
set_option linter.unusedSimpArgs false
set_option linter.unusedVariables false

/-- A graph is right. -/
def rGraph (T : List Th) (R : List V) : Bool := (T.all fun t => rThing t && rVals T t.sl) && (rVals T R && !finT T)

set_option maxRecDepth 20000 in
set_option maxHeartbeats 4000000 in
theorem Right_any {w : World} {tv rv : Value} {T : List Th} {R : List V} (hT : RdT w tv T) (hR : RdV w rv R) (hn : T.length ≤ 1000) (hs : ∀ t ∈ T, t.sl.length ≤ 1000) (hRn : R.length ≤ 1000000) (hw : ∀ t ∈ T, wf t.fin) :
    Calls Try.prog 15 #[.agg #[tv, rv]] w fun e w' => e = .returned (.bool (rGraph T R)) ∧ Kept No w w' := by
  have HT : Hid (RdT w tv T) := hT
  have HR : Hid (RdV w rv R) := hR
  have HWf : Hid (∀ t ∈ T, wf t.fin) := hw
  have HS : Hid (∀ t ∈ T, t.sl.length ≤ 1000) := hs
  obtain ⟨ta, tc, rfl, _⟩ := hT
  obtain ⟨ra, rc, rfl, _⟩ := hR
  have HTh : Hid (∀ W', Kept No w W' → ∀ j (hj : j < T.length), ∃ b off svo svc, ta = some ⟨b, off, none⟩ ∧ W'.cell? ⟨b, off + j * 5, none⟩ = some (.int .i64 T[j].kind) ∧ W'.cell? ⟨b, off + j * 5 + 1, none⟩ = some (.int .i64 T[j].weak) ∧
    W'.cell? ⟨b, off + j * 5 + 2, none⟩ = some (.int .i64 T[j].arr) ∧ W'.cell? ⟨b, off + j * 5 + 3, none⟩ = some (.slice svo T[j].sl.length svc) ∧ W'.cell? ⟨b, off + j * 5 + 4, none⟩ = some (.int .i64 T[j].fin) ∧ RdV W' (.slice svo T[j].sl.length svc) T[j].sl) := fun W' ht j hj => by
    obtain ⟨ao', cap', e, h⟩ := HT.out.no ht
    injection e with e1 e2 e3
    subst e1
    obtain ⟨b, off, sv, e1, h1, h2, h3, h4, h5, h6⟩ := h j hj
    obtain ⟨sa, sc, rfl, h7⟩ := h6
    exact ⟨b, off, sa, sc, e1, h1, h2, h3, h4, h5, ⟨sa, sc, rfl, h7⟩⟩
  obtain ⟨rr, HRr⟩ : ∃ rr, Hid (rGraph T R = rr) := ⟨_, rfl⟩
  rw [HRr.out]
  obtain ⟨W, HWd⟩ : ∃ W, Hid (W = w.alloc (.cells #[.slice ta T.length tc, .slice ra R.length rc] 25)) := ⟨_, rfl⟩
  have HK : Hid (Kept No w W) := by show Kept _ _ _; rw [HWd.out]; exact (Kept.refl _ _).alloc _
  have HB : Hid (W.heap[w.heap.size]? = some (.cells #[.slice ta T.length tc, .slice ra R.length rc] 25 (0, 0))) := by show _ = _; rw [HWd.out]; exact World.alloc_heap_new w _
  have HG : Hid (∀ W', Kept No W W' → W'.cell? ⟨w.heap.size, 0, none⟩ = some (.slice ta T.length tc) ∧ W'.cell? ⟨w.heap.size, 1, none⟩ = some (.slice ra R.length rc)) := fun W' hk => by
    have := hk.heap HB.out id
    exact ⟨by rw [cell_of this]; rfl, by rw [cell_of this]; rfl⟩
  obtain ⟨g0, g1⟩ := HG.out W (Kept.refl _ _)
  clear hw hs
  go_enter Try.func15, Try.ntmps15
  go_wp2_with (first | rw [← HWd.out])
  clear g0 g1 HWd
  go_loopw [8, 4, 10, 11, 12, 13, 14, 15, 16, 17, 18, 19, 20, 21, 22, 23] (fun i _ _ _ _ _ _ _ _ _ _ _ _ _ _ _ wr => ∃ j : Nat, j ≤ T.length ∧ i = .int .i64 j ∧ Hid (Kept No W wr ∧ ∀ t ∈ T.take j, (rThing t && rVals T t.sl) = true)) (fun i _ _ _ _ _ _ _ _ _ _ _ _ _ _ _ _ => T.length - (intOf i).toNat)
  case atStart => exact ⟨0, by omega, rfl, Kept.refl _ _, by simp⟩
  case round =>
    obtain ⟨j, hj, rfl, HJ⟩ := hrel
    by_cases hlt : j < T.length
    · have k1 : (j : Int) < (T.length : Int) := by omega
      obtain ⟨b, off, svo, svc, rfl, r0, r1, r2, r3, r4, hrd⟩ := HTh.out wr (HK.out.trans HJ.out.1) j hlt
      have HRd : Hid (RdV wr (.slice svo T[j].sl.length svc) T[j].sl) := hrd
      have hsl := HS.out T[j] (List.getElem_mem hlt)
      have HTk : Hid (∀ y ∈ T.take (j + 1), y ∈ T.take j ∨ y = T[j]) := fun y hy => by
        rw [List.take_succ_eq_append_getElem hlt] at hy
        rcases List.mem_append.1 hy with h | h
        · exact .inl h
        · exact .inr (by simpa using h)
      have HMem : Hid (T[j] ∈ T) := List.getElem_mem hlt
      clear hrd
      generalize T[j] = tt at r0 r1 r2 r3 r4 HRd hsl HTk HMem
      have HBad : Hid ((rThing tt && rVals T tt.sl) = false → rr = false) := fun h => by
        rw [← HRr.out]
        unfold rGraph
        have : (T.all fun t => rThing t && rVals T t.sl) = false := by
          rw [List.all_eq_false]
          exact ⟨tt, HMem.out, by rw [h]; simp⟩
        rw [this]; rfl
      obtain ⟨lnt, hlnt⟩ : ∃ lnt, tt.sl.length = lnt := ⟨_, rfl⟩
      obtain ⟨W2, HW2⟩ : ∃ W2, Hid (W2 = wr.alloc (.cells #[.int .i64 tt.kind, .int .i64 tt.weak, .int .i64 tt.arr, .slice svo lnt svc, .int .i64 tt.fin] 43)) := ⟨_, rfl⟩
      have hk2 : Kept No wr W2 := by rw [HW2.out]; exact (Kept.refl _ _).alloc _
      have hb2 : W2.heap[wr.heap.size]? = some (.cells #[.int .i64 tt.kind, .int .i64 tt.weak, .int .i64 tt.arr, .slice svo lnt svc, .int .i64 tt.fin] 43 (0, 0)) := by rw [HW2.out]; exact World.alloc_heap_new wr _
      have HK2 : Hid (Kept No W W2) := HJ.out.1.trans hk2
      have HRt : Hid (Calls Try.prog 32 #[AT tt (.slice svo lnt svc)] W2 fun e w' => e = .returned (.bool (rThing tt)) ∧ Kept No W2 w') := by
        have := rightThing_any tt svo svc (by omega) W2
        rw [hlnt] at this
        exact this
      rw [hlnt] at r3 HRd
      obtain ⟨d0, d1, d2, d3, d4⟩ := th_cells hb2
      have HB2 : Hid _ := hb2
      obtain ⟨b1, hb1⟩ : ∃ b1, rThing tt = b1 := ⟨_, rfl⟩
      rw [hb1] at HRt HBad
      have HRd2 : Hid (RdV W2 (.slice svo lnt svc) tt.sl) := HRd.out.no hk2
      have HT1 : Hid (∀ W', Kept No W2 W' → Calls Try.prog 33 #[.slice (some ⟨b, off, none⟩) T.length tc, .slice svo lnt svc] W' fun e w' => e = .returned (.bool (rVals T tt.sl)) ∧ Kept No W' w') := fun W' hk => 
        rightValues_any (HT.out.no (HK.out.trans (HK2.out.trans hk))) (by omega) (HRd2.out.no hk) (by omega)
      have HGd : Hid ((rThing tt && rVals T tt.sl) = true → ∀ t ∈ T.take (j + 1), (rThing t && rVals T t.sl) = true) := fun h t ht => by
        rcases HTk.out t ht with h1 | rfl
        · exact HJ.out.2 t h1
        · exact h
      rw [hb1] at HGd
      clear hk2 hb2 hb1
      go_wp2_with (first | rw [← HW2.out])
      refine Calls.mono HRt.out ?_
      rintro e W3 ⟨rfl, hk3⟩
      have hb3 := hk3.heap HB2.out id
      obtain ⟨d0', d1', d2', d3', d4'⟩ := th_cells hb3
      obtain ⟨g0, g1⟩ := HG.out W3 (HK2.out.trans hk3)
      have HC3 : Hid _ := HT1.out W3 hk3
      have HK3 : Hid (Kept No W W3) := HK2.out.trans hk3
      clear HRt HT1 hb3 HB2 d0 d1 d2 d3 d4 HRd HRd2 r0 r1 r2 r3 r4 hk3
      cases b1
      · have HY : Hid (rr = false) := HBad.out rfl
        clear HBad HGd
        go_wp2_with fail
        go_ret
        exact ⟨by rw [HY.out]; rfl, HK.out.trans HK3.out⟩
      · go_wp2_with fail
        refine Calls.mono HC3.out ?_
        rintro e W4 ⟨rfl, hk4⟩
        have HK4 : Hid (Kept No W W4) := HK3.out.trans hk4
        obtain ⟨b2, hb2⟩ : ∃ b2, rVals T tt.sl = b2 := ⟨_, rfl⟩
        rw [hb2] at HBad HGd ⊢
        clear hk4 HC3 hb2 d0' d1' d2' d3' d4' g0 g1
        cases b2
        · have HY : Hid (rr = false) := HBad.out rfl
          clear HBad HGd
          go_wp2_with fail
          go_ret
          exact ⟨by rw [HY.out]; rfl, HK.out.trans HK4.out⟩
        · have HY := HGd.out rfl
          have HY : Hid _ := HY
          clear HBad HGd
          go_wp2
          go_roundw
          case rel => exact ⟨j + 1, by omega, by go_num, HK4.out, HY.out⟩
          case measure => simp [intOf]; omega
    · have k1 : ¬ (j : Int) < (T.length : Int) := by omega
      obtain rfl : j = T.length := by omega
      rw [List.take_length] at HJ
      obtain ⟨g0, g1⟩ := HG.out wr HJ.out.1
      have HAll : Hid (rr = (rVals T R && !finT T)) := by
        show _ = _
        rw [← HRr.out]
        unfold rGraph
        rw [List.all_eq_true.2 HJ.out.2]; rfl
      have HC1 : Hid (Calls Try.prog 33 #[.slice ta T.length tc, .slice ra R.length rc] wr fun e w' => e = .returned (.bool (rVals T R)) ∧ Kept No wr w') := rightValues_any (HT.out.no (HK.out.trans HJ.out.1)) (by omega) (HR.out.no (HK.out.trans HJ.out.1)) hRn
      go_wp2_with fail
      refine Calls.mono HC1.out ?_
      rintro e W4 ⟨rfl, hk4⟩
      have HK4 : Hid (Kept No W W4) := HJ.out.1.trans hk4
      obtain ⟨g0', g1'⟩ := HG.out W4 HK4.out
      have HC2 : Hid (Calls Try.prog 34 #[.slice ta T.length tc] W4 fun e w' => e = .returned (.bool (finT T)) ∧ Kept No W4 w') := finTwice_any (HT.out.no (HK.out.trans HK4.out)) hn HWf.out
      clear hk4 HC1 g0 g1
      generalize rVals T R = b1 at HAll
      cases b1
      · clear HC2
        go_wp2_with fail
        go_ret
        exact ⟨by rw [HAll.out]; rfl, HK.out.trans HK4.out⟩
      · go_wp2_with fail
        refine Calls.mono HC2.out ?_
        rintro e W5 ⟨rfl, hk5⟩
        have HK5 : Hid (Kept No W W5) := HK4.out.trans hk5
        clear hk5 HC2 g0' g1'
        generalize finT T = b2 at HAll
        cases b2
        · go_wp2_with fail
          go_ret
          exact ⟨by rw [HAll.out]; rfl, HK.out.trans HK5.out⟩
        · go_wp2_with fail
          go_ret
          exact ⟨by rw [HAll.out]; rfl, HK.out.trans HK5.out⟩
end Go.Proofs.Ytnofmpbdfcolfaa
