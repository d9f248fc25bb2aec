/- The document's Right. -/
import Derived.Test.YtnofmpbdfcolfaaS5
namespace Go.Proofs.Ytnofmpbdfcolfaa
open Go.RowKit Go.Shelf
set_option linter.unusedSimpArgs false
set_option linter.unusedVariables false

theorem thAt_eq {T : List Th} {j : Nat} (hj : j < T.length) : thAt T j = T[j] := by unfold thAt; simp only [List.getD, List.getElem?_eq_getElem hj, Option.getD_some]
/-- What is wrong with a thing: by itself, .. -/
def bad1 (t : Th) : Bool := (decide (t.kind < 4) || decide (9 < t.kind) || decide (t.weak < 0) || decide (3 < t.weak) || decide (t.fin < 0) || decide (t.arr < 0) || (t.kind != 5 && (decide (0 < t.weak) || decide (0 < t.fin))))
/-- .. by its slots, .. -/
def bad2 (T : List Th) (t : Th) : Bool := (decide (0 < t.arr) && decide ((t.sl.length : Int) ≤ t.arr)) || !rVals T t.sl
/-- .. by one ahead of it. -/
def twB (T : List Th) (h k : Nat) : Bool := decide (0 < (thAt T h).fin) && ((thAt T k).fin == (thAt T h).fin)
def okH (T : List Th) (h : Nat) : Prop := bad1 (thAt T h) = false ∧ bad2 T (thAt T h) = false ∧ ∀ k, k < h → twB T h k = false
theorem okH_thing {T : List Th} {t : Th} : (bad1 t = false ∧ bad2 T t = false) ↔ (rThing t = true ∧ rVals T t.sl = true) := by
  obtain ⟨k, wk, ar, sl, fi⟩ := t
  unfold bad1 bad2 rThing oT
  dsimp only
  have key : ((if 1 < (sl.length : Int) then (sl.length : Int) - 1 else 0) < ar) ↔ (0 < ar ∧ (sl.length : Int) ≤ ar) ∨ ((if 1 < (sl.length : Int) then (sl.length : Int) - 1 else 0) < ar ∧ ar < 0) := by
    by_cases h1 : 1 < (sl.length : Int)
    · rw [if_pos h1]; omega
    · rw [if_neg h1]; omega
  generalize (if 1 < (sl.length : Int) then (sl.length : Int) - 1 else 0) = mx at key ⊢
  generalize (sl.length : Int) = ln at key ⊢
  cases rVals T sl <;> by_cases h5 : k = 5 <;> simp [h5] <;> omega
theorem twice_iff {T : List Th} (hp : ∀ t ∈ T, 0 ≤ t.fin) : finT T = false ↔ ∀ h, h < T.length → ∀ k, k < h → twB T h k = false := by
  unfold finT
  rw [List.any_eq_false]
  constructor
  · intro hf h hh k hk
    have hq := hf h (List.mem_range.2 hh)
    unfold twB
    by_cases h0 : 0 < (thAt T h).fin
    · by_cases he : (thAt T k).fin = (thAt T h).fin
      · exfalso
        apply hq
        have hth := thAt_eq hh
        have htk := thAt_eq (show k < T.length by omega)
        unfold twAt cntF
        rw [hth] at h0 he ⊢
        rw [htk] at he
        have e1 : (T.take (h + 1)).map Th.fin = (T.take h).map Th.fin ++ [T[h].fin] := by rw [List.take_succ_eq_append_getElem hh, List.map_append]; rfl
        have m1 : T[h].fin ∈ (T.take h).map Th.fin := by
          rw [List.mem_map]
          refine ⟨T[k], ?_, he⟩
          rw [List.mem_take_iff_getElem]
          exact ⟨k, by omega, rfl⟩
        have := List.count_pos_iff.2 m1
        have e2 : List.count T[h].fin [T[h].fin] = 1 := by simp
        rw [e1, List.count_append, e2, Bool.and_eq_true]
        exact ⟨by simp; omega, by rw [decide_eq_true_eq]; omega⟩
      · simp [he]
    · simp [h0]
  · intro hf h hh
    have hl := List.mem_range.1 hh
    intro hq
    have hth := thAt_eq hl
    unfold twAt cntF at hq
    rw [hth] at hq
    simp only [Bool.and_eq_true, Bool.not_eq_true', decide_eq_false_iff_not, decide_eq_true_eq] at hq
    have hpos := hp _ (List.getElem_mem hl)
    have e1 : (T.take (h + 1)).map Th.fin = (T.take h).map Th.fin ++ [T[h].fin] := by rw [List.take_succ_eq_append_getElem hl, List.map_append]; rfl
    have hc : 0 < ((T.take h).map Th.fin).count T[h].fin := by
      have := hq.2
      have e2 : List.count T[h].fin [T[h].fin] = 1 := by simp
      rw [e1, List.count_append, e2] at this
      omega
    have m1 := List.count_pos_iff.1 hc
    obtain ⟨t, ht, he⟩ := List.mem_map.1 m1
    obtain ⟨k, hk, e2⟩ := List.mem_take_iff_getElem.1 ht
    have hkl : k < h := by omega
    have := hf h hl k hkl
    unfold twB at this
    rw [hth, thAt_eq (show k < T.length by omega), e2, he] at this
    simp at this
    omega
theorem right_iff {T : List Th} {R : List V} : rGraph T R = true ↔ (∀ h, h < T.length → okH T h) ∧ rVals T R = true := by
  unfold rGraph
  simp only [Bool.and_eq_true, List.all_eq_true, Bool.not_eq_true']
  constructor
  · rintro ⟨h1, h2, h3⟩
    refine ⟨fun h hh => ?_, h2⟩
    have hm : thAt T h ∈ T := by rw [thAt_eq hh]; exact List.getElem_mem hh
    obtain ⟨a, b⟩ := okH_thing.2 (h1 _ hm)
    refine ⟨a, b, (twice_iff (fun t ht => ?_)).1 h3 h hh⟩
    have := (okH_thing.2 (h1 t ht)).1
    unfold bad1 at this
    simp at this
    omega
  · rintro ⟨h1, h2⟩
    have ht : ∀ t ∈ T, bad1 t = false ∧ bad2 T t = false := fun t ht => by
      obtain ⟨h, hh, e⟩ := List.getElem_of_mem ht
      have := h1 h hh
      rw [okH, thAt_eq hh, e] at this
      exact ⟨this.1, this.2.1⟩
    refine ⟨fun t h => okH_thing.1 (ht t h), h2, (twice_iff (fun t h => ?_)).2 (fun h hh => (h1 h hh).2.2)⟩
    have := (ht t h).1
    unfold bad1 at this
    simp at this
    omega

set_option maxRecDepth 20000 in
set_option maxHeartbeats 8000000 in
theorem RRight_any {w : World} {ao ro : Option Addr} {cap rc : Nat} {T : List Th} {R : List V} (hT : RdT w (.slice ao T.length cap) T) (hR : RdV w (.slice ro R.length rc) R) (hn : T.length ≤ 1000) (hs : ∀ t ∈ T, t.sl.length ≤ 1000) (hRn : R.length ≤ 1000000) :
    Calls Try.prog 16 #[AG ao T.length cap ro R.length rc] w fun e w' => e = .returned (.bool (rGraph T R)) ∧ Kept No w w' := by
  have HT : Hid (RdT w (.slice ao T.length cap) T) := hT
  have HR : Hid (RdV w (.slice ro R.length rc) R) := hR
  have HSl : Hid (∀ t ∈ T, t.sl.length ≤ 1000) := hs
  have HTh : Hid (∀ h (hh : h < T.length), ∃ b off sa sc', ao = some ⟨b, off, none⟩ ∧ ∀ X, Kept No w X → (X.cell? ⟨b, off + h * 5, none⟩ = some (.int .i64 T[h].kind) ∧ X.cell? ⟨b, off + h * 5 + 1, none⟩ = some (.int .i64 T[h].weak) ∧ X.cell? ⟨b, off + h * 5 + 2, none⟩ = some (.int .i64 T[h].arr) ∧ X.cell? ⟨b, off + h * 5 + 3, none⟩ = some (.slice sa T[h].sl.length sc') ∧ X.cell? ⟨b, off + h * 5 + 4, none⟩ = some (.int .i64 T[h].fin)) ∧ RdV X (.slice sa T[h].sl.length sc') T[h].sl) := fun h hh => by
    obtain ⟨ao', cap', e, hq⟩ := hT
    injection e with e1 e2 e3
    subst e1
    obtain ⟨b, off, sv, e2, h1, h2, h3, h4, h5, h6⟩ := hq h hh
    obtain ⟨sa, sc', rfl, h7⟩ := h6
    exact ⟨b, off, sa, sc', e2, fun X hX => ⟨⟨by rw [cell_al hX h1]; exact h1, by rw [cell_al hX h2]; exact h2, by rw [cell_al hX h3]; exact h3, by rw [cell_al hX h4]; exact h4, by rw [cell_al hX h5]; exact h5⟩, RdV.no ⟨sa, sc', rfl, h7⟩ hX⟩⟩
  obtain ⟨W, HWd⟩ : ∃ W, Hid (W = w.alloc (.cells #[.slice ao T.length cap, .slice ro R.length rc] 25)) := ⟨_, rfl⟩
  have HKW : Hid (Kept No w W) := by show Kept _ _ _; rw [HWd.out]; exact (Kept.refl _ _).alloc _
  have HGx : Hid (W.heap[w.heap.size]? = some (.cells #[.slice ao T.length cap, .slice ro R.length rc] 25 (0, 0))) := by show _ = _; rw [HWd.out]; exact World.alloc_heap_new w _
  obtain ⟨r, HRr⟩ : ∃ r, Hid (rGraph T R = r) := ⟨_, rfl⟩
  rw [HRr.out]
  have HIff : Hid (r = true ↔ (∀ h, h < T.length → okH T h) ∧ rVals T R = true) := by show _ ↔ _; rw [← HRr.out]; exact right_iff
  clear hT hR hs HRr
  go_enter Try.func16, Try.ntmps16
  go_wp2_with (first | rw [← HWd.out])
  go_loopw [3, 4, 5, 6, 7, 8, 9, 10, 11, 12, 13, 14, 15, 16, 17, 18, 19, 20, 21, 22, 23, 24, 25, 26, 27, 28, 29, 30, 31, 32, 33, 34, 35, 36, 37, 38, 39, 40, 41, 42, 43, 44, 45, 46, 47, 48, 49, 50, 51, 52, 53, 54, 55, 56, 57, 58, 59, 60, 61, 62, 63, 64, 65, 66, 67, 68, 69, 70, 71, 72, 73, 74, 75, 76, 77, 78, 79, 80, 81, 82, 83, 84, 85, 86, 87, 88, 89, 90, 91, 92, 93, 94, 95, 96, 97] (fun hh _ _ _ _ _ _ _ _ _ _ _ _ _ _ _ _ _ _ _ _ _ _ _ _ _ _ _ _ _ _ _ _ _ _ _ _ _ _ _ _ _ _ _ _ _ _ _ _ _ _ _ _ _ _ _ _ _ _ _ _ _ _ _ _ _ _ _ _ _ _ _ _ _ _ _ _ _ _ _ _ _ _ _ _ _ _ _ _ _ _ _ _ _ _ wr => ∃ h : Nat, h ≤ T.length ∧ hh = .int .i64 h ∧ Hid (Kept No W wr ∧ ∀ h', h' < h → okH T h')) (fun hh _ _ _ _ _ _ _ _ _ _ _ _ _ _ _ _ _ _ _ _ _ _ _ _ _ _ _ _ _ _ _ _ _ _ _ _ _ _ _ _ _ _ _ _ _ _ _ _ _ _ _ _ _ _ _ _ _ _ _ _ _ _ _ _ _ _ _ _ _ _ _ _ _ _ _ _ _ _ _ _ _ _ _ _ _ _ _ _ _ _ _ _ _ _ _ => T.length - (intOf hh).toNat)
  case atStart => exact ⟨0, by omega, rfl, Kept.refl _ _, fun h' hh' => absurd hh' (by omega)⟩
  case round =>
    obtain ⟨h, hh, rfl, HJ0⟩ := hrel
    have HOk : Hid (∀ h', h' < h → okH T h') := HJ0.out.2
    have HK : Hid (Kept No W wr) := HJ0.out.1
    clear HJ0
    by_cases hlt : h < T.length
    · have kh : (h : Int) < (T.length : Int) := by omega
      obtain ⟨b, off, sa, sc', rfl, hall⟩ := HTh.out h hlt
      obtain ⟨⟨t0, t1, t2, t3, t4⟩, _⟩ := hall wr (HKW.out.trans HK.out)
      have g0 : wr.cell? ⟨w.heap.size, 0, none⟩ = some (.slice (some ⟨b, off, none⟩) T.length cap) := by rw [cell_of (HK.out.heap HGx.out id)]; rfl
      have HThA : Hid (thAt T h = T[h]) := thAt_eq hlt
      have hle := HSl.out T[h] (List.getElem_mem hlt)
      have HRdv : Hid (∀ X, Kept No w X → RdV X (.slice sa T[h].sl.length sc') T[h].sl) := fun X hX => (hall X hX).2
      have HBad : Hid ((bad1 (thAt T h) = true ∨ bad2 T (thAt T h) = true ∨ ∃ k, k < h ∧ twB T h k = true) → r = false) := fun hb => by
        cases hr : r with
        | false => rfl
        | true =>
          have := (HIff.out.1 hr).1 h hlt
          rcases hb with hb | hb | ⟨k, hk, hb⟩
          · rw [this.1] at hb; cases hb
          · rw [this.2.1] at hb; cases hb
          · rw [this.2.2 k hk] at hb; cases hb
      clear hall
      generalize T[h] = t at t0 t1 t2 t3 t4 HThA hle HRdv
      obtain ⟨tk, tw, ta, sl, tf⟩ := t
      dsimp only at t0 t1 t2 t3 t4 hle HRdv
      obtain ⟨ln, hln⟩ : ∃ ln, sl.length = ln := ⟨_, rfl⟩
      have HLn : Hid (sl.length = ln) := hln
      rw [hln] at t3 hle HRdv
      clear hln
      obtain ⟨W5, HW5⟩ : ∃ W5, Hid (W5 = wr.alloc (.cells #[.int .i64 tk, .int .i64 tw, .int .i64 ta, .slice sa ln sc', .int .i64 tf] 43)) := ⟨_, rfl⟩
      have hk5 : Kept No wr W5 := by rw [HW5.out]; exact (Kept.refl _ _).alloc _
      have hb5 : W5.heap[wr.heap.size]? = some (.cells #[.int .i64 tk, .int .i64 tw, .int .i64 ta, .slice sa ln sc', .int .i64 tf] 43 (0, 0)) := by rw [HW5.out]; exact World.alloc_heap_new wr _
      have HK5 : Hid (Kept No W W5) := HK.out.trans hk5
      have s0 : W5.cell? ⟨wr.heap.size, 0, none⟩ = some (.int .i64 tk) := by rw [cell_of hb5]; rfl
      have s1 : W5.cell? ⟨wr.heap.size, 1, none⟩ = some (.int .i64 tw) := by rw [cell_of hb5]; rfl
      have s2 : W5.cell? ⟨wr.heap.size, 2, none⟩ = some (.int .i64 ta) := by rw [cell_of hb5]; rfl
      have s3 : W5.cell? ⟨wr.heap.size, 3, none⟩ = some (.slice sa ln sc') := by rw [cell_of hb5]; rfl
      have s4' : W5.cell? ⟨wr.heap.size, 4, none⟩ = some (.int .i64 tf) := by rw [cell_of hb5]; rfl
      have HB5 : Hid _ := hb5
      have g0' : W5.cell? ⟨w.heap.size, 0, none⟩ = some (.slice (some ⟨b, off, none⟩) T.length cap) := by rw [cell_of (HK5.out.heap HGx.out id)]; rfl
      have g1 : W5.cell? ⟨w.heap.size, 1, none⟩ = some (.slice ro R.length rc) := by rw [cell_of (HK5.out.heap HGx.out id)]; rfl
      have HB1e : Hid (bad1 (thAt T h) = (decide (tk < 4) || decide (9 < tk) || decide (tw < 0) || decide (3 < tw) || decide (tf < 0) || decide (ta < 0) || (tk != 5 && (decide (0 < tw) || decide (0 < tf))))) := by show _ = _; rw [HThA.out]; rfl
      clear hk5 hb5 HK
      cases hB1 : (decide (tk < 4) || decide (9 < tk) || decide (tw < 0) || decide (3 < tw) || decide (tf < 0) || decide (ta < 0) || (tk != 5 && (decide (0 < tw) || decide (0 < tf)))) with
      | true =>
        have HZ : Hid (r = false) := HBad.out (.inl (by rw [HB1e.out]; exact hB1))
        have HK9 := HK5
        have hcase : tk < 4 ∨ (¬ tk < 4 ∧ 9 < tk) ∨ (¬ tk < 4 ∧ ¬ 9 < tk ∧ tw < 0) ∨ (¬ tk < 4 ∧ ¬ 9 < tk ∧ ¬ tw < 0 ∧ 3 < tw) ∨ (¬ tk < 4 ∧ ¬ 9 < tk ∧ ¬ tw < 0 ∧ ¬ 3 < tw ∧ tf < 0) ∨ (¬ tk < 4 ∧ ¬ 9 < tk ∧ ¬ tw < 0 ∧ ¬ 3 < tw ∧ ¬ tf < 0 ∧ ta < 0) ∨ (¬ tk < 4 ∧ ¬ 9 < tk ∧ ¬ tw < 0 ∧ ¬ 3 < tw ∧ ¬ tf < 0 ∧ ¬ ta < 0 ∧ tk ≠ 5 ∧ 0 < tw) ∨ (¬ tk < 4 ∧ ¬ 9 < tk ∧ ¬ tw < 0 ∧ ¬ 3 < tw ∧ ¬ tf < 0 ∧ ¬ ta < 0 ∧ tk ≠ 5 ∧ ¬ 0 < tw ∧ 0 < tf) := by
          simp at hB1
          omega
        clear hB1 HB1e HB5 HRdv
        rcases hcase with h1 | ⟨h1, h2⟩ | ⟨h1, h2, h3⟩ | ⟨h1, h2, h3, h4⟩ | ⟨h1, h2, h3, h4, h5⟩ | ⟨h1, h2, h3, h4, h5, h6⟩ | ⟨h1, h2, h3, h4, h5, h6, h7, h8⟩ | ⟨h1, h2, h3, h4, h5, h6, h7, h8, h9⟩
        all_goals
          go_wp2_with (first | rw [← HW5.out])
          go_ret
          exact ⟨by rw [HZ.out]; rfl, HKW.out.trans HK9.out⟩
      | false =>
        have HB1 : Hid (bad1 (thAt T h) = false) := by show _ = _; rw [HB1e.out]; exact hB1
        have hcase : (¬ tk < 4 ∧ ¬ 9 < tk ∧ ¬ tw < 0 ∧ ¬ 3 < tw ∧ ¬ tf < 0 ∧ ¬ ta < 0) ∧ (tk = 5 ∨ (tk ≠ 5 ∧ ¬ 0 < tw ∧ ¬ 0 < tf)) := by
          simp at hB1
          omega
        clear hB1 HB1e
        obtain ⟨⟨h1, h2, h3, h4, h5, h6⟩, hk5⟩ := hcase
        rcases hk5 with h7 | ⟨h7, h8, h9⟩
        · subst h7
          by_cases q0 : 0 < ta
          · by_cases q1 : (ln : Int) ≤ ta
            · have HZ : Hid (r = false) := HBad.out (.inr (.inl (by unfold bad2; rw [HThA.out]; simp only [HLn.out]; simp [q0, q1])))
              have HK9 := HK5
              go_wp2_with (first | rw [← HW5.out])
              go_ret
              exact ⟨by rw [HZ.out]; rfl, HKW.out.trans HK9.out⟩
            · have HAl : Hid (Calls Try.prog 35 #[AG (some ⟨b, off, none⟩) T.length cap ro R.length rc, .slice sa ln sc'] W5 fun e w' => e = .returned (.bool (rVals T sl)) ∧ Kept No W5 w') := by
                have := Rall_any (ro := ro) (rn := R.length) (rc := rc) (HT.out.no (HKW.out.trans HK5.out)) (show RdV W5 (.slice sa sl.length sc') sl by rw [HLn.out]; exact HRdv.out W5 (HKW.out.trans HK5.out)) (by omega) (by rw [HLn.out]; omega)
                rw [HLn.out] at this
                exact this
              obtain ⟨vb, HVb⟩ : ∃ vb, Hid (rVals T sl = vb) := ⟨_, rfl⟩
              rw [HVb.out] at HAl
              go_wp2_with (first | rw [← HW5.out])
              go_at_call 35
              refine Calls.mono HAl.out ?_
              rintro e X6 ⟨rfl, hk6⟩
              have HK6 : Hid (Kept No W X6) := HK5.out.trans hk6
              have HB6 : Hid (X6.heap[wr.heap.size]? = some (.cells #[.int .i64 5, .int .i64 tw, .int .i64 ta, .slice sa ln sc', .int .i64 tf] 43 (0, 0))) := hk6.heap HB5.out id
              clear hk6 HAl s0 s1 s2 s3 s4' g0 g0' g1 HB5 HK5 t0 t1 t2 t3 t4 HW5
              generalize wr.heap.size = tb at HB6 ⊢
              cases vb
              · have HZ : Hid (r = false) := HBad.out (.inr (.inl (by unfold bad2; rw [HThA.out]; simp only [HVb.out]; simp)))
                have HK9 := HK6
                go_wp2
                go_ret
                exact ⟨by rw [HZ.out]; rfl, HKW.out.trans HK9.out⟩
              · have HB2 : Hid (bad2 T (thAt T h) = false) := by show _ = _; unfold bad2; rw [HThA.out]; simp only [HVb.out, HLn.out]; simp; omega
                clear HVb
                go_wp2_with fail
                go_loopw [5, 79, 80, 81, 82, 83, 84, 85, 86, 87, 88, 89, 90, 91, 92, 93, 94, 95, 96, 97] (fun kk _ _ _ _ _ _ _ _ _ _ _ _ _ _ _ _ _ _ _ wr => ∃ k : Nat, k ≤ h ∧ kk = .int .i64 k ∧ Hid (Kept No W wr ∧ wr.heap[tb]? = some (.cells #[.int .i64 5, .int .i64 tw, .int .i64 ta, .slice sa ln sc', .int .i64 tf] 43 (0, 0)) ∧ ∀ k', k' < k → twB T h k' = false)) (fun kk _ _ _ _ _ _ _ _ _ _ _ _ _ _ _ _ _ _ _ _ => h - (intOf kk).toNat)
                case atStart => exact ⟨0, by omega, rfl, HK6.out, HB6.out, fun k' hk' => absurd hk' (by omega)⟩
                case round =>
                  clear HK6 HB6
                  obtain ⟨k, hk, rfl, HJ⟩ := hrel
                  have s4 : wr.cell? ⟨tb, 4, none⟩ = some (.int .i64 tf) := by rw [cell_of HJ.out.2.1]; rfl
                  by_cases hkh : k < h
                  · have kk1 : (k : Int) < (h : Int) := by omega
                    have kk2 : (k : Int) < (T.length : Int) := by omega
                    have g0 : wr.cell? ⟨w.heap.size, 0, none⟩ = some (.slice (some ⟨b, off, none⟩) T.length cap) := by rw [cell_of (HJ.out.1.heap HGx.out id)]; rfl
                    obtain ⟨b', off', sa', sc'', e', hall'⟩ := HTh.out k (by omega)
                    injection e' with e'
                    injection e' with e1 e2
                    subst e1 e2
                    have y4 := (hall' wr (HKW.out.trans HJ.out.1)).1.2.2.2.2
                    have HTw : Hid (twB T h k = (decide (0 < tf) && (T[k].fin == tf))) := by show _ = _; unfold twB; rw [HThA.out]; have : thAt T k = T[k] := thAt_eq (by omega); rw [this]
                    clear hall'
                    generalize T[k].fin = fk at y4 HTw
                    by_cases hf : 0 < tf
                    · have d1 : decide (0 < tf) = true := by simpa using hf
                      by_cases he : fk = tf
                      · have HZ : Hid (r = false) := HBad.out (.inr (.inr ⟨k, hkh, by rw [HTw.out]; simp [hf, he]⟩))
                        have d2 : (fk == tf) = true := by simp [he]
                        clear HTw he
                        go_wp2_with fail
                        go_quiet (fail)
                        have HK9 : Hid (Kept No W (wr.drewN nq)) := HJ.out.1.drewN nq
                        clear s4 g0 y4 d1 d2
                        generalize wr.drewN nq = X5 at HK9 ⊢
                        go_wp2
                        go_ret
                        exact ⟨by rw [HZ.out]; rfl, HKW.out.trans HK9.out⟩
                      · have d2 : (fk == tf) = false := by simp [he]
                        have HNx : Hid (∀ k', k' < k + 1 → twB T h k' = false) := fun k' hk' => by
                          rcases Nat.lt_succ_iff_lt_or_eq.1 hk' with hq | hq
                          · exact HJ.out.2.2 k' hq
                          · rw [hq, HTw.out]; simp [he]
                        clear HTw
                        go_wp2_with fail
                        go_quiet (fail)
                        have HK9 : Hid (Kept No W (wr.drewN nq) ∧ (wr.drewN nq).heap[tb]? = some (.cells #[.int .i64 5, .int .i64 tw, .int .i64 ta, .slice sa ln sc', .int .i64 tf] 43 (0, 0))) := ⟨HJ.out.1.drewN nq, HJ.out.2.1⟩
                        clear s4 g0 y4 d1 d2
                        generalize wr.drewN nq = X5 at HK9 ⊢
                        go_wp2_with fail
                        go_roundw
                        case rel => exact ⟨k + 1, by omega, by go_num, HK9.out.1, HK9.out.2, HNx.out⟩
                        case measure => simp [intOf]; omega
                    · have d1 : decide (0 < tf) = false := by simpa using hf
                      have HNx : Hid (∀ k', k' < k + 1 → twB T h k' = false) := fun k' hk' => by
                        rcases Nat.lt_succ_iff_lt_or_eq.1 hk' with hq | hq
                        · exact HJ.out.2.2 k' hq
                        · rw [hq, HTw.out]; simp [hf]
                      clear HTw
                      go_wp2_with fail
                      go_quiet (fail)
                      have HK9 : Hid (Kept No W (wr.drewN nq) ∧ (wr.drewN nq).heap[tb]? = some (.cells #[.int .i64 5, .int .i64 tw, .int .i64 ta, .slice sa ln sc', .int .i64 tf] 43 (0, 0))) := ⟨HJ.out.1.drewN nq, HJ.out.2.1⟩
                      clear s4 g0 y4 d1
                      generalize wr.drewN nq = X5 at HK9 ⊢
                      go_wp2_with fail
                      go_roundw
                      case rel => exact ⟨k + 1, by omega, by go_num, HK9.out.1, HK9.out.2, HNx.out⟩
                      case measure => simp [intOf]; omega
                  · have kk1 : ¬ (k : Int) < (h : Int) := by omega
                    obtain rfl : k = h := by omega
                    have HNx : Hid (∀ h', h' < k + 1 → okH T h') := fun h' hh' => by
                      rcases Nat.lt_succ_iff_lt_or_eq.1 hh' with hq | hq
                      · exact HOk.out h' hq
                      · rw [hq]; exact ⟨HB1.out, HB2.out, HJ.out.2.2⟩
                    go_wp2_with fail
                    go_roundw
                    case rel => exact ⟨k + 1, by omega, by go_num, HJ.out.1, HNx.out⟩
                    case measure => simp [intOf]; omega
          · have HAl : Hid (Calls Try.prog 35 #[AG (some ⟨b, off, none⟩) T.length cap ro R.length rc, .slice sa ln sc'] W5 fun e w' => e = .returned (.bool (rVals T sl)) ∧ Kept No W5 w') := by
              have := Rall_any (ro := ro) (rn := R.length) (rc := rc) (HT.out.no (HKW.out.trans HK5.out)) (show RdV W5 (.slice sa sl.length sc') sl by rw [HLn.out]; exact HRdv.out W5 (HKW.out.trans HK5.out)) (by omega) (by rw [HLn.out]; omega)
              rw [HLn.out] at this
              exact this
            obtain ⟨vb, HVb⟩ : ∃ vb, Hid (rVals T sl = vb) := ⟨_, rfl⟩
            rw [HVb.out] at HAl
            go_wp2_with (first | rw [← HW5.out])
            go_at_call 35
            refine Calls.mono HAl.out ?_
            rintro e X6 ⟨rfl, hk6⟩
            have HK6 : Hid (Kept No W X6) := HK5.out.trans hk6
            have HB6 : Hid (X6.heap[wr.heap.size]? = some (.cells #[.int .i64 5, .int .i64 tw, .int .i64 ta, .slice sa ln sc', .int .i64 tf] 43 (0, 0))) := hk6.heap HB5.out id
            clear hk6 HAl s0 s1 s2 s3 s4' g0 g0' g1 HB5 HK5 t0 t1 t2 t3 t4 HW5
            generalize wr.heap.size = tb at HB6 ⊢
            cases vb
            · have HZ : Hid (r = false) := HBad.out (.inr (.inl (by unfold bad2; rw [HThA.out]; simp only [HVb.out]; simp)))
              have HK9 := HK6
              go_wp2
              go_ret
              exact ⟨by rw [HZ.out]; rfl, HKW.out.trans HK9.out⟩
            · have HB2 : Hid (bad2 T (thAt T h) = false) := by show _ = _; unfold bad2; rw [HThA.out]; simp only [HVb.out, HLn.out]; simp; omega
              clear HVb
              go_wp2_with fail
              go_loopw [5, 79, 80, 81, 82, 83, 84, 85, 86, 87, 88, 89, 90, 91, 92, 93, 94, 95, 96, 97] (fun kk _ _ _ _ _ _ _ _ _ _ _ _ _ _ _ _ _ _ _ wr => ∃ k : Nat, k ≤ h ∧ kk = .int .i64 k ∧ Hid (Kept No W wr ∧ wr.heap[tb]? = some (.cells #[.int .i64 5, .int .i64 tw, .int .i64 ta, .slice sa ln sc', .int .i64 tf] 43 (0, 0)) ∧ ∀ k', k' < k → twB T h k' = false)) (fun kk _ _ _ _ _ _ _ _ _ _ _ _ _ _ _ _ _ _ _ _ => h - (intOf kk).toNat)
              case atStart => exact ⟨0, by omega, rfl, HK6.out, HB6.out, fun k' hk' => absurd hk' (by omega)⟩
              case round =>
                clear HK6 HB6
                obtain ⟨k, hk, rfl, HJ⟩ := hrel
                have s4 : wr.cell? ⟨tb, 4, none⟩ = some (.int .i64 tf) := by rw [cell_of HJ.out.2.1]; rfl
                by_cases hkh : k < h
                · have kk1 : (k : Int) < (h : Int) := by omega
                  have kk2 : (k : Int) < (T.length : Int) := by omega
                  have g0 : wr.cell? ⟨w.heap.size, 0, none⟩ = some (.slice (some ⟨b, off, none⟩) T.length cap) := by rw [cell_of (HJ.out.1.heap HGx.out id)]; rfl
                  obtain ⟨b', off', sa', sc'', e', hall'⟩ := HTh.out k (by omega)
                  injection e' with e'
                  injection e' with e1 e2
                  subst e1 e2
                  have y4 := (hall' wr (HKW.out.trans HJ.out.1)).1.2.2.2.2
                  have HTw : Hid (twB T h k = (decide (0 < tf) && (T[k].fin == tf))) := by show _ = _; unfold twB; rw [HThA.out]; have : thAt T k = T[k] := thAt_eq (by omega); rw [this]
                  clear hall'
                  generalize T[k].fin = fk at y4 HTw
                  by_cases hf : 0 < tf
                  · have d1 : decide (0 < tf) = true := by simpa using hf
                    by_cases he : fk = tf
                    · have HZ : Hid (r = false) := HBad.out (.inr (.inr ⟨k, hkh, by rw [HTw.out]; simp [hf, he]⟩))
                      have d2 : (fk == tf) = true := by simp [he]
                      clear HTw he
                      go_wp2_with fail
                      go_quiet (fail)
                      have HK9 : Hid (Kept No W (wr.drewN nq)) := HJ.out.1.drewN nq
                      clear s4 g0 y4 d1 d2
                      generalize wr.drewN nq = X5 at HK9 ⊢
                      go_wp2
                      go_ret
                      exact ⟨by rw [HZ.out]; rfl, HKW.out.trans HK9.out⟩
                    · have d2 : (fk == tf) = false := by simp [he]
                      have HNx : Hid (∀ k', k' < k + 1 → twB T h k' = false) := fun k' hk' => by
                        rcases Nat.lt_succ_iff_lt_or_eq.1 hk' with hq | hq
                        · exact HJ.out.2.2 k' hq
                        · rw [hq, HTw.out]; simp [he]
                      clear HTw
                      go_wp2_with fail
                      go_quiet (fail)
                      have HK9 : Hid (Kept No W (wr.drewN nq) ∧ (wr.drewN nq).heap[tb]? = some (.cells #[.int .i64 5, .int .i64 tw, .int .i64 ta, .slice sa ln sc', .int .i64 tf] 43 (0, 0))) := ⟨HJ.out.1.drewN nq, HJ.out.2.1⟩
                      clear s4 g0 y4 d1 d2
                      generalize wr.drewN nq = X5 at HK9 ⊢
                      go_wp2_with fail
                      go_roundw
                      case rel => exact ⟨k + 1, by omega, by go_num, HK9.out.1, HK9.out.2, HNx.out⟩
                      case measure => simp [intOf]; omega
                  · have d1 : decide (0 < tf) = false := by simpa using hf
                    have HNx : Hid (∀ k', k' < k + 1 → twB T h k' = false) := fun k' hk' => by
                      rcases Nat.lt_succ_iff_lt_or_eq.1 hk' with hq | hq
                      · exact HJ.out.2.2 k' hq
                      · rw [hq, HTw.out]; simp [hf]
                    clear HTw
                    go_wp2_with fail
                    go_quiet (fail)
                    have HK9 : Hid (Kept No W (wr.drewN nq) ∧ (wr.drewN nq).heap[tb]? = some (.cells #[.int .i64 5, .int .i64 tw, .int .i64 ta, .slice sa ln sc', .int .i64 tf] 43 (0, 0))) := ⟨HJ.out.1.drewN nq, HJ.out.2.1⟩
                    clear s4 g0 y4 d1
                    generalize wr.drewN nq = X5 at HK9 ⊢
                    go_wp2_with fail
                    go_roundw
                    case rel => exact ⟨k + 1, by omega, by go_num, HK9.out.1, HK9.out.2, HNx.out⟩
                    case measure => simp [intOf]; omega
                · have kk1 : ¬ (k : Int) < (h : Int) := by omega
                  obtain rfl : k = h := by omega
                  have HNx : Hid (∀ h', h' < k + 1 → okH T h') := fun h' hh' => by
                    rcases Nat.lt_succ_iff_lt_or_eq.1 hh' with hq | hq
                    · exact HOk.out h' hq
                    · rw [hq]; exact ⟨HB1.out, HB2.out, HJ.out.2.2⟩
                  go_wp2_with fail
                  go_roundw
                  case rel => exact ⟨k + 1, by omega, by go_num, HJ.out.1, HNx.out⟩
                  case measure => simp [intOf]; omega
        · by_cases q0 : 0 < ta
          · by_cases q1 : (ln : Int) ≤ ta
            · have HZ : Hid (r = false) := HBad.out (.inr (.inl (by unfold bad2; rw [HThA.out]; simp only [HLn.out]; simp [q0, q1])))
              have HK9 := HK5
              go_wp2_with (first | rw [← HW5.out])
              go_ret
              exact ⟨by rw [HZ.out]; rfl, HKW.out.trans HK9.out⟩
            · have HAl : Hid (Calls Try.prog 35 #[AG (some ⟨b, off, none⟩) T.length cap ro R.length rc, .slice sa ln sc'] W5 fun e w' => e = .returned (.bool (rVals T sl)) ∧ Kept No W5 w') := by
                have := Rall_any (ro := ro) (rn := R.length) (rc := rc) (HT.out.no (HKW.out.trans HK5.out)) (show RdV W5 (.slice sa sl.length sc') sl by rw [HLn.out]; exact HRdv.out W5 (HKW.out.trans HK5.out)) (by omega) (by rw [HLn.out]; omega)
                rw [HLn.out] at this
                exact this
              obtain ⟨vb, HVb⟩ : ∃ vb, Hid (rVals T sl = vb) := ⟨_, rfl⟩
              rw [HVb.out] at HAl
              go_wp2_with (first | rw [← HW5.out])
              go_at_call 35
              refine Calls.mono HAl.out ?_
              rintro e X6 ⟨rfl, hk6⟩
              have HK6 : Hid (Kept No W X6) := HK5.out.trans hk6
              have HB6 : Hid (X6.heap[wr.heap.size]? = some (.cells #[.int .i64 tk, .int .i64 tw, .int .i64 ta, .slice sa ln sc', .int .i64 tf] 43 (0, 0))) := hk6.heap HB5.out id
              clear hk6 HAl s0 s1 s2 s3 s4' g0 g0' g1 HB5 HK5 t0 t1 t2 t3 t4 HW5
              generalize wr.heap.size = tb at HB6 ⊢
              cases vb
              · have HZ : Hid (r = false) := HBad.out (.inr (.inl (by unfold bad2; rw [HThA.out]; simp only [HVb.out]; simp)))
                have HK9 := HK6
                go_wp2
                go_ret
                exact ⟨by rw [HZ.out]; rfl, HKW.out.trans HK9.out⟩
              · have HB2 : Hid (bad2 T (thAt T h) = false) := by show _ = _; unfold bad2; rw [HThA.out]; simp only [HVb.out, HLn.out]; simp; omega
                clear HVb
                go_wp2_with fail
                go_loopw [5, 79, 80, 81, 82, 83, 84, 85, 86, 87, 88, 89, 90, 91, 92, 93, 94, 95, 96, 97] (fun kk _ _ _ _ _ _ _ _ _ _ _ _ _ _ _ _ _ _ _ wr => ∃ k : Nat, k ≤ h ∧ kk = .int .i64 k ∧ Hid (Kept No W wr ∧ wr.heap[tb]? = some (.cells #[.int .i64 tk, .int .i64 tw, .int .i64 ta, .slice sa ln sc', .int .i64 tf] 43 (0, 0)) ∧ ∀ k', k' < k → twB T h k' = false)) (fun kk _ _ _ _ _ _ _ _ _ _ _ _ _ _ _ _ _ _ _ _ => h - (intOf kk).toNat)
                case atStart => exact ⟨0, by omega, rfl, HK6.out, HB6.out, fun k' hk' => absurd hk' (by omega)⟩
                case round =>
                  clear HK6 HB6
                  obtain ⟨k, hk, rfl, HJ⟩ := hrel
                  have s4 : wr.cell? ⟨tb, 4, none⟩ = some (.int .i64 tf) := by rw [cell_of HJ.out.2.1]; rfl
                  by_cases hkh : k < h
                  · have kk1 : (k : Int) < (h : Int) := by omega
                    have kk2 : (k : Int) < (T.length : Int) := by omega
                    have g0 : wr.cell? ⟨w.heap.size, 0, none⟩ = some (.slice (some ⟨b, off, none⟩) T.length cap) := by rw [cell_of (HJ.out.1.heap HGx.out id)]; rfl
                    obtain ⟨b', off', sa', sc'', e', hall'⟩ := HTh.out k (by omega)
                    injection e' with e'
                    injection e' with e1 e2
                    subst e1 e2
                    have y4 := (hall' wr (HKW.out.trans HJ.out.1)).1.2.2.2.2
                    have HTw : Hid (twB T h k = (decide (0 < tf) && (T[k].fin == tf))) := by show _ = _; unfold twB; rw [HThA.out]; have : thAt T k = T[k] := thAt_eq (by omega); rw [this]
                    clear hall'
                    generalize T[k].fin = fk at y4 HTw
                    by_cases hf : 0 < tf
                    · have d1 : decide (0 < tf) = true := by simpa using hf
                      by_cases he : fk = tf
                      · have HZ : Hid (r = false) := HBad.out (.inr (.inr ⟨k, hkh, by rw [HTw.out]; simp [hf, he]⟩))
                        have d2 : (fk == tf) = true := by simp [he]
                        clear HTw he
                        go_wp2_with fail
                        go_quiet (fail)
                        have HK9 : Hid (Kept No W (wr.drewN nq)) := HJ.out.1.drewN nq
                        clear s4 g0 y4 d1 d2
                        generalize wr.drewN nq = X5 at HK9 ⊢
                        go_wp2
                        go_ret
                        exact ⟨by rw [HZ.out]; rfl, HKW.out.trans HK9.out⟩
                      · have d2 : (fk == tf) = false := by simp [he]
                        have HNx : Hid (∀ k', k' < k + 1 → twB T h k' = false) := fun k' hk' => by
                          rcases Nat.lt_succ_iff_lt_or_eq.1 hk' with hq | hq
                          · exact HJ.out.2.2 k' hq
                          · rw [hq, HTw.out]; simp [he]
                        clear HTw
                        go_wp2_with fail
                        go_quiet (fail)
                        have HK9 : Hid (Kept No W (wr.drewN nq) ∧ (wr.drewN nq).heap[tb]? = some (.cells #[.int .i64 tk, .int .i64 tw, .int .i64 ta, .slice sa ln sc', .int .i64 tf] 43 (0, 0))) := ⟨HJ.out.1.drewN nq, HJ.out.2.1⟩
                        clear s4 g0 y4 d1 d2
                        generalize wr.drewN nq = X5 at HK9 ⊢
                        go_wp2_with fail
                        go_roundw
                        case rel => exact ⟨k + 1, by omega, by go_num, HK9.out.1, HK9.out.2, HNx.out⟩
                        case measure => simp [intOf]; omega
                    · have d1 : decide (0 < tf) = false := by simpa using hf
                      have HNx : Hid (∀ k', k' < k + 1 → twB T h k' = false) := fun k' hk' => by
                        rcases Nat.lt_succ_iff_lt_or_eq.1 hk' with hq | hq
                        · exact HJ.out.2.2 k' hq
                        · rw [hq, HTw.out]; simp [hf]
                      clear HTw
                      go_wp2_with fail
                      go_quiet (fail)
                      have HK9 : Hid (Kept No W (wr.drewN nq) ∧ (wr.drewN nq).heap[tb]? = some (.cells #[.int .i64 tk, .int .i64 tw, .int .i64 ta, .slice sa ln sc', .int .i64 tf] 43 (0, 0))) := ⟨HJ.out.1.drewN nq, HJ.out.2.1⟩
                      clear s4 g0 y4 d1
                      generalize wr.drewN nq = X5 at HK9 ⊢
                      go_wp2_with fail
                      go_roundw
                      case rel => exact ⟨k + 1, by omega, by go_num, HK9.out.1, HK9.out.2, HNx.out⟩
                      case measure => simp [intOf]; omega
                  · have kk1 : ¬ (k : Int) < (h : Int) := by omega
                    obtain rfl : k = h := by omega
                    have HNx : Hid (∀ h', h' < k + 1 → okH T h') := fun h' hh' => by
                      rcases Nat.lt_succ_iff_lt_or_eq.1 hh' with hq | hq
                      · exact HOk.out h' hq
                      · rw [hq]; exact ⟨HB1.out, HB2.out, HJ.out.2.2⟩
                    go_wp2_with fail
                    go_roundw
                    case rel => exact ⟨k + 1, by omega, by go_num, HJ.out.1, HNx.out⟩
                    case measure => simp [intOf]; omega
          · have HAl : Hid (Calls Try.prog 35 #[AG (some ⟨b, off, none⟩) T.length cap ro R.length rc, .slice sa ln sc'] W5 fun e w' => e = .returned (.bool (rVals T sl)) ∧ Kept No W5 w') := by
              have := Rall_any (ro := ro) (rn := R.length) (rc := rc) (HT.out.no (HKW.out.trans HK5.out)) (show RdV W5 (.slice sa sl.length sc') sl by rw [HLn.out]; exact HRdv.out W5 (HKW.out.trans HK5.out)) (by omega) (by rw [HLn.out]; omega)
              rw [HLn.out] at this
              exact this
            obtain ⟨vb, HVb⟩ : ∃ vb, Hid (rVals T sl = vb) := ⟨_, rfl⟩
            rw [HVb.out] at HAl
            go_wp2_with (first | rw [← HW5.out])
            go_at_call 35
            refine Calls.mono HAl.out ?_
            rintro e X6 ⟨rfl, hk6⟩
            have HK6 : Hid (Kept No W X6) := HK5.out.trans hk6
            have HB6 : Hid (X6.heap[wr.heap.size]? = some (.cells #[.int .i64 tk, .int .i64 tw, .int .i64 ta, .slice sa ln sc', .int .i64 tf] 43 (0, 0))) := hk6.heap HB5.out id
            clear hk6 HAl s0 s1 s2 s3 s4' g0 g0' g1 HB5 HK5 t0 t1 t2 t3 t4 HW5
            generalize wr.heap.size = tb at HB6 ⊢
            cases vb
            · have HZ : Hid (r = false) := HBad.out (.inr (.inl (by unfold bad2; rw [HThA.out]; simp only [HVb.out]; simp)))
              have HK9 := HK6
              go_wp2
              go_ret
              exact ⟨by rw [HZ.out]; rfl, HKW.out.trans HK9.out⟩
            · have HB2 : Hid (bad2 T (thAt T h) = false) := by show _ = _; unfold bad2; rw [HThA.out]; simp only [HVb.out, HLn.out]; simp; omega
              clear HVb
              go_wp2_with fail
              go_loopw [5, 79, 80, 81, 82, 83, 84, 85, 86, 87, 88, 89, 90, 91, 92, 93, 94, 95, 96, 97] (fun kk _ _ _ _ _ _ _ _ _ _ _ _ _ _ _ _ _ _ _ wr => ∃ k : Nat, k ≤ h ∧ kk = .int .i64 k ∧ Hid (Kept No W wr ∧ wr.heap[tb]? = some (.cells #[.int .i64 tk, .int .i64 tw, .int .i64 ta, .slice sa ln sc', .int .i64 tf] 43 (0, 0)) ∧ ∀ k', k' < k → twB T h k' = false)) (fun kk _ _ _ _ _ _ _ _ _ _ _ _ _ _ _ _ _ _ _ _ => h - (intOf kk).toNat)
              case atStart => exact ⟨0, by omega, rfl, HK6.out, HB6.out, fun k' hk' => absurd hk' (by omega)⟩
              case round =>
                clear HK6 HB6
                obtain ⟨k, hk, rfl, HJ⟩ := hrel
                have s4 : wr.cell? ⟨tb, 4, none⟩ = some (.int .i64 tf) := by rw [cell_of HJ.out.2.1]; rfl
                by_cases hkh : k < h
                · have kk1 : (k : Int) < (h : Int) := by omega
                  have kk2 : (k : Int) < (T.length : Int) := by omega
                  have g0 : wr.cell? ⟨w.heap.size, 0, none⟩ = some (.slice (some ⟨b, off, none⟩) T.length cap) := by rw [cell_of (HJ.out.1.heap HGx.out id)]; rfl
                  obtain ⟨b', off', sa', sc'', e', hall'⟩ := HTh.out k (by omega)
                  injection e' with e'
                  injection e' with e1 e2
                  subst e1 e2
                  have y4 := (hall' wr (HKW.out.trans HJ.out.1)).1.2.2.2.2
                  have HTw : Hid (twB T h k = (decide (0 < tf) && (T[k].fin == tf))) := by show _ = _; unfold twB; rw [HThA.out]; have : thAt T k = T[k] := thAt_eq (by omega); rw [this]
                  clear hall'
                  generalize T[k].fin = fk at y4 HTw
                  by_cases hf : 0 < tf
                  · have d1 : decide (0 < tf) = true := by simpa using hf
                    by_cases he : fk = tf
                    · have HZ : Hid (r = false) := HBad.out (.inr (.inr ⟨k, hkh, by rw [HTw.out]; simp [hf, he]⟩))
                      have d2 : (fk == tf) = true := by simp [he]
                      clear HTw he
                      go_wp2_with fail
                      go_quiet (fail)
                      have HK9 : Hid (Kept No W (wr.drewN nq)) := HJ.out.1.drewN nq
                      clear s4 g0 y4 d1 d2
                      generalize wr.drewN nq = X5 at HK9 ⊢
                      go_wp2
                      go_ret
                      exact ⟨by rw [HZ.out]; rfl, HKW.out.trans HK9.out⟩
                    · have d2 : (fk == tf) = false := by simp [he]
                      have HNx : Hid (∀ k', k' < k + 1 → twB T h k' = false) := fun k' hk' => by
                        rcases Nat.lt_succ_iff_lt_or_eq.1 hk' with hq | hq
                        · exact HJ.out.2.2 k' hq
                        · rw [hq, HTw.out]; simp [he]
                      clear HTw
                      go_wp2_with fail
                      go_quiet (fail)
                      have HK9 : Hid (Kept No W (wr.drewN nq) ∧ (wr.drewN nq).heap[tb]? = some (.cells #[.int .i64 tk, .int .i64 tw, .int .i64 ta, .slice sa ln sc', .int .i64 tf] 43 (0, 0))) := ⟨HJ.out.1.drewN nq, HJ.out.2.1⟩
                      clear s4 g0 y4 d1 d2
                      generalize wr.drewN nq = X5 at HK9 ⊢
                      go_wp2_with fail
                      go_roundw
                      case rel => exact ⟨k + 1, by omega, by go_num, HK9.out.1, HK9.out.2, HNx.out⟩
                      case measure => simp [intOf]; omega
                  · have d1 : decide (0 < tf) = false := by simpa using hf
                    have HNx : Hid (∀ k', k' < k + 1 → twB T h k' = false) := fun k' hk' => by
                      rcases Nat.lt_succ_iff_lt_or_eq.1 hk' with hq | hq
                      · exact HJ.out.2.2 k' hq
                      · rw [hq, HTw.out]; simp [hf]
                    clear HTw
                    go_wp2_with fail
                    go_quiet (fail)
                    have HK9 : Hid (Kept No W (wr.drewN nq) ∧ (wr.drewN nq).heap[tb]? = some (.cells #[.int .i64 tk, .int .i64 tw, .int .i64 ta, .slice sa ln sc', .int .i64 tf] 43 (0, 0))) := ⟨HJ.out.1.drewN nq, HJ.out.2.1⟩
                    clear s4 g0 y4 d1
                    generalize wr.drewN nq = X5 at HK9 ⊢
                    go_wp2_with fail
                    go_roundw
                    case rel => exact ⟨k + 1, by omega, by go_num, HK9.out.1, HK9.out.2, HNx.out⟩
                    case measure => simp [intOf]; omega
                · have kk1 : ¬ (k : Int) < (h : Int) := by omega
                  obtain rfl : k = h := by omega
                  have HNx : Hid (∀ h', h' < k + 1 → okH T h') := fun h' hh' => by
                    rcases Nat.lt_succ_iff_lt_or_eq.1 hh' with hq | hq
                    · exact HOk.out h' hq
                    · rw [hq]; exact ⟨HB1.out, HB2.out, HJ.out.2.2⟩
                  go_wp2_with fail
                  go_roundw
                  case rel => exact ⟨k + 1, by omega, by go_num, HJ.out.1, HNx.out⟩
                  case measure => simp [intOf]; omega
    · have kh : ¬ (h : Int) < (T.length : Int) := by omega
      obtain rfl : h = T.length := by omega
      have g0 : wr.cell? ⟨w.heap.size, 0, none⟩ = some (.slice ao T.length cap) := by rw [cell_of (HK.out.heap HGx.out id)]; rfl
      have g1 : wr.cell? ⟨w.heap.size, 1, none⟩ = some (.slice ro R.length rc) := by rw [cell_of (HK.out.heap HGx.out id)]; rfl
      have HAl : Hid _ := Rall_any (ro := ro) (rn := R.length) (rc := rc) (HT.out.no (HKW.out.trans HK.out)) (HR.out.no (HKW.out.trans HK.out)) (by omega) hRn
      have HZ : Hid (r = rVals T R) := by
        show _ = _
        rw [Bool.eq_iff_iff, HIff.out]
        exact ⟨fun h => h.2, fun h => ⟨HOk.out, h⟩⟩
      go_wp2_with fail
      go_at_call 35
      refine Calls.mono HAl.out ?_
      rintro e X6 ⟨rfl, hk6⟩
      have HK6 : Hid (Kept No w X6) := HKW.out.trans (HK.out.trans hk6)
      clear hk6 HAl g0 g1
      go_wp2
      go_ret
      exact ⟨by rw [HZ.out]; rfl, HK6.out⟩
end Go.Proofs.Ytnofmpbdfcolfaa
