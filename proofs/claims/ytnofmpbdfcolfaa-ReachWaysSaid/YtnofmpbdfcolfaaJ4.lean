/- ReachWays. -/
import Derived.Test.YtnofmpbdfcolfaaJ3
namespace Go.Proofs.Ytnofmpbdfcolfaa
open Go.RowKit Go.Shelf
set_option linter.unusedSimpArgs false
set_option linter.unusedVariables false

theorem Kept.cell {w w' : World} (hk : Kept No w w') {b o : Nat} {v : Value} (h : w.cell? ⟨b, o, none⟩ = some v) : w'.cell? ⟨b, o, none⟩ = some v := by
  have hb : b < w.heap.size := by
    rcases Nat.lt_or_ge b w.heap.size with hb | hb
    · exact hb
    · simp [World.cell?, Array.getElem?_eq_none hb] at h
  rw [World.cell?_of_block (hk.block b hb id)]; exact h
theorem rowH_len {T : List Th} {d : Int} {F : List Int} (h : Nat) (hF : F.length = T.length) : (rowH T d F h).length = T.length := by
  unfold rowH
  split
  · exact (marks_gr (P := fun _ => True) (T := T) (d := d + 1) (L := (thAt T h).sl) (F := F) hF (fun _ _ _ => trivial)).len.trans hF
  · exact hF
theorem rows_len {T : List Th} {d : Int} {F : List Int} (hF : F.length = T.length) (h : Nat) : ((List.range h).foldl (rowH T d) F).length = T.length := by
  induction h with
  | zero => exact hF
  | succ h ih => rw [List.range_succ, List.foldl_append]; exact rowH_len h ih
theorem unw_wk {T : List Th} : ∀ t ∈ unw T, isWk t = false := fun t ht => by
  obtain ⟨x, _, rfl⟩ := List.mem_map.1 ht
  simp [isWk]

/-- The graph without weak tables while it is made. -/
structure PL (w W : World) (P : Nat) (rv : Value) (wr : World) (pv : Value) (L : List (Th × Value)) : Prop where
  k : Kept No W wr
  hp : wr.heap[P]? = some (.cells #[pv, rv] 25 (0, 0))
  row : TRow wr (P + 1) pv L
  rd : ∀ p ∈ L, RdV w p.2 p.1.sl

set_option maxRecDepth 20000 in
theorem PL.more {w W wr : World} {P : Nat} {rv pv : Value} {L : List (Th × Value)} (h : PL w W P rv wr pv L) (hPW : W.heap.size ≤ P) {e : Th × Value} (he : RdV w e.2 e.1.sl) (kd : Int) {Y2 w' : World} {v' : Value}
    (hY : Y2 = (wr.alloc (.cells #[.int .i64 e.1.kind, .int .i64 kd, .int .i64 e.1.arr, e.2, .int .i64 e.1.fin] 43)).setCell ⟨wr.heap.size, 1, none⟩ (.int .i64 e.1.weak))
    (hr : TRow w' (P + 1) v' (L ++ [e])) (hg : (Y2.alloc (.cells #[.int .i64 e.1.kind, .int .i64 e.1.weak, .int .i64 e.1.arr, e.2, .int .i64 e.1.fin] 43)).grownBy w' pv.ownBlock) :
    (∀ o, w'.frozen? ⟨P, o, none⟩ = false) ∧ PL w W P rv (w'.setCell ⟨P, 0, none⟩ v') v' (L ++ [e]) := by
  have hPl : P < wr.heap.size := hp_lt h.hp
  have own : ∀ k, pv.ownBlock = some k → P + 1 ≤ k := fun k hk => (h.row.block hk).1
  have k2 : Kept No W Y2 := by rw [hY]; exact (h.k.alloc _).set _ _ _ (.inr h.k.size)
  have hp2 : Y2.heap[P]? = some (.cells #[pv, rv] 25 (0, 0)) := by rw [hY]; exact hp_set_other ((Below.heap_alloc _ _ _ hPl).trans h.hp) _ _ (by omega)
  have hp3 : w'.heap[P]? = some (.cells #[pv, rv] 25 (0, 0)) := by
    rw [hg.block P (by have := hp_lt hp2; simp; omega) (fun e => by have := own P e.symm; omega), Below.heap_alloc _ _ _ (hp_lt hp2)]; exact hp2
  have k3 : Kept No W w' := (k2.alloc _).trans' (Kept.grown (Kept.refl (fun k => pv.ownBlock = some k) _) hg (fun k hk => .inl hk)) (fun k hk => .inr (by have := own k hk; omega))
  refine ⟨frozen_of hp3, k3.set _ _ _ (.inr hPW), ?_, hr.turn (fun k hk => ?_), fun p hp => ?_⟩
  · exact hp_set_same hp3 0 _
  · have := (hr.block hk).1
    rw [hp_set, if_neg (by omega)]
  · rcases List.mem_append.1 hp with hp | hp
    · exact h.rd p hp
    · simp at hp; subst hp; exact he

set_option maxRecDepth 20000 in
set_option maxHeartbeats 4000000 in
theorem ReachWays_any {w : World} {tv rv : Value} {T : List Th} {R : List V} (hT : RdT w tv T) (hR : RdV w rv R) (hn : T.length ≤ 140737488355328) (hRn : R.length ≤ 140737488355328) (hs : ∀ t ∈ T, t.sl.length ≤ 140737488355328) :
    Calls Try.prog 6 #[.agg #[tv, rv]] w fun e w' => e = .returned (.bool true) ∧ Kept No w w' := by
  have HT : Hid (RdT w tv T) := hT
  have HR : Hid (RdV w rv R) := hR
  have HSm : Hid (∀ W', Kept No w W' → Calls Try.prog 10 #[.agg #[tv, rv]] W' fun e w' => e = .returned (.bool (smallB T R)) ∧ Kept No W' w') := fun W' hk => Small_any (hT.no hk) (hR.no hk) hn hRn hs
  obtain ⟨ta, tc, rfl, _⟩ := hT
  obtain ⟨ra, rc, rfl, _⟩ := hR
  obtain ⟨W, HWd⟩ : ∃ W, Hid (W = w.alloc (.cells #[.slice ta T.length tc, .slice ra R.length rc] 25)) := ⟨_, rfl⟩
  have HK : Hid (Kept No w W) := by show Kept _ _ _; rw [HWd.out]; exact (Kept.refl _ _).alloc _
  have HB0 : Hid (W.heap[w.heap.size]? = some (.cells #[.slice ta T.length tc, .slice ra R.length rc] 25 (0, 0))) := by show _ = _; rw [HWd.out]; exact World.alloc_heap_new w _
  have HG : Hid (∀ W', Kept No W W' → W'.cell? ⟨w.heap.size, 0, none⟩ = some (.slice ta T.length tc) ∧ W'.cell? ⟨w.heap.size, 1, none⟩ = some (.slice ra R.length rc)) := fun W' hk => by
    have := hk.heap HB0.out id
    exact ⟨by rw [cell_of this]; rfl, by rw [cell_of this]; rfl⟩
  obtain ⟨g0, g1⟩ := HG.out W (Kept.refl _ _)
  clear hs hn hRn
  go_enter Try.func6, Try.ntmps6
  go_wp2_with (first | rw [← HWd.out])
  refine Calls.mono (HSm.out W HK.out) ?_
  rintro e W1 ⟨rfl, hk1⟩
  have HK1 : Hid (Kept No W W1) := hk1
  obtain ⟨g2, g3⟩ := HG.out W1 hk1
  obtain ⟨sm, HSb⟩ : ∃ sm, Hid (smallB T R = sm) := ⟨_, rfl⟩
  rw [HSb.out]
  clear hk1 g0 g1 HSm HWd
  cases sm
  case false =>
    go_wp2_with fail
    refine Calls.mono (alive_any _) ?_
    rintro e W2 ⟨rfl, hk2⟩
    have HK2 : Hid (Kept No w W2) := HK.out.trans (HK1.out.trans hk2)
    clear hk2
    go_wp2
    go_ret
    exact ⟨rfl, HK2.out⟩
  case true =>
    obtain ⟨b1, b2, b3⟩ := small_bd HSb.out
    have HS : Hid (∀ t ∈ T, t.sl.length ≤ 600) := b3
    clear b3
    obtain ⟨X0, HX0⟩ : ∃ X0, Hid (X0 = W1.alloc (.cells #[.slice none 0 0, .slice none 0 0] 25)) := ⟨_, rfl⟩
    have HKX0 : Hid (Kept No W X0) := by show Kept _ _ _; rw [HX0.out]; exact HK1.out.alloc _
    have HP0 : Hid (X0.heap[W1.heap.size]? = some (.cells #[.slice none 0 0, .slice none 0 0] 25 (0, 0))) := by show _ = _; rw [HX0.out]; exact World.alloc_heap_new W1 _
    obtain ⟨P, HP⟩ : ∃ P, Hid (P = W1.heap.size) := ⟨_, rfl⟩
    have HZ0 : Hid (X0.heap.size = P + 1) := by show _ = _; rw [HX0.out, HP.out]; simp
    have HPW : Hid (W.heap.size ≤ P) := by show _ ≤ _; rw [HP.out]; exact HK1.out.size
    rw [← HP.out] at HP0
    obtain ⟨g4, g5⟩ := HG.out X0 HKX0.out
    have fz0 : ∀ o, X0.frozen? ⟨P, o, none⟩ = false := frozen_of HP0.out
    have p0 : X0.cell? ⟨P, 0, none⟩ = some (.slice none 0 0) := by rw [cell_of HP0.out]; rfl
    have p1 : X0.cell? ⟨P, 1, none⟩ = some (.slice none 0 0) := by rw [cell_of HP0.out]; rfl
    obtain ⟨X1, HX1⟩ : ∃ X1, Hid (X1 = X0.setCell ⟨P, 1, none⟩ (.slice ra R.length rc)) := ⟨_, rfl⟩
    have HKX1 : Hid (Kept No W X1) := by show Kept _ _ _; rw [HX1.out]; exact HKX0.out.set _ _ _ (.inr HPW.out)
    have HP1 : Hid (X1.heap[P]? = some (.cells #[.slice none 0 0, .slice ra R.length rc] 25 (0, 0))) := by show _ = _; rw [HX1.out]; exact hp_set_same HP0.out 1 _
    have HZ1 : Hid (X1.heap.size = P + 1) := by show _ = _; rw [HX1.out]; simpa using HZ0.out
    clear g2 g3
    go_wp2_with (first | rw [← HX0.out] | rw [← HP.out] | rw [← HX1.out])
    have HI0 : Hid (PL w W P (.slice ra R.length rc) X1 (.slice none 0 0) []) := ⟨HKX1.out, HP1.out, TRow.nil _ _, fun p hp => by cases hp⟩
    clear p0 p1 g4 g5 fz0 HX0 HX1 HP0 HKX0 HKX1 HP1
    go_loopw [4, 5, 21, 22, 23, 24, 25, 26, 27, 28, 29, 30, 31, 32, 33, 34, 35, 36, 37, 38, 39] (fun i _ _ _ _ _ _ _ _ _ _ _ _ _ _ _ _ _ _ _ _ wr => ∃ j : Nat, j ≤ T.length ∧ i = .int .i64 j ∧ Hid (∃ pv L, PL w W P (.slice ra R.length rc) wr pv L ∧ L.map (·.1) = (unw T).take j)) (fun i _ _ _ _ _ _ _ _ _ _ _ _ _ _ _ _ _ _ _ _ _ => T.length - (intOf i).toNat)
    case atStart => exact ⟨0, by omega, rfl, _, [], HI0.out, by simp⟩
    case round =>
      obtain ⟨j, hj, rfl, HJ⟩ := hrel
      obtain ⟨pv, L, hpl, hL⟩ := HJ.out
      have HL : Hid (L.map (·.1) = (unw T).take j) := hL
      have hln : L.length = j := by have := congrArg List.length hL; simp [unw] at this; omega
      have HPL : Hid (PL w W P (.slice ra R.length rc) wr pv L) := hpl
      obtain ⟨g6, g7⟩ := HG.out wr hpl.k
      by_cases hlt : j < T.length
      · have k1 : (j : Int) < (T.length : Int) := by omega
        obtain ⟨ao', cap', e', hc⟩ := HT.out.no (HK.out.trans hpl.k)
        injection e' with e1 e2 e3
        subst e1
        obtain ⟨b, off, sv, rfl, r0, r1, r2, r3, r4, hsv⟩ := hc j hlt
        have HSv : Hid (RdV w sv T[j].sl) := by
          obtain ⟨ao0, cap0, e0, hc0⟩ := HT.out
          injection e0 with e01 e02 e03
          subst e01
          obtain ⟨b0, off0, sv0, eb, y0, y1, y2, y3, y4, hs0⟩ := hc0 j hlt
          injection eb with eb
          injection eb with eb1 eb2
          subst eb1 eb2
          have : wr.cell? ⟨b, off + j * 5 + 3, none⟩ = some sv0 := by
            have hbl : b < w.heap.size := by
              rcases Nat.lt_or_ge b w.heap.size with hb | hb
              · exact hb
              · simp [World.cell?, Array.getElem?_eq_none hb] at y0
            rw [World.cell?_of_block ((HK.out.trans hpl.k).block b hbl id)]; exact y3
          rw [r3] at this
          injection this with this
          subst this
          exact hs0
        obtain ⟨svo, svc, rfl, _⟩ := hsv
        clear hc e3 cap'
        obtain ⟨po, pc, rfl⟩ := hpl.row.form
        have HTk : Hid ((unw T).take (j + 1) = (unw T).take j ++ [{ T[j] with weak := 0 }]) := by
          show _ = _
          rw [List.take_succ_eq_append_getElem (by simpa [unw] using hlt)]
          simp [unw]
        generalize T[j] = tt at r0 r1 r2 r3 r4 HSv HTk
        obtain ⟨lnt, hlnt⟩ : ∃ lnt, tt.sl.length = lnt := ⟨_, rfl⟩
        rw [hlnt] at r3 HSv
        obtain ⟨Y1, HY1⟩ : ∃ Y1, Hid (Y1 = wr.alloc (.cells #[.int .i64 tt.kind, .int .i64 tt.weak, .int .i64 tt.arr, .slice svo lnt svc, .int .i64 tt.fin] 43)) := ⟨_, rfl⟩
        obtain ⟨Y2, HY2⟩ : ∃ Y2, Hid (Y2 = Y1.setCell ⟨wr.heap.size, 1, none⟩ (.int .i64 0)) := ⟨_, rfl⟩
        have hb1 : Y1.heap[wr.heap.size]? = some (.cells #[.int .i64 tt.kind, .int .i64 tt.weak, .int .i64 tt.arr, .slice svo lnt svc, .int .i64 tt.fin] 43 (0, 0)) := by rw [HY1.out]; exact World.alloc_heap_new wr _
        have hb2 : Y2.heap[wr.heap.size]? = some (.cells #[.int .i64 tt.kind, .int .i64 0, .int .i64 tt.arr, .slice svo lnt svc, .int .i64 tt.fin] 43 (0, 0)) := by rw [HY2.out]; exact hp_set_same hb1 1 _
        have fz1 : ∀ o, Y1.frozen? ⟨wr.heap.size, o, none⟩ = false := frozen_of hb1
        obtain ⟨d0, d1, d2, d3, d4⟩ := th_cells (t := { tt with weak := 0 }) hb2
        obtain ⟨f0, f1, f2, f3, f4⟩ := th_cells hb1
        have hPl : P < wr.heap.size := hp_lt hpl.hp
        have hp1 : Y1.heap[P]? = some (.cells #[.slice po L.length pc, .slice ra R.length rc] 25 (0, 0)) := by rw [HY1.out]; exact (Below.heap_alloc _ _ _ hPl).trans hpl.hp
        have hp2 : Y2.heap[P]? = some (.cells #[.slice po L.length pc, .slice ra R.length rc] 25 (0, 0)) := by rw [HY2.out]; exact hp_set_other hp1 _ _ (by omega)
        have q0 : Y2.cell? ⟨P, 0, none⟩ = some (.slice po L.length pc) := by rw [cell_of hp2]; rfl
        have HRw : Hid (TRow Y2 (P + 1) (.slice po L.length pc) L) := hpl.row.turn (fun k hk => by
          obtain ⟨hk1, c, hc⟩ := hpl.row.block hk
          rw [HY2.out, hp_set, if_neg (by have := hp_lt hc; omega), HY1.out, Below.heap_alloc _ _ _ (hp_lt hc)])
        have HYY : Hid (Y2 = (wr.alloc (.cells #[.int .i64 tt.kind, .int .i64 tt.weak, .int .i64 tt.arr, .slice svo lnt svc, .int .i64 tt.fin] 43)).setCell ⟨wr.heap.size, 1, none⟩ (.int .i64 0)) := by show _ = _; rw [HY2.out, HY1.out]
        have hsz : P + 1 ≤ Y2.heap.size := hp_lt hp2
        dsimp only at d0 d1 d2 d3 d4
        clear hb1 hb2 hp1 hp2 hpl hL
        rw [hln] at q0 HRw
        go_wp2_with (first | rw [← HY1.out] | rw [← HY2.out] | (refine app_th rfl (.tmp 35) (.tmp 37) rfl (P + 1) (.slice po j pc) L rfl (World.ownsRow.alloc HRw.out _) Y2.heap.size ({ tt with weak := 0 }, .slice svo lnt svc) rfl rfl (World.alloc_heap_new Y2 _) (by omega) (by simp; omega) ?_))
        intro v' w' hr hg
        obtain ⟨fz9, hpl9⟩ := HPL.out.more HPW.out (e := ({ tt with weak := 0 }, .slice svo lnt svc)) HSv.out tt.weak HYY.out hr.out (by rw [hln]; exact hg.out)
        have hfm := hr.out.form
        rw [List.length_append, hln] at hfm
        obtain ⟨vo, vc, rfl⟩ : ∃ ao c, v' = .slice ao (j + 1) c := hfm
        have q9 : w'.cell? ⟨P, 0, none⟩ = some (.slice po j pc) := by
          have := hg.out.block P (by simp; omega) (fun e => by have := (HRw.out.block e.symm).1; omega)
          rw [World.cell?_of_block this, World.cell?_of_block (Below.heap_alloc _ _ P hsz)]; exact q0
        have HPL9 : Hid _ := hpl9
        obtain ⟨Y9, HY9⟩ : ∃ Y9, Hid (Y9 = w'.setCell ⟨P, 0, none⟩ (.slice vo (j + 1) vc)) := ⟨_, rfl⟩
        rw [← HY9.out] at HPL9
        have HE9 : Hid ((L ++ [(({ tt with weak := 0 } : Th), Value.slice svo lnt svc)]).map (·.1) = (unw T).take (j + 1)) := by
          show _ = _
          rw [HTk.out, List.map_append, HL.out]; rfl
        clear hpl9 hr hg
        go_wp2_with (first | rw [← HY9.out])
        go_roundw
        case rel => exact ⟨j + 1, by omega, by go_num, _, _, HPL9.out, HE9.out⟩
        case measure => simp [intOf]; omega
      · have k1 : ¬ (j : Int) < (T.length : Int) := by omega
        obtain rfl : j = T.length := by omega
        obtain ⟨wa, hwa⟩ : ∃ wa, wa = wr := ⟨_, rfl⟩
        subst hwa
        have hmk : ∀ w : World, (Instr.makeSlice 26 (.int .i64 (T.length : Int)) (.int .i64 (T.length : Int))).run Try.prog w = .ok (SLN w.heap.size T.length) (w.alloc (.cells (ic (List.replicate T.length 0)).toArray 3)) := run_mk26 _ (by omega)
        obtain ⟨Z0, HZZ⟩ : ∃ Z0, Hid (Z0 = wa.alloc (.cells (ic (List.replicate T.length 0)).toArray 3)) := ⟨_, rfl⟩
        have HKZ : Hid (Kept No wa Z0) := by show Kept _ _ _; rw [HZZ.out]; exact (Kept.refl _ _).alloc _
        have HFZ : Hid (Z0.heap[wa.heap.size]? = some (.cells (ic (List.replicate T.length 0)).toArray 3 (0, 0))) := by show _ = _; rw [HZZ.out]; exact World.alloc_heap_new wa _
        obtain ⟨h6, h7⟩ := HG.out Z0 (hpl.k.trans HKZ.out)
        obtain ⟨po, pc, rfl⟩ := hpl.row.form
        rw [hln] at HPL hpl
        obtain ⟨nb, HNb⟩ : ∃ nb, Hid (nb = wa.heap.size) := ⟨_, rfl⟩
        rw [← HNb.out] at HFZ
        have hUn : (unw T).length = T.length := by simp [unw]
        have HUT : Hid (RdT wa (.slice po T.length pc) (unw T)) := by
          have := hpl.row.rd (fun p hp => (hpl.rd p hp).no (HK.out.trans hpl.k))
          rw [hL, List.take_of_length_le (by omega)] at this
          exact this
        have HMk : Hid (∀ X, Kept No wa X → ∀ F : List Int, F.length = T.length → X.heap[nb]? = some (.cells (ic F).toArray 3 (0, 0)) → ∀ (v1 v2 d : Int), Calls Try.prog 20 #[.agg #[.slice po T.length pc, .slice ra R.length rc], .agg #[.int .i64 v1, .int .i64 v2], SLN nb T.length, .int .i64 d] X fun e w' => ∃ v, e = .returned v ∧ w'.heap[nb]? = some (.cells (ic (mkF (unw T) d F (v1, v2))).toArray 3 (0, 0)) ∧ Kept No wa w') := fun X hk F hF hX v1 v2 d => by
          have := mark_any (rv := .slice ra R.length rc) (HUT.out.no hk) (by omega) hX (by omega) (v1, v2) d
          rw [hUn] at this
          refine this.mono ?_
          rintro e w' ⟨⟨v, rfl⟩, h1, h2⟩
          exact ⟨v, rfl, h1, hk.trans' h2 (fun i hi => .inr (by rw [hi, HNb.out]; exact Nat.le_refl _))⟩
        have HML : Hid (∀ (d : Int) (L : List V) (F : List Int), F.length = T.length → (L.foldl (mkF (unw T) d) F).length = T.length) := fun d L F hF => (marks_gr (P := fun _ => True) (T := unw T) (d := d) (L := L) (F := F) (by omega) (fun _ _ _ => trivial)).len.trans hF
        have HGP : Hid (∀ X, Kept No wa X → X.cell? ⟨w.heap.size, 1, none⟩ = some (.slice ra R.length rc) ∧ X.cell? ⟨P, 0, none⟩ = some (.slice po T.length pc) ∧ X.cell? ⟨P, 1, none⟩ = some (.slice ra R.length rc)) := fun X hk => by
          have := hk.heap HPL.out.hp id
          exact ⟨(HG.out X (HPL.out.k.trans hk)).2, by rw [cell_of this]; rfl, by rw [cell_of this]; rfl⟩
        have HRR : Hid (∀ X, Kept No wa X → ∀ j (hj : j < R.length), ∃ b off, ra = some ⟨b, off, none⟩ ∧ X.cell? ⟨b, off + j * 2, none⟩ = some (.int .i64 R[j].1) ∧ X.cell? ⟨b, off + j * 2 + 1, none⟩ = some (.int .i64 R[j].2)) := fun X hk => by
          obtain ⟨ao', cap', e', hc⟩ := HR.out.no (HK.out.trans (HPL.out.k.trans hk))
          injection e' with e1 e2 e3
          subst e1
          exact hc
        clear hpl hL
        go_wp2_with (first | rw [hmk] | rw [← HZZ.out] | rw [← HNb.out])
        have HF0 : Hid ((R.take 0).foldl (mkF (unw T) 1) (List.replicate T.length 0) = List.replicate T.length 0) := by show _ = _; rfl
        go_loopw [8, 45, 46, 47, 48, 49, 50, 51, 52, 53, 54, 55, 56, 57, 58, 59] (fun i _ _ _ _ _ _ _ _ _ _ _ _ _ _ _ wr => ∃ j : Nat, j ≤ R.length ∧ i = .int .i64 j ∧ Hid (Kept No wa wr ∧ wr.heap[nb]? = some (.cells (ic ((R.take j).foldl (mkF (unw T) 1) (List.replicate T.length 0))).toArray 3 (0, 0)))) (fun i _ _ _ _ _ _ _ _ _ _ _ _ _ _ _ _ => R.length - (intOf i).toNat)
        case atStart => exact ⟨0, by omega, rfl, HKZ.out, by rw [HF0.out]; exact HFZ.out⟩
        case round =>
          obtain ⟨j, hj, rfl, HJ2⟩ := hrel
          obtain ⟨y0, y1, y2⟩ := HGP.out wr HJ2.out.1
          by_cases hlt : j < R.length
          · have k2 : (j : Int) < (R.length : Int) := by omega
            obtain ⟨b, off, rfl, r0, r1⟩ := HRR.out wr HJ2.out.1 j hlt
            have HTk : Hid ((R.take (j + 1)).foldl (mkF (unw T) 1) (List.replicate T.length 0) = mkF (unw T) 1 ((R.take j).foldl (mkF (unw T) 1) (List.replicate T.length 0)) (R[j].1, R[j].2)) := by
              show _ = _
              rw [List.take_succ_eq_append_getElem hlt, List.foldl_append]; rfl
            obtain ⟨v1, e1⟩ : ∃ v1, R[j].1 = v1 := ⟨_, rfl⟩
            obtain ⟨v2, e2⟩ : ∃ v2, R[j].2 = v2 := ⟨_, rfl⟩
            rw [e1, e2] at HTk
            have HSS : Hid (∀ X, Kept No wa X → (fun X => X.cell? ⟨w.heap.size, 1, none⟩ = some (.slice (some ⟨b, off, none⟩) R.length rc) ∧ X.cell? ⟨P, 0, none⟩ = some (.slice po T.length pc) ∧ X.cell? ⟨P, 1, none⟩ = some (.slice (some ⟨b, off, none⟩) R.length rc) ∧ X.cell? ⟨b, off + j * 2, none⟩ = some (.int .i64 v1) ∧ X.cell? ⟨b, off + j * 2 + 1, none⟩ = some (.int .i64 v2)) X) := fun X hk => by
              obtain ⟨z0, z1, z2⟩ := HGP.out X hk
              obtain ⟨b', off', eb, z3, z4⟩ := HRR.out X hk j hlt
              injection eb with eb
              injection eb with eb1 eb2
              subst eb1 eb2
              exact ⟨z0, z1, z2, by rw [z3, e1], by rw [z4, e2]⟩
            have HMr : Hid (∀ X, Kept No wa X → X.heap[nb]? = some (.cells (ic ((R.take j).foldl (mkF (unw T) 1) (List.replicate T.length 0))).toArray 3 (0, 0)) → Calls Try.prog 20 #[.agg #[.slice po T.length pc, .slice (some ⟨b, off, none⟩) R.length rc], .agg #[.int .i64 v1, .int .i64 v2], SLN nb T.length, .int .i64 1] X fun e w' => ∃ v, e = .returned v ∧ w'.heap[nb]? = some (.cells (ic (mkF (unw T) 1 ((R.take j).foldl (mkF (unw T) 1) (List.replicate T.length 0)) (v1, v2))).toArray 3 (0, 0)) ∧ Kept No wa w') := fun X hk hx => HMk.out X hk _ (HML.out 1 (R.take j) _ (by simp)) hx v1 v2 1
            clear r0 r1
            go_wp2_with fail
            refine wp_region_held_drew (S := fun X => X.cell? ⟨w.heap.size, 1, none⟩ = some (.slice (some ⟨b, off, none⟩) R.length rc) ∧ X.cell? ⟨P, 0, none⟩ = some (.slice po T.length pc) ∧ X.cell? ⟨P, 1, none⟩ = some (.slice (some ⟨b, off, none⟩) R.length rc) ∧ X.cell? ⟨b, off + j * 2, none⟩ = some (.int .i64 v1) ∧ X.cell? ⟨b, off + j * 2 + 1, none⟩ = some (.int .i64 v2)) (by kernel_rfl) (HSS.out _ HJ2.out.1.drew) (fun hSS => ?_)
            have HKd : Hid (Kept No wa wr.drew) := HJ2.out.1.drew
            have HFd : Hid (wr.drew.heap[nb]? = some (.cells (ic ((R.take j).foldl (mkF (unw T) 1) (List.replicate T.length 0))).toArray 3 (0, 0))) := HJ2.out.2
            generalize wr.drew = X5 at HKd HFd hSS ⊢
            refine wpAnyH_take (i := 0) (v := .agg #[.slice po T.length pc, .slice (some ⟨b, off, none⟩) R.length rc]) rfl (by kernel_rfl) (by kernel_rfl) (by kernel_rfl) (fun _ _ _ h => h) (Or.inl ⟨by rfl, by intro w' hw; obtain ⟨q0, q1, q2, q3, q4⟩ := hw; go_simp⟩) hSS ?_
            try simp only [Act.put, List.setIfInBounds_toArray, List.set_cons_zero, List.set_cons_succ, List.getElem_toArray, List.getElem_cons_zero, List.getElem_cons_succ]
            refine wpAnyH_take (i := 1) (v := .pointer (some ⟨w.heap.size, 1, none⟩)) rfl (by kernel_rfl) (by kernel_rfl) (by kernel_rfl) (fun _ _ _ h => h) (Or.inl ⟨by rfl, by intro w' hw; go_simp⟩) hSS ?_
            try simp only [Act.put, List.setIfInBounds_toArray, List.set_cons_zero, List.set_cons_succ, List.getElem_toArray, List.getElem_cons_zero, List.getElem_cons_succ]
            refine wpAnyH_take (i := 2) (v := .slice (some ⟨b, off, none⟩) R.length rc) rfl (by kernel_rfl) (by kernel_rfl) (by kernel_rfl) (fun _ _ _ h => h) (Or.inl ⟨by rfl, by intro w' hw; obtain ⟨q0, q1, q2, q3, q4⟩ := hw; go_simp⟩) hSS ?_
            try simp only [Act.put, List.setIfInBounds_toArray, List.set_cons_zero, List.set_cons_succ, List.getElem_toArray, List.getElem_cons_zero, List.getElem_cons_succ]
            refine wpAnyH_take (i := 3) (v := .int .i64 j) rfl (by kernel_rfl) (by kernel_rfl) (by kernel_rfl) (fun _ _ _ h => h) (Or.inl ⟨by rfl, by intro w' hw; go_simp⟩) hSS ?_
            try simp only [Act.put, List.setIfInBounds_toArray, List.set_cons_zero, List.set_cons_succ, List.getElem_toArray, List.getElem_cons_zero, List.getElem_cons_succ]
            refine wpAnyH_take (i := 4) (v := .pointer (some ⟨b, off + j * 2, none⟩)) rfl (by kernel_rfl) (by kernel_rfl) (by kernel_rfl) (fun _ _ _ h => h) (Or.inl ⟨by rfl, by intro w' hw; go_simp⟩) hSS ?_
            try simp only [Act.put, List.setIfInBounds_toArray, List.set_cons_zero, List.set_cons_succ, List.getElem_toArray, List.getElem_cons_zero, List.getElem_cons_succ]
            refine wpAnyH_take (i := 5) (v := .agg #[.int .i64 v1, .int .i64 v2]) rfl (by kernel_rfl) (by kernel_rfl) (by kernel_rfl) (fun _ _ _ h => h) (Or.inl ⟨by rfl, by intro w' hw; obtain ⟨q0, q1, q2, q3, q4⟩ := hw; go_simp⟩) hSS ?_
            try simp only [Act.put, List.setIfInBounds_toArray, List.set_cons_zero, List.set_cons_succ, List.getElem_toArray, List.getElem_cons_zero, List.getElem_cons_succ]
            refine wpAnyH_take (i := 6) (v := SLN nb T.length) rfl (by kernel_rfl) (by kernel_rfl) (by kernel_rfl) (fun _ _ _ h => h) (Or.inl ⟨by rfl, by intro w' hw; go_simp⟩) hSS ?_
            try simp only [Act.put, List.setIfInBounds_toArray, List.set_cons_zero, List.set_cons_succ, List.getElem_toArray, List.getElem_cons_zero, List.getElem_cons_succ]
            refine wpAnyH_ready (rs := [7]) (by kernel_rfl) (by simp) ?_
            refine AllReadyH.cons rfl (fun K hK => ?_) AllReadyH.nil
            go_simp
            refine Calls.mono (HMr.out X5 HKd.out HFd.out) ?_
            rintro e X9 ⟨v, rfl, hx, hk9⟩
            refine hK.out _ _ (HSS.out _ hk9) (fun hSS => ?_)
            clear hK K
            have HX9 : Hid (X9.heap[nb]? = some (.cells (ic ((R.take (j + 1)).foldl (mkF (unw T) 1) (List.replicate T.length 0))).toArray 3 (0, 0))) := by show _ = _; rw [HTk.out]; exact hx
            have HK9 : Hid (Kept No wa X9) := hk9
            try simp only [Act.put, List.setIfInBounds_toArray, List.set_cons_zero, List.set_cons_succ, List.getElem_toArray, List.getElem_cons_zero, List.getElem_cons_succ]
            refine wpAnyH_done (by kernel_rfl) ?_ _
            clear hx hk9 HTk
            go_wp2_with fail
            go_roundw
            case rel => exact ⟨j + 1, by omega, by go_num, HK9.out, HX9.out⟩
            case measure => simp [intOf]; omega
          · have k2 : ¬ (j : Int) < (R.length : Int) := by omega
            obtain rfl : j = R.length := by omega
            have HFr : Hid (wr.heap[nb]? = some (.cells (ic (far1 (unw T) R)).toArray 3 (0, 0))) := by
              show _ = _
              have := HJ2.out.2
              rw [List.take_length] at this
              unfold far1; rw [hUn]; exact this
            obtain ⟨wb, hwb⟩ : ∃ wb, wb = wr := ⟨_, rfl⟩
            subst hwb
            have HKb : Hid (Kept No wa wb) := HJ2.out.1
            have HTh : Hid (∀ h, h < T.length → ∃ b off svo svc sl, po = some ⟨b, off, none⟩ ∧ (thAt (unw T) h).sl = sl ∧ (∀ X, Kept No wa X → X.cell? ⟨b, off + h * 5 + 3, none⟩ = some (.slice svo sl.length svc)) ∧ sl.length ≤ 600 ∧ ∀ i (hi : i < sl.length), ∃ b2 off2, svo = some ⟨b2, off2, none⟩ ∧ ∀ X, Kept No wa X → X.cell? ⟨b2, off2 + i * 2, none⟩ = some (.int .i64 sl[i].1) ∧ X.cell? ⟨b2, off2 + i * 2 + 1, none⟩ = some (.int .i64 sl[i].2)) := fun h hh => by
              obtain ⟨ao', cap', e', hc⟩ := HUT.out
              injection e' with e1 e2 e3
              subst e1
              obtain ⟨b, off, sv, rfl, z0, z1, z2, z3, z4, svo, svc, rfl, hz⟩ := hc h (by omega)
              have eth : thAt (unw T) h = (unw T)[h]'(by omega) := by simp [thAt, unw, hh]
              refine ⟨b, off, svo, svc, _, rfl, rfl, fun X hk => by rw [eth]; exact hk.cell z3, ?_, fun i hi => ?_⟩
              · rw [eth]; simpa [unw] using HS.out T[h] (List.getElem_mem hh)
              · simp only [eth] at hi ⊢
                obtain ⟨b2, off2, rfl, x0, x1⟩ := hz i hi
                exact ⟨b2, off2, rfl, fun X hk => ⟨hk.cell x0, hk.cell x1⟩⟩
            clear HRR HJ2
            go_wp2_with fail
            go_loopw [9, 10, 11, 60, 61, 62, 63, 64, 65, 66, 67, 68, 69, 70, 71, 72, 73, 74, 75, 76, 77, 78, 79, 80, 81, 82, 83, 84, 85, 86, 87, 88, 89, 90, 91, 92, 93, 94, 95, 96, 97, 98, 99, 100, 101, 102] (fun i _ _ _ _ _ _ _ _ _ _ _ _ _ _ _ _ _ _ _ _ _ _ _ _ _ _ _ _ _ _ _ _ _ _ _ _ _ _ _ _ _ _ _ _ _ wr => ∃ m : Nat, m ≤ T.length ∧ i = .int .i64 ((m : Int) + 1) ∧ Hid (Kept No wa wr ∧ wr.heap[nb]? = some (.cells (ic (farD (unw T) R m)).toArray 3 (0, 0)))) (fun i _ _ _ _ _ _ _ _ _ _ _ _ _ _ _ _ _ _ _ _ _ _ _ _ _ _ _ _ _ _ _ _ _ _ _ _ _ _ _ _ _ _ _ _ _ _ => T.length + 1 - (intOf i).toNat)
            case atStart => exact ⟨0, by omega, by rfl, HKb.out, HFr.out⟩
            case round =>
              obtain ⟨m, hm, rfl, HJ3⟩ := hrel
              have HF3 : Hid ((farD (unw T) R m).length = T.length) := (farD_is unw_wk R m).len.trans hUn
              by_cases hlt : m < T.length
              · have k3 : (m : Int) + 1 ≤ (T.length : Int) := by omega
                obtain ⟨wc, hwc⟩ : ∃ wc, wc = wr := ⟨_, rfl⟩
                subst hwc
                go_wp2_with fail
                go_loopw [10, 11, 65, 66, 67, 68, 69, 70, 71, 72, 73, 74, 75, 76, 77, 78, 79, 80, 81, 82, 83, 84, 85, 86, 87, 88, 89, 90, 91, 92, 93, 94, 95, 96, 97, 98, 99, 100, 101, 102] (fun i _ _ _ _ _ _ _ _ _ _ _ _ _ _ _ _ _ _ _ _ _ _ _ _ _ _ _ _ _ _ _ _ _ _ _ _ _ _ _ wr => ∃ h : Nat, h ≤ T.length ∧ i = .int .i64 h ∧ Hid (Kept No wa wr ∧ wr.heap[nb]? = some (.cells (ic ((List.range h).foldl (rowH (unw T) ((m : Int) + 1)) (farD (unw T) R m))).toArray 3 (0, 0)))) (fun i _ _ _ _ _ _ _ _ _ _ _ _ _ _ _ _ _ _ _ _ _ _ _ _ _ _ _ _ _ _ _ _ _ _ _ _ _ _ _ _ => T.length - (intOf i).toNat)
                case atStart => exact ⟨0, by omega, rfl, HJ3.out.1, HJ3.out.2⟩
                case round =>
                  obtain ⟨h, hh, rfl, HJ4⟩ := hrel
                  by_cases hlt4 : h < T.length
                  · have k4 : (h : Int) < (T.length : Int) := by omega
                    obtain ⟨b, off, svo, svc, sl, hpo, hsl, h3, hl6, hcs⟩ := HTh.out h hlt4
                    subst hpo
                    have HT3 : Hid _ := h3
                    have HF4 : Hid (((List.range h).foldl (rowH (unw T) ((m : Int) + 1)) (farD (unw T) R m)).length = T.length) := (rows_len (HF3.out.trans hUn.symm) h).trans hUn
                    have HRw : Hid ((List.range (h + 1)).foldl (rowH (unw T) ((m : Int) + 1)) (farD (unw T) R m) = rowH (unw T) ((m : Int) + 1) ((List.range h).foldl (rowH (unw T) ((m : Int) + 1)) (farD (unw T) R m)) h) := by
                      show _ = _
                      rw [List.range_succ, List.foldl_append]; rfl
                    obtain ⟨F4, HE4⟩ : ∃ F4, Hid ((List.range h).foldl (rowH (unw T) ((m : Int) + 1)) (farD (unw T) R m) = F4) := ⟨_, rfl⟩
                    rw [HE4.out] at HF4 HRw HJ4
                    obtain ⟨wd, hwd⟩ : ∃ wd, wd = wr := ⟨_, rfl⟩
                    subst hwd
                    obtain ⟨ln, hln4⟩ : ∃ ln, sl.length = ln := ⟨_, rfl⟩
                    rw [hln4] at HT3 h3
                    by_cases hq : F4.getD h 0 = (m : Int) + 1
                    · have HRq : Hid ((List.range (h + 1)).foldl (rowH (unw T) ((m : Int) + 1)) (farD (unw T) R m) = sl.foldl (mkF (unw T) ((m : Int) + 1 + 1)) F4) := by
                        show _ = _
                        rw [HRw.out]; unfold rowH; rw [if_pos hq, hsl]
                      have HOld : Hid (∀ i, ((sl.take i).foldl (mkF (unw T) ((m : Int) + 1 + 1)) F4).getD h 0 = (m : Int) + 1) := fun i => by
                        rw [(marks_gr (P := fun _ => True) (T := unw T) (d := (m : Int) + 1 + 1) (L := sl.take i) (F := F4) (HF4.out.trans hUn.symm) (fun _ _ _ => trivial)).old h (by rw [hq]; omega), hq]
                      clear hq h3
                      go_wp2_with fail
                      go_loopw [11, 70, 71, 72, 73, 74, 75, 76, 77, 78, 79, 80, 81, 82, 83, 84, 85, 86, 87, 88, 89, 90, 91, 92, 93, 94, 95, 96, 97, 98, 99, 100, 101, 102] (fun i _ _ _ _ _ _ _ _ _ _ _ _ _ _ _ _ _ _ _ _ _ _ _ _ _ _ _ _ _ _ _ _ _ wr => ∃ k : Nat, k ≤ sl.length ∧ i = .int .i64 k ∧ Hid (Kept No wa wr ∧ wr.heap[nb]? = some (.cells (ic ((sl.take k).foldl (mkF (unw T) ((m : Int) + 1 + 1)) F4)).toArray 3 (0, 0)))) (fun i _ _ _ _ _ _ _ _ _ _ _ _ _ _ _ _ _ _ _ _ _ _ _ _ _ _ _ _ _ _ _ _ _ _ => sl.length - (intOf i).toNat)
                      case atStart => exact ⟨0, by omega, rfl, HJ4.out.1, HJ4.out.2⟩
                      case round =>
                        obtain ⟨i, hi, rfl, HJ5⟩ := hrel
                        have c5 : wr.cell? ⟨nb, h, none⟩ = some (.int .i64 ((m : Int) + 1)) := by
                          rw [cell_of HJ5.out.2, ic_get _ _ (by rw [HML.out _ _ _ HF4.out]; exact hlt4), HOld.out i]
                        have c6 := HT3.out wr HJ5.out.1
                        obtain ⟨y0, y1, y2⟩ := HGP.out wr HJ5.out.1
                        by_cases hi2 : i < sl.length
                        · have k5 : (i : Int) < (ln : Int) := by omega
                          obtain ⟨b2, off2, rfl, hx⟩ := hcs i hi2
                          obtain ⟨v1, e1⟩ : ∃ v1, sl[i].1 = v1 := ⟨_, rfl⟩
                          obtain ⟨v2, e2⟩ : ∃ v2, sl[i].2 = v2 := ⟨_, rfl⟩
                          have HTk : Hid ((sl.take (i + 1)).foldl (mkF (unw T) ((m : Int) + 1 + 1)) F4 = mkF (unw T) ((m : Int) + 1 + 1) ((sl.take i).foldl (mkF (unw T) ((m : Int) + 1 + 1)) F4) (v1, v2)) := by
                            show _ = _
                            rw [List.take_succ_eq_append_getElem hi2, List.foldl_append, ← e1, ← e2]; rfl
                          have HSS : Hid (∀ X, Kept No wa X → (fun X => X.cell? ⟨P, 0, none⟩ = some (.slice (some ⟨b, off, none⟩) T.length pc) ∧ X.cell? ⟨P, 1, none⟩ = some (.slice ra R.length rc) ∧ X.cell? ⟨b, off + h * 5 + 3, none⟩ = some (.slice (some ⟨b2, off2, none⟩) ln svc) ∧ X.cell? ⟨b2, off2 + i * 2, none⟩ = some (.int .i64 v1) ∧ X.cell? ⟨b2, off2 + i * 2 + 1, none⟩ = some (.int .i64 v2)) X) := fun X hk => by
                            obtain ⟨z0, z1, z2⟩ := HGP.out X hk
                            obtain ⟨z3, z4⟩ := hx X hk
                            exact ⟨z1, z2, HT3.out X hk, by rw [z3, e1], by rw [z4, e2]⟩
                          have HMr : Hid (∀ X, Kept No wa X → X.heap[nb]? = some (.cells (ic ((sl.take i).foldl (mkF (unw T) ((m : Int) + 1 + 1)) F4)).toArray 3 (0, 0)) → Calls Try.prog 20 #[.agg #[.slice (some ⟨b, off, none⟩) T.length pc, .slice ra R.length rc], .agg #[.int .i64 v1, .int .i64 v2], SLN nb T.length, .int .i64 ((m : Int) + 1 + 1)] X fun e w' => ∃ v, e = .returned v ∧ w'.heap[nb]? = some (.cells (ic (mkF (unw T) ((m : Int) + 1 + 1) ((sl.take i).foldl (mkF (unw T) ((m : Int) + 1 + 1)) F4) (v1, v2))).toArray 3 (0, 0)) ∧ Kept No wa w') := fun X hk hx => HMk.out X hk _ (HML.out _ (sl.take i) _ HF4.out) hx v1 v2 _
                          clear hx e1 e2 hcs
                          go_wp2_with fail
                          refine wp_region_held_drew (S := fun X => X.cell? ⟨P, 0, none⟩ = some (.slice (some ⟨b, off, none⟩) T.length pc) ∧ X.cell? ⟨P, 1, none⟩ = some (.slice ra R.length rc) ∧ X.cell? ⟨b, off + h * 5 + 3, none⟩ = some (.slice (some ⟨b2, off2, none⟩) ln svc) ∧ X.cell? ⟨b2, off2 + i * 2, none⟩ = some (.int .i64 v1) ∧ X.cell? ⟨b2, off2 + i * 2 + 1, none⟩ = some (.int .i64 v2)) (by kernel_rfl) (HSS.out _ HJ5.out.1.drew) (fun hSS => ?_)
                          have HKd : Hid (Kept No wa wr.drew) := HJ5.out.1.drew
                          have HFd : Hid (wr.drew.heap[nb]? = some (.cells (ic ((sl.take i).foldl (mkF (unw T) ((m : Int) + 1 + 1)) F4)).toArray 3 (0, 0))) := HJ5.out.2
                          generalize wr.drew = X5 at HKd HFd hSS ⊢
                          refine wpAnyH_take (i := 0) (v := .agg #[.slice (some ⟨b, off, none⟩) T.length pc, .slice ra R.length rc]) rfl (by kernel_rfl) (by kernel_rfl) (by kernel_rfl) (fun _ _ _ h => h) (Or.inl ⟨by rfl, by intro w' hw; obtain ⟨q0, q1, q2, q3, q4⟩ := hw; go_simp⟩) hSS ?_
                          try simp only [Act.put, List.setIfInBounds_toArray, List.set_cons_zero, List.set_cons_succ, List.getElem_toArray, List.getElem_cons_zero, List.getElem_cons_succ]
                          refine wpAnyH_take (i := 1) (v := .pointer (some ⟨P, 0, none⟩)) rfl (by kernel_rfl) (by kernel_rfl) (by kernel_rfl) (fun _ _ _ h => h) (Or.inl ⟨by rfl, by intro w' hw; go_simp⟩) hSS ?_
                          try simp only [Act.put, List.setIfInBounds_toArray, List.set_cons_zero, List.set_cons_succ, List.getElem_toArray, List.getElem_cons_zero, List.getElem_cons_succ]
                          refine wpAnyH_take (i := 2) (v := .slice (some ⟨b, off, none⟩) T.length pc) rfl (by kernel_rfl) (by kernel_rfl) (by kernel_rfl) (fun _ _ _ h => h) (Or.inl ⟨by rfl, by intro w' hw; obtain ⟨q0, q1, q2, q3, q4⟩ := hw; go_simp⟩) hSS ?_
                          try simp only [Act.put, List.setIfInBounds_toArray, List.set_cons_zero, List.set_cons_succ, List.getElem_toArray, List.getElem_cons_zero, List.getElem_cons_succ]
                          refine wpAnyH_take (i := 3) (v := .int .i64 h) rfl (by kernel_rfl) (by kernel_rfl) (by kernel_rfl) (fun _ _ _ h => h) (Or.inl ⟨by rfl, by intro w' hw; go_simp⟩) hSS ?_
                          try simp only [Act.put, List.setIfInBounds_toArray, List.set_cons_zero, List.set_cons_succ, List.getElem_toArray, List.getElem_cons_zero, List.getElem_cons_succ]
                          refine wpAnyH_take (i := 4) (v := .pointer (some ⟨b, off + h * 5, none⟩)) rfl (by kernel_rfl) (by kernel_rfl) (by kernel_rfl) (fun _ _ _ h => h) (Or.inl ⟨by rfl, by intro w' hw; go_simp⟩) hSS ?_
                          try simp only [Act.put, List.setIfInBounds_toArray, List.set_cons_zero, List.set_cons_succ, List.getElem_toArray, List.getElem_cons_zero, List.getElem_cons_succ]
                          refine wpAnyH_take (i := 5) (v := .pointer (some ⟨b, off + h * 5 + 3, none⟩)) rfl (by kernel_rfl) (by kernel_rfl) (by kernel_rfl) (fun _ _ _ h => h) (Or.inl ⟨by rfl, by intro w' hw; go_simp⟩) hSS ?_
                          try simp only [Act.put, List.setIfInBounds_toArray, List.set_cons_zero, List.set_cons_succ, List.getElem_toArray, List.getElem_cons_zero, List.getElem_cons_succ]
                          refine wpAnyH_take (i := 6) (v := .slice (some ⟨b2, off2, none⟩) ln svc) rfl (by kernel_rfl) (by kernel_rfl) (by kernel_rfl) (fun _ _ _ h => h) (Or.inl ⟨by rfl, by intro w' hw; obtain ⟨q0, q1, q2, q3, q4⟩ := hw; go_simp⟩) hSS ?_
                          try simp only [Act.put, List.setIfInBounds_toArray, List.set_cons_zero, List.set_cons_succ, List.getElem_toArray, List.getElem_cons_zero, List.getElem_cons_succ]
                          refine wpAnyH_take (i := 7) (v := .int .i64 i) rfl (by kernel_rfl) (by kernel_rfl) (by kernel_rfl) (fun _ _ _ h => h) (Or.inl ⟨by rfl, by intro w' hw; go_simp⟩) hSS ?_
                          try simp only [Act.put, List.setIfInBounds_toArray, List.set_cons_zero, List.set_cons_succ, List.getElem_toArray, List.getElem_cons_zero, List.getElem_cons_succ]
                          refine wpAnyH_take (i := 8) (v := .pointer (some ⟨b2, off2 + i * 2, none⟩)) rfl (by kernel_rfl) (by kernel_rfl) (by kernel_rfl) (fun _ _ _ h => h) (Or.inl ⟨by rfl, by intro w' hw; go_simp⟩) hSS ?_
                          try simp only [Act.put, List.setIfInBounds_toArray, List.set_cons_zero, List.set_cons_succ, List.getElem_toArray, List.getElem_cons_zero, List.getElem_cons_succ]
                          refine wpAnyH_take (i := 9) (v := .agg #[.int .i64 v1, .int .i64 v2]) rfl (by kernel_rfl) (by kernel_rfl) (by kernel_rfl) (fun _ _ _ h => h) (Or.inl ⟨by rfl, by intro w' hw; obtain ⟨q0, q1, q2, q3, q4⟩ := hw; go_simp⟩) hSS ?_
                          try simp only [Act.put, List.setIfInBounds_toArray, List.set_cons_zero, List.set_cons_succ, List.getElem_toArray, List.getElem_cons_zero, List.getElem_cons_succ]
                          refine wpAnyH_take (i := 10) (v := SLN nb T.length) rfl (by kernel_rfl) (by kernel_rfl) (by kernel_rfl) (fun _ _ _ h => h) (Or.inl ⟨by rfl, by intro w' hw; go_simp⟩) hSS ?_
                          try simp only [Act.put, List.setIfInBounds_toArray, List.set_cons_zero, List.set_cons_succ, List.getElem_toArray, List.getElem_cons_zero, List.getElem_cons_succ]
                          refine wpAnyH_take (i := 11) (v := .int .i64 ((m : Int) + 1)) rfl (by kernel_rfl) (by kernel_rfl) (by kernel_rfl) (fun _ _ _ h => h) (Or.inl ⟨by rfl, by intro w' hw; go_simp⟩) hSS ?_
                          try simp only [Act.put, List.setIfInBounds_toArray, List.set_cons_zero, List.set_cons_succ, List.getElem_toArray, List.getElem_cons_zero, List.getElem_cons_succ]
                          refine wpAnyH_take (i := 12) (v := .int .i64 ((m : Int) + 1 + 1)) rfl (by kernel_rfl) (by kernel_rfl) (by kernel_rfl) (fun _ _ _ h => h) (Or.inl ⟨by rfl, by intro w' hw; go_simp; rw [IntKind.wrap_i64]; omega⟩) hSS ?_
                          try simp only [Act.put, List.setIfInBounds_toArray, List.set_cons_zero, List.set_cons_succ, List.getElem_toArray, List.getElem_cons_zero, List.getElem_cons_succ]
                          refine wpAnyH_ready (rs := [13]) (by kernel_rfl) (by simp) ?_
                          refine AllReadyH.cons rfl (fun K hK => ?_) AllReadyH.nil
                          go_simp
                          refine Calls.mono (HMr.out X5 HKd.out HFd.out) ?_
                          rintro e X9 ⟨v, rfl, hx, hk9⟩
                          refine hK.out _ _ (HSS.out _ hk9) (fun hSS => ?_)
                          clear hK K
                          have HX9 : Hid (X9.heap[nb]? = some (.cells (ic ((sl.take (i + 1)).foldl (mkF (unw T) ((m : Int) + 1 + 1)) F4)).toArray 3 (0, 0))) := by show _ = _; rw [HTk.out]; exact hx
                          have HK9 : Hid (Kept No wa X9) := hk9
                          try simp only [Act.put, List.setIfInBounds_toArray, List.set_cons_zero, List.set_cons_succ, List.getElem_toArray, List.getElem_cons_zero, List.getElem_cons_succ]
                          refine wpAnyH_done (by kernel_rfl) ?_ _
                          clear hx hk9 HTk HMr
                          go_wp2_with fail
                          go_roundw
                          case rel => exact ⟨i + 1, by omega, by go_num, HK9.out, HX9.out⟩
                          case measure => simp [intOf]; omega
                        · have k5 : ¬ (i : Int) < (ln : Int) := by omega
                          have HX9 : Hid (wr.heap[nb]? = some (.cells (ic ((List.range (h + 1)).foldl (rowH (unw T) ((m : Int) + 1)) (farD (unw T) R m))).toArray 3 (0, 0))) := by
                            show _ = _
                            have := HJ5.out.2
                            rw [List.take_of_length_le (by omega)] at this
                            rw [HRq.out]; exact this
                          go_wp2_with fail
                          go_roundw
                          case rel => exact ⟨h + 1, by omega, by go_num, HJ5.out.1, HX9.out⟩
                          case measure => simp [intOf]; omega
                    · obtain ⟨fh, hfh⟩ : ∃ fh, F4.getD h 0 = fh := ⟨_, rfl⟩
                      have HRq : Hid ((List.range (h + 1)).foldl (rowH (unw T) ((m : Int) + 1)) (farD (unw T) R m) = F4) := by
                        show _ = _
                        rw [HRw.out]; unfold rowH; rw [if_neg hq]
                      have HFh : Hid (F4.getD h 0 = fh) := hfh
                      rw [hfh] at hq
                      have hqb : (fh == (m : Int) + 1) = false := by simpa using hq
                      clear hq hfh h3 hcs
                      go_wp2_with fail
                      go_loopw [11, 70, 71, 72, 73, 74, 75, 76, 77, 78, 79, 80, 81, 82, 83, 84, 85, 86, 87, 88, 89, 90, 91, 92, 93, 94, 95, 96, 97, 98, 99, 100, 101, 102] (fun i _ _ _ _ _ _ _ _ _ _ _ _ _ _ _ _ _ _ _ _ _ _ _ _ _ _ _ _ _ _ _ _ _ wr => i = .int .i64 0 ∧ Hid (Kept No wa wr ∧ wr.heap[nb]? = some (.cells (ic F4).toArray 3 (0, 0)))) (fun i _ _ _ _ _ _ _ _ _ _ _ _ _ _ _ _ _ _ _ _ _ _ _ _ _ _ _ _ _ _ _ _ _ _ => 0)
                      case atStart => exact ⟨rfl, HJ4.out.1, HJ4.out.2⟩
                      case round =>
                        obtain ⟨rfl, HJ5⟩ := hrel
                        have c5 : wr.cell? ⟨nb, h, none⟩ = some (.int .i64 fh) := by
                          rw [cell_of HJ5.out.2, ic_get _ _ (by rw [HF4.out]; exact hlt4), HFh.out]
                        have HX9 : Hid (wr.heap[nb]? = some (.cells (ic ((List.range (h + 1)).foldl (rowH (unw T) ((m : Int) + 1)) (farD (unw T) R m))).toArray 3 (0, 0))) := by
                          show _ = _
                          rw [HRq.out]; exact HJ5.out.2
                        go_wp2_with fail
                        go_roundw
                        case rel => exact ⟨h + 1, by omega, by go_num, HJ5.out.1, HX9.out⟩
                        case measure => simp [intOf]; omega
                  · have k4 : ¬ (h : Int) < (T.length : Int) := by omega
                    obtain rfl : h = T.length := by omega
                    have HX9 : Hid (wr.heap[nb]? = some (.cells (ic (farD (unw T) R (m + 1))).toArray 3 (0, 0))) := by
                      show _ = _
                      have e : farD (unw T) R (m + 1) = (List.range T.length).foldl (rowH (unw T) ((m : Int) + 1)) (farD (unw T) R m) := by
                        unfold farD
                        rw [List.range_succ, List.foldl_append]
                        show rowD _ _ _ = _
                        unfold rowD
                        rw [hUn]
                      rw [e]; exact HJ4.out.2
                    go_wp2_with fail
                    go_roundw
                    case rel => exact ⟨m + 1, by omega, by go_num, HJ4.out.1, HX9.out⟩
                    case measure => simp [intOf]; omega
              · have k3 : ¬ (m : Int) + 1 ≤ (T.length : Int) := by omega
                obtain rfl : m = T.length := by omega
                obtain ⟨y0, y1, y2⟩ := HGP.out wr HJ3.out.1
                have HSt : Hid (Calls Try.prog 13 #[.agg #[.slice po T.length pc, .slice ra R.length rc], .slice none 0 0] wr fun e w' => ∃ nb, e = .returned (SLN nb T.length) ∧ w'.heap[nb]? = some (.cells (bc (strong (unw T) R [])).toArray 4 (0, 0)) ∧ wr.heap.size ≤ nb ∧ Kept No wr w') := by
                  have := Strong_any (HUT.out.no HJ3.out.1) (HR.out.no (HK.out.trans (HPL.out.k.trans HJ3.out.1))) (⟨none, 0, rfl, fun j hj => by simp at hj⟩ : RdI wr (.slice none 0 0) []) (by omega) (fun t ht => by
                    obtain ⟨x, hx, rfl⟩ := List.mem_map.1 ht
                    have := HS.out x hx
                    show x.sl.length ≤ 1000
                    omega) (by omega) (by simp)
                  rw [hUn] at this; exact this
                have HKw : Hid (Kept No w wr) := HK.out.trans (HPL.out.k.trans HJ3.out.1)
                have HFw : Hid (wr.heap[nb]? = some (.cells (ic (farD (unw T) R T.length)).toArray 3 (0, 0))) := HJ3.out.2
                clear HTh HMk HML HGP HUT
                go_wp2_with fail
                refine Calls.mono HSt.out ?_
                rintro e X9 ⟨n2, rfl, hn2, hz2, hk9⟩
                have HK9 : Hid (Kept No w X9) := HKw.out.trans hk9
                have HCell : Hid (∀ j, j < T.length → ∃ f : Int, X9.cell? ⟨nb, j, none⟩ = some (.int .i64 f) ∧ X9.cell? ⟨n2, j, none⟩ = some (.bool (decide (0 < f)))) := fun j hj => by
                  refine ⟨(farD (unw T) R T.length).getD j 0, ?_, ?_⟩
                  · rw [cell_of (hk9.heap HFw.out id), ic_get _ _ (by rw [HF3.out]; exact hj)]
                  · rw [cell_of hn2, bc_get _ _ (by rw [strong_len, hUn]; exact hj)]
                    have h1 := strong_iff (unw T) R [] j (by omega)
                    have h2 := far_iff (T := unw T) unw_wk R j
                    rw [hUn] at h2
                    have h3 := (farD_is (T := unw T) unw_wk R T.length).lo j
                    congr 2
                    rw [Bool.eq_iff_iff, decide_eq_true_eq, h1, ← h2]
                    omega
                clear hn2 hz2 hk9 HSt y0 y1 y2
                go_wp2_with fail
                go_loopw [13] (fun i wr => ∃ j : Nat, j ≤ T.length ∧ i = .int .i64 j ∧ Hid (Kept No X9 wr)) (fun i _ => T.length - (intOf i).toNat)
                case atStart => exact ⟨0, by omega, rfl, Kept.refl _ _⟩
                case round =>
                  obtain ⟨j, hj, rfl, HJ6⟩ := hrel
                  by_cases hlt6 : j < T.length
                  · have k6 : (j : Int) < (T.length : Int) := by omega
                    obtain ⟨f, cf0, cb0⟩ := HCell.out j hlt6
                    have cf := HJ6.out.cell cf0
                    have cb := HJ6.out.cell cb0
                    clear cf0 cb0
                    by_cases hf : 0 < f
                    · rw [decide_eq_true hf] at cb
                      have hfd : decide (0 < f) = true := by simpa using hf
                      go_wp2_with fail
                      go_quiet (fail)
                      go_wp2_with fail
                      go_roundw
                      case rel => exact ⟨j + 1, by omega, by go_num, HJ6.out.drewN nq⟩
                      case measure => simp [intOf]; omega
                    · rw [decide_eq_false hf] at cb
                      have hfd : decide (0 < f) = false := by simpa using hf
                      go_wp2_with fail
                      go_quiet (fail)
                      go_wp2_with fail
                      go_roundw
                      case rel => exact ⟨j + 1, by omega, by go_num, HJ6.out.drewN nq⟩
                      case measure => simp [intOf]; omega
                  · have k6 : ¬ (j : Int) < (T.length : Int) := by omega
                    have HAl : Hid (Calls Try.prog 11 #[] wr fun e w' => e = .returned (.bool true) ∧ Kept No wr w') := alive_any wr
                    go_wp2_with fail
                    refine Calls.mono HAl.out ?_
                    rintro e W6 ⟨rfl, hk6⟩
                    have HK6 : Hid (Kept No w W6) := HK9.out.trans (HJ6.out.trans hk6)
                    clear hk6
                    go_wp2
                    go_ret
                    exact ⟨rfl, HK6.out⟩
end Go.Proofs.Ytnofmpbdfcolfaa
