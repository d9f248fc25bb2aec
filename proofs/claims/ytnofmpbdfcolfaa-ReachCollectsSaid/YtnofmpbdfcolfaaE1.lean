/- Collect where nothing is to be finalised. -/
import Derived.Test.YtnofmpbdfcolfaaC3
import Derived.Test.YtnofmpbdfcolfaaD1
namespace Go.Proofs.Ytnofmpbdfcolfaa
open Go.RowKit Go.Shelf
set_option linter.unusedSimpArgs false
set_option linter.unusedVariables false

theorem needH_nd (n : Nat) (s : St) (x : Int) : (needH n s x).nd.length = s.nd.length := by unfold needH; split <;> simp
theorem need_nd (T : List Th) (s : St) (v : V) : (need T s v).nd.length = s.nd.length := by unfold need; split; exact needH_nd _ _ _; rfl
theorem needT_nd (T : List Th) (s : St) (v : V) : (needT T s v).nd.length = s.nd.length := by unfold needT; split; exact need_nd _ _ _; rfl
theorem fold_nd {α : Type} {f : St → α → St} (hf : ∀ s a, (f s a).nd.length = s.nd.length) (L : List α) : ∀ s, (L.foldl f s).nd.length = s.nd.length := by
  induction L with
  | nil => exact fun s => rfl
  | cons a L ih => exact fun s => (ih _).trans (hf s a)
theorem modeF_nd (T : List Th) (k : Int) (s : St) (a b : V) : (modeF T k s a b).nd.length = s.nd.length := by
  unfold modeF
  split
  · unfold needP; split
    · rfl
    · exact (need_nd _ _ _).trans (need_nd _ _ _)
  · split
    · exact (needT_nd _ _ _).trans (need_nd _ _ _)
    · exact (needT_nd _ _ _).trans (needT_nd _ _ _)
theorem thro_nd (T : List Th) (s : St) (t : Th) : (thro T s t).nd.length = s.nd.length := by
  unfold thro
  split
  · refine (fold_nd (fun s p => modeF_nd _ _ _ _ _) _ _).trans ?_
    unfold need0; split
    · exact need_nd _ _ _
    · rfl
  · exact fold_nd (need_nd T) _ _
theorem stepG_nd (T : List Th) (s : St) : (stepG T s).nd.length = s.nd.length := by
  unfold stepG
  rw [thro_nd, fold_nd (need_nd T)]; rfl
theorem goG_nd (T : List Th) : ∀ f s, (goG T f s).nd.length = s.nd.length
  | 0, _ => rfl
  | f + 1, s => by
    unfold goG
    split
    · rfl
    · rw [goG_nd T f, stepG_nd]
theorem strong_len (T : List Th) (R : List V) (M : List Int) : (strong T R M).length = T.length := by
  unfold strong
  rw [goG_nd]
  unfold stR
  rw [fold_nd (needH_nd T.length), fold_nd (need_nd T)]
  simp [st0]

theorem EnRow.base {w : World} {b b' : Nat} {v : Value} {L : List V} (h : EnRow w b' v L) (hb : b ≤ b') : EnRow w b v L := by
  refine ⟨h.1, h.2.imp id ?_⟩
  rintro ⟨g, cap, cur, e1, e2, r⟩
  exact ⟨g, cap, cur, e1, Nat.le_trans hb e2, r⟩

set_option maxRecDepth 20000 in
set_option maxHeartbeats 1600000 in
theorem Collect_zero {w : World} {tv rv : Value} {T : List Th} {R : List V} (hT : RdT w tv T) (hR : RdV w rv R) (hn : T.length ≤ 100) (hs : ∀ t ∈ T, t.sl.length ≤ 1000) (hRn : R.length ≤ 1000000) (h0 : ∀ i (hi : i < T.length), T[i].fin ≤ 0) :
    Calls Try.prog 18 #[.agg #[tv, rv]] w fun e w' => ∃ nb ev, e = .returned (.agg #[SLN nb T.length, .slice none 0 0, ev]) ∧ w'.heap[nb]? = some (.cells (bc (strong T R [])).toArray 4 (0, 0)) ∧ EnRow w' w.heap.size ev (clrTo T (strong T R []) (strong T R []) T.length) ∧ Kept No w w' := by
  have HT : Hid (RdT w tv T) := hT
  have HR : Hid (RdV w rv R) := hR
  have HS : Hid (∀ t ∈ T, t.sl.length ≤ 1000) := hs
  have H0 : Hid (∀ i (hi : i < T.length), T[i].fin ≤ 0) := h0
  obtain ⟨ta, tc, rfl, _⟩ := hT
  obtain ⟨ra, rc, rfl, _⟩ := hR
  obtain ⟨W, HWd⟩ : ∃ W, Hid (W = (w.alloc (.cells #[.slice ta T.length tc, .slice ra R.length rc] 25)).alloc (.cells #[.slice none 0 0, .slice none 0 0, .slice none 0 0] 37)) := ⟨_, rfl⟩
  have HK : Hid (Kept No w W) := by show Kept _ _ _; rw [HWd.out]; exact ((Kept.refl _ _).alloc _).alloc _
  have HB0 : Hid (W.heap[w.heap.size]? = some (.cells #[.slice ta T.length tc, .slice ra R.length rc] 25 (0, 0))) := by show _ = _; rw [HWd.out]; exact (Below.heap_alloc _ _ _ (by simp)).trans (World.alloc_heap_new w _)
  have HB1 : Hid (W.heap[w.heap.size + 1]? = some (.cells #[.slice none 0 0, .slice none 0 0, .slice none 0 0] 37 (0, 0))) := by show _ = _; rw [HWd.out]; have := World.alloc_heap_new (w.alloc (.cells #[.slice ta T.length tc, .slice ra R.length rc] 25)) (.cells #[.slice none 0 0, .slice none 0 0, .slice none 0 0] 37); rwa [World.size_alloc] at this
  have HG : Hid (∀ W', Kept No W W' → W'.cell? ⟨w.heap.size, 0, none⟩ = some (.slice ta T.length tc) ∧ W'.cell? ⟨w.heap.size, 1, none⟩ = some (.slice ra R.length rc)) := fun W' hk => by
    have := hk.heap HB0.out id
    exact ⟨by rw [cell_of this]; rfl, by rw [cell_of this]; rfl⟩
  have hN : ∀ W, RdI W (.slice none 0 0) [] := fun W => ⟨none, 0, rfl, fun j hj => by simp at hj⟩
  have HSt : Hid (∀ W', Kept No w W' → Calls Try.prog 13 #[.agg #[.slice ta T.length tc, .slice ra R.length rc], .slice none 0 0] W' fun e w' => ∃ nb, e = .returned (SLN nb T.length) ∧ w'.heap[nb]? = some (.cells (bc (strong T R [])).toArray 4 (0, 0)) ∧ W'.heap.size ≤ nb ∧ Kept No W' w') := fun W' hk => Strong_any (HT.out.no hk) (HR.out.no hk) (hN W') hn HS.out hRn (by simp)
  have HLe : Hid ((strong T R []).length = T.length) := strong_len T R []
  obtain ⟨g0, g1⟩ := HG.out W (Kept.refl _ _)
  clear hs h0 hN
  generalize strong T R [] = S at HSt HLe ⊢
  go_enter Try.func18, Try.ntmps18
  go_wp2_with (first | rw [← HWd.out])
  refine Calls.mono (HSt.out W HK.out) ?_
  rintro e W1 ⟨nb1, rfl, hb1, hs1, hk1⟩
  have HK1 : Hid (Kept No W W1) := hk1
  have HR1 : Hid (RdB W1 (SLN nb1 T.length) S) := ⟨nb1, by rw [HLe.out], hb1⟩
  obtain ⟨g2, g3⟩ := HG.out W1 hk1
  have HF : Hid (Calls Try.prog 36 #[.slice ta T.length tc, SLN nb1 T.length] W1 fun e w' => e = .returned (.slice none 0 0) ∧ Kept No W1 w') := toFinalise_zero (HT.out.no (HK.out.trans hk1)) hn HLe.out HR1.out (fun i hi => by have := H0.out i hi; omega)
  clear hb1 hs1 hk1 g0 g1
  go_wp2_with fail
  refine Calls.mono HF.out ?_
  rintro e W2 ⟨rfl, hk2⟩
  have HK2 : Hid (Kept No W W2) := HK1.out.trans hk2
  have HR2 : Hid (RdB W2 (SLN nb1 T.length) S) := HR1.out.no hk2
  obtain ⟨g4, g5⟩ := HG.out W2 HK2.out
  clear hk2 g2 g3 HF
  go_wp2_with fail
  refine Calls.mono (HSt.out W2 (HK.out.trans HK2.out)) ?_
  rintro e W3 ⟨nb3, rfl, hb3, hs3, hk3⟩
  have HK3 : Hid (Kept No W W3) := HK2.out.trans hk3
  have HR3 : Hid (RdB W3 (SLN nb1 T.length) S) := HR2.out.no hk3
  have HR4 : Hid (RdB W3 (SLN nb3 T.length) S) := ⟨nb3, by rw [HLe.out], hb3⟩
  have HB3 : Hid (W3.heap[nb3]? = some (.cells (bc S).toArray 4 (0, 0))) := hb3
  obtain ⟨g6, g7⟩ := HG.out W3 HK3.out
  have HCl : Hid (Calls Try.prog 37 #[.slice ta T.length tc, SLN nb1 T.length, SLN nb3 T.length] W3 fun e w' => ∃ ev, e = .returned ev ∧ EnRow w' W3.heap.size ev (clrTo T S S T.length) ∧ Kept No W3 w') := cleared_any (HT.out.no (HK.out.trans HK3.out)) hn HS.out HR3.out HR4.out HLe.out HLe.out
  clear hb3 hs3 hk3 g4 g5
  go_wp2_with fail
  refine Calls.mono HCl.out ?_
  rintro e W4 ⟨ev, rfl, hev, hk4⟩
  have hb4 := (HK3.out.trans hk4).heap HB1.out id
  have f4 := fun o => frozen_of hb4 o
  have c0 : W4.cell? ⟨w.heap.size + 1, 0, none⟩ = some (.slice none 0 0) := by rw [cell_of hb4]; rfl
  have c1 : W4.cell? ⟨w.heap.size + 1, 1, none⟩ = some (.slice none 0 0) := by rw [cell_of hb4]; rfl
  have c2 : W4.cell? ⟨w.heap.size + 1, 2, none⟩ = some (.slice none 0 0) := by rw [cell_of hb4]; rfl
  obtain ⟨eo, ec, rfl⟩ := hev.form
  have HEv : Hid (EnRow W4 W3.heap.size (.slice eo (clrTo T S S T.length).length ec) (clrTo T S S T.length)) := hev
  generalize (clrTo T S S T.length).length = lne at HEv ⊢
  have HK4 : Hid (Kept No w W4) := HK.out.trans (HK3.out.trans hk4)
  have HN4 : Hid (W4.heap[nb3]? = some (.cells (bc S).toArray 4 (0, 0))) := hk4.heap HB3.out id
  have HB4 : Hid _ := hb4
  have hz3 : w.heap.size ≤ W3.heap.size := Nat.le_trans HK.out.size HK3.out.size
  clear hev hk4 hb4 g6 g7 HCl HB3 HB1
  go_wp2_with fail
  refine bodyPost_ret (v := .agg #[SLN nb3 T.length, .slice none 0 0, .slice eo lne ec]) (by simp [results, Try.results18, go_sem, c0, c1, c2]) rfl ?_
  have k3 : Kept (fun k => k = w.heap.size + 1) W4 (((W4.setCell ⟨w.heap.size + 1, 0, none⟩ (SLN nb3 T.length)).setCell ⟨w.heap.size + 1, 1, none⟩ (.slice none 0 0)).setCell ⟨w.heap.size + 1, 2, none⟩ (.slice eo lne ec)) :=
    by
      repeat refine Kept.set ?_ _ _ _ (.inl rfl)
      exact Kept.refl _ _
  refine ⟨nb3, .slice eo lne ec, rfl, ?_, ?_, ?_⟩
  · exact k3.heap HN4.out (ne_ty HN4.out HB4.out (by decide))
  · refine EnRow.base (EnRow.turn HEv.out (fun k hk => ?_)) hz3
    obtain ⟨_, cc, hc⟩ := HEv.out.block hk
    rw [hc, k3.heap hc (ne_ty hc HB4.out (by decide))]
  · exact HK4.out.trans' k3 (fun i e => .inr (by omega))
end Go.Proofs.Ytnofmpbdfcolfaa
