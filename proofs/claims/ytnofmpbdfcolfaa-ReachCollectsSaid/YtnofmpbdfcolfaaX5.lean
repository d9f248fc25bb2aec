/- Collect of any graph. -/
import Derived.Test.YtnofmpbdfcolfaaX4
import Derived.Test.YtnofmpbdfcolfaaE1
namespace Go.Proofs.Ytnofmpbdfcolfaa
open Go.RowKit Go.Shelf
set_option linter.unusedSimpArgs false
set_option linter.unusedVariables false

theorem IRow.rd {w : World} {base : Nat} {v : Value} {l : List Int} (h : IRow w base v l) : RdI w v l := by
  rcases h.2 with ⟨rfl, h0⟩ | ⟨g, cap, cur, rfl, _⟩
  · exact ⟨none, 0, by rw [h0], fun j hj => by omega⟩
  · refine ⟨_, _, rfl, fun j hj => ⟨g, 0, rfl, ?_⟩⟩
    rw [Nat.zero_add]; exact (World.ownsRow.cellAt h _ (by omega)).trans (by simp [ic, hj])
theorem IRow.no {w w' : World} {base : Nat} {v : Value} {l : List Int} (h : IRow w base v l) (hk : Kept No w w') : IRow w' base v l := by
  refine h.turn (fun k e => ?_)
  obtain ⟨_, c, hc⟩ := h.block e
  rw [hc, hk.heap hc id]
theorem Pd.len {T : List Th} {l : List Bool} {D : List Nat} (h : Pd T l D) : D.length ≤ T.length := by
  rw [h.perm.length_eq]; exact finL_len _ _ _

/-- What a collection finds: who lives, by what is needed at first and what is to be finalised. -/
def Fnd (w w' : World) (T : List Th) (R : List V) (lv pv ev : Value) (D : List Nat) : Prop :=
  ∃ nb, lv = SLN nb T.length ∧ w'.heap[nb]? = some (.cells (bc (strong T R (hdl D))).toArray 4 (0, 0)) ∧ Pd T (strong T R []) D ∧ IRow w' w.heap.size pv (hdl D) ∧
    EnRow w' w.heap.size ev (clrTo T (strong T R []) (strong T R (hdl D)) T.length) ∧ Kept No w w'

set_option maxRecDepth 20000 in
set_option maxHeartbeats 1600000 in
theorem Collect_any {w : World} {tv rv : Value} {T : List Th} {R : List V} (hT : RdT w tv T) (hR : RdV w rv R) (hn : T.length ≤ 100) (hs : ∀ t ∈ T, t.sl.length ≤ 1000) (hRn : R.length ≤ 1000000) :
    Calls Try.prog 18 #[.agg #[tv, rv]] w fun e w' => ∃ lv pv ev D, e = .returned (.agg #[lv, pv, ev]) ∧ Fnd w w' T R lv pv ev D := by
  have HT : Hid (RdT w tv T) := hT
  have HR : Hid (RdV w rv R) := hR
  have HS : Hid (∀ t ∈ T, t.sl.length ≤ 1000) := hs
  obtain ⟨ta, tc, rfl, _⟩ := hT
  obtain ⟨ra, rc, rfl, _⟩ := hR
  obtain ⟨W, HWd⟩ : ∃ W, Hid (W = (w.alloc (.cells #[.slice ta T.length tc, .slice ra R.length rc] 25)).alloc (.cells #[.slice none 0 0, .slice none 0 0, .slice none 0 0] 37)) := ⟨_, rfl⟩
  have HK : Hid (Kept No w W) := by show Kept _ _ _; rw [HWd.out]; exact ((Kept.refl _ _).alloc _).alloc _
  have HB0 : Hid (W.heap[w.heap.size]? = some (.cells #[.slice ta T.length tc, .slice ra R.length rc] 25 (0, 0))) := by show _ = _; rw [HWd.out]; exact (Below.heap_alloc _ _ _ (by simp)).trans (World.alloc_heap_new w _)
  have HB1 : Hid (W.heap[w.heap.size + 1]? = some (.cells #[.slice none 0 0, .slice none 0 0, .slice none 0 0] 37 (0, 0))) := by show _ = _; rw [HWd.out]; have := World.alloc_heap_new (w.alloc (.cells #[.slice ta T.length tc, .slice ra R.length rc] 25)) (.cells #[.slice none 0 0, .slice none 0 0, .slice none 0 0] 37); rwa [World.size_alloc] at this
  have HG : Hid (∀ W', Kept No W W' → W'.cell? ⟨w.heap.size, 0, none⟩ = some (.slice ta T.length tc) ∧ W'.cell? ⟨w.heap.size, 1, none⟩ = some (.slice ra R.length rc)) := fun W' hk => by
    have := hk.heap HB0.out id
    exact ⟨by rw [cell_of this]; rfl, by rw [cell_of this]; rfl⟩
  have hN : ∀ W, RdI W (.slice none 0 0) [] := fun W => ⟨none, 0, rfl, fun j hj => by simp at hj⟩
  have HSt : Hid (∀ W', Kept No w W' → Calls Try.prog 13 #[.agg #[.slice ta T.length tc, .slice ra R.length rc], .slice none 0 0] W' fun e w' => ∃ nb, e = .returned (SLN nb T.length) ∧ w'.heap[nb]? = some (.cells (bc (strong T R [])).toArray 4 (0, 0)) ∧ W'.heap.size ≤ nb ∧ Kept No W' w') := fun W' hk => Strong_any (HT.out.no hk) (HR.out.no hk) (hN W') hn HS.out hRn (by simp)
  have HStP : Hid (∀ W' pv D, Kept No w W' → IRow W' w.heap.size pv (hdl D) → D.length ≤ 1000000 → Calls Try.prog 13 #[.agg #[.slice ta T.length tc, .slice ra R.length rc], pv] W' fun e w' => ∃ nb, e = .returned (SLN nb T.length) ∧ w'.heap[nb]? = some (.cells (bc (strong T R (hdl D))).toArray 4 (0, 0)) ∧ W'.heap.size ≤ nb ∧ Kept No W' w') := fun W' pv D hk hi hd => Strong_any (HT.out.no hk) (HR.out.no hk) hi.rd hn HS.out hRn (by rw [hdl_len]; exact hd)
  have HLe : Hid ((strong T R []).length = T.length) := strong_len T R []
  have HLp : Hid (∀ D, (strong T R (hdl D)).length = T.length) := fun D => strong_len T R _
  obtain ⟨F, HFd⟩ : ∃ F, Hid (F = strong T R []) := ⟨_, rfl⟩
  obtain ⟨SD, HSD⟩ : ∃ SD : List Nat → List Bool, Hid (SD = fun D => strong T R (hdl D)) := ⟨_, rfl⟩
  have HQ : Hid (∀ w' lv pv ev D, (∃ nb, lv = SLN nb T.length ∧ w'.heap[nb]? = some (.cells (bc (SD D)).toArray 4 (0, 0)) ∧ Pd T F D ∧ IRow w' w.heap.size pv (hdl D) ∧ EnRow w' w.heap.size ev (clrTo T F (SD D) T.length) ∧ Kept No w w') → Fnd w w' T R lv pv ev D) := fun w' lv pv ev D h => by
    rw [HFd.out, HSD.out] at h; exact h
  have HStP' : Hid (∀ W' pv D, Kept No w W' → IRow W' w.heap.size pv (hdl D) → D.length ≤ 1000000 → Calls Try.prog 13 #[.agg #[.slice ta T.length tc, .slice ra R.length rc], pv] W' fun e w' => ∃ nb, e = .returned (SLN nb T.length) ∧ w'.heap[nb]? = some (.cells (bc (SD D)).toArray 4 (0, 0)) ∧ W'.heap.size ≤ nb ∧ Kept No W' w') := by rw [HSD.out]; exact HStP
  have HLp' : Hid (∀ D, (SD D).length = T.length) := by rw [HSD.out]; exact HLp
  rw [← HFd.out] at HSt HLe
  obtain ⟨g0, g1⟩ := HG.out W (Kept.refl _ _)
  clear hs hN HStP HLp HFd HSD
  go_enter Try.func18, Try.ntmps18
  go_wp2_with (first | rw [← HWd.out])
  refine Calls.mono (HSt.out W HK.out) ?_
  rintro e W1 ⟨nb1, rfl, hb1, hs1, hk1⟩
  have HK1 : Hid (Kept No W W1) := hk1
  have HR1 : Hid (RdB W1 (SLN nb1 T.length) F) := ⟨nb1, by rw [HLe.out], hb1⟩
  obtain ⟨g2, g3⟩ := HG.out W1 hk1
  have HF : Hid (Calls Try.prog 36 #[.slice ta T.length tc, SLN nb1 T.length] W1 fun e w' => ∃ v D, e = .returned v ∧ Pd T F D ∧ IRow w' W1.heap.size v (hdl D) ∧ Kept No W1 w') := toFinalise_any (HT.out.no (HK.out.trans hk1)) hn HLe.out HR1.out
  clear hb1 hs1 hk1 g0 g1
  go_wp2_with fail
  refine Calls.mono HF.out ?_
  rintro e W2 ⟨pv, D, rfl, hpd, hir, hk2⟩
  obtain ⟨po, pc, rfl⟩ := hir.form
  have HPd : Hid (Pd T F D) := hpd
  have HDn : Hid (D.length ≤ 1000000) := by have := hpd.len; show _ ≤ _; omega
  have HI2 : Hid (IRow W2 w.heap.size (.slice po (hdl D).length pc) (hdl D)) := hir.base (Nat.le_trans HK.out.size HK1.out.size)
  have HIb : Hid (IRow W2 W.heap.size (.slice po (hdl D).length pc) (hdl D)) := hir.base HK1.out.size
  generalize (hdl D).length = pl at HI2 HIb ⊢
  have HK2 : Hid (Kept No W W2) := HK1.out.trans hk2
  have HR2 : Hid (RdB W2 (SLN nb1 T.length) F) := HR1.out.no hk2
  obtain ⟨g4, g5⟩ := HG.out W2 HK2.out
  clear hk2 hpd hir g2 g3 HF
  go_wp2_with fail
  refine Calls.mono (HStP'.out W2 (.slice po pl pc) D (HK.out.trans HK2.out) HI2.out HDn.out) ?_
  rintro e W3 ⟨nb3, rfl, hb3, hs3, hk3⟩
  have HK3 : Hid (Kept No W W3) := HK2.out.trans hk3
  have HR3 : Hid (RdB W3 (SLN nb1 T.length) F) := HR2.out.no hk3
  have HI3 : Hid (IRow W3 W.heap.size (.slice po pl pc) (hdl D)) := HIb.out.no hk3
  have HR4 : Hid (RdB W3 (SLN nb3 T.length) (SD D)) := ⟨nb3, by rw [HLp'.out], hb3⟩
  have HB3 : Hid (W3.heap[nb3]? = some (.cells (bc (SD D)).toArray 4 (0, 0))) := hb3
  obtain ⟨g6, g7⟩ := HG.out W3 HK3.out
  have HCl : Hid (Calls Try.prog 37 #[.slice ta T.length tc, SLN nb1 T.length, SLN nb3 T.length] W3 fun e w' => ∃ ev, e = .returned ev ∧ EnRow w' W3.heap.size ev (clrTo T F (SD D) T.length) ∧ Kept No W3 w') := cleared_any (HT.out.no (HK.out.trans HK3.out)) hn HS.out HR3.out HR4.out HLe.out (HLp'.out D)
  clear hb3 hs3 hk3 g4 g5 HI2 HIb
  go_wp2_with fail
  refine Calls.mono HCl.out ?_
  rintro e W4 ⟨ev, rfl, hev, hk4⟩
  have hb4 := (HK3.out.trans hk4).heap HB1.out id
  have f4 := fun o => frozen_of hb4 o
  have c0 : W4.cell? ⟨w.heap.size + 1, 0, none⟩ = some (.slice none 0 0) := by rw [cell_of hb4]; rfl
  have c1 : W4.cell? ⟨w.heap.size + 1, 1, none⟩ = some (.slice none 0 0) := by rw [cell_of hb4]; rfl
  have c2 : W4.cell? ⟨w.heap.size + 1, 2, none⟩ = some (.slice none 0 0) := by rw [cell_of hb4]; rfl
  obtain ⟨eo, ec, rfl⟩ := hev.form
  have HEv : Hid (EnRow W4 W3.heap.size (.slice eo (clrTo T F (SD D) T.length).length ec) (clrTo T F (SD D) T.length)) := hev
  generalize (clrTo T F (SD D) T.length).length = lne at HEv ⊢
  have HK4 : Hid (Kept No w W4) := HK.out.trans (HK3.out.trans hk4)
  have HN4 : Hid (W4.heap[nb3]? = some (.cells (bc (SD D)).toArray 4 (0, 0))) := hk4.heap HB3.out id
  have HI4 : Hid (IRow W4 W.heap.size (.slice po pl pc) (hdl D)) := HI3.out.no hk4
  have HB4 : Hid _ := hb4
  have hz3 : w.heap.size ≤ W3.heap.size := Nat.le_trans HK.out.size HK3.out.size
  clear hev hk4 hb4 g6 g7 HCl HB3 HB1
  go_wp2_with fail
  refine bodyPost_ret (v := .agg #[SLN nb3 T.length, .slice po pl pc, .slice eo lne ec]) (by simp [results, Try.results18, go_sem, c0, c1, c2]) rfl ?_
  have k3 : Kept (fun k => k = w.heap.size + 1) W4 (((W4.setCell ⟨w.heap.size + 1, 0, none⟩ (SLN nb3 T.length)).setCell ⟨w.heap.size + 1, 1, none⟩ (.slice po pl pc)).setCell ⟨w.heap.size + 1, 2, none⟩ (.slice eo lne ec)) :=
    by
      repeat refine Kept.set ?_ _ _ _ (.inl rfl)
      exact Kept.refl _ _
  refine ⟨_, _, _, D, rfl, HQ.out _ _ _ _ _ ⟨nb3, rfl, ?_, HPd.out, ?_, ?_, ?_⟩⟩
  · exact k3.heap HN4.out (ne_ty HN4.out HB4.out (by decide))
  · refine IRow.base (IRow.turn HI4.out (fun k hk => ?_)) HK.out.size
    obtain ⟨_, cc, hc⟩ := HI4.out.block hk
    rw [hc, k3.heap hc (ne_ty hc HB4.out (by decide))]
  · refine EnRow.base (EnRow.turn HEv.out (fun k hk => ?_)) hz3
    obtain ⟨_, cc, hc⟩ := HEv.out.block hk
    rw [hc, k3.heap hc (ne_ty hc HB4.out (by decide))]
  · exact HK4.out.trans' k3 (fun i e => .inr (by omega))
end Go.Proofs.Ytnofmpbdfcolfaa
