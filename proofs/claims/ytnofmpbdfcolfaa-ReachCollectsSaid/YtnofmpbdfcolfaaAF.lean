/- Strong. -/
import Derived.Test.YtnofmpbdfcolfaaAE
namespace Go.Proofs.Ytnofmpbdfcolfaa
open Go.RowKit Go.Shelf
set_option linter.unusedSimpArgs false
set_option linter.unusedVariables false

/-- A slice of ints that can be read. -/
def RdI (W : World) (v : Value) (L : List Int) : Prop :=
  ∃ ao cap, v = .slice ao L.length cap ∧ ∀ j (hj : j < L.length), ∃ b off, ao = some ⟨b, off, none⟩ ∧ W.cell? ⟨b, off + j, none⟩ = some (.int .i64 L[j])
theorem RdI.no {W W' : World} {v : Value} {L : List Int} (h : RdI W v L) (hk : Kept No W W') : RdI W' v L := by
  obtain ⟨ao, cap, e, h⟩ := h
  refine ⟨ao, cap, e, fun j hj => ?_⟩
  obtain ⟨b, off, e2, h1⟩ := h j hj
  have hb : b < W.heap.size := by
    rcases Nat.lt_or_ge b W.heap.size with hb | hb
    · exact hb
    · simp [World.cell?, Array.getElem?_eq_none hb] at h1
  exact ⟨b, off, e2, by rw [World.cell?_of_block (hk.block b hb id)]; exact h1⟩

theorem Ev.ok_of {w : World} {tv : Value} {T : List Th} (h : RdT w tv T) (hn : T.length ≤ 100) (hs : ∀ t ∈ T, t.sl.length ≤ 1000) : (Ev.mk w w.heap.size tv T).Ok := by
  refine ⟨fun W hW => h.no (Kept.of_below hW), Nat.le_refl _, hn, hs, fun j hj => ?_⟩
  obtain ⟨ao, cap, e, h⟩ := h
  obtain ⟨b, off, sv, e2, h1, h2, h3, h4, h5, h6⟩ := h j hj
  refine ⟨b, off, sv, ⟨cap, by rw [← e2]; exact e⟩, fun W hW => ?_⟩
  have hb : b < w.heap.size := by
    rcases Nat.lt_or_ge b w.heap.size with hb | hb
    · exact hb
    · simp [World.cell?, Array.getElem?_eq_none hb] at h1
  have e3 : ∀ o, W.cell? ⟨b, o, none⟩ = w.cell? ⟨b, o, none⟩ := fun o => World.cell?_of_block ((Kept.of_below hW).block b hb id)
  exact ⟨by rw [e3]; exact h1, by rw [e3]; exact h2, by rw [e3]; exact h3, by rw [e3]; exact h4, by rw [e3]; exact h5, h6.no (Kept.of_below hW)⟩

/-- What roots and handles need at first. -/
def stR (T : List Th) (R : List V) (M : List Int) : St := M.foldl (needH T.length) (R.foldl (need T) (st0 T.length))
/-- Which objects are needed. -/
def strong (T : List Th) (R : List V) (M : List Int) : List Bool := (goG T (2 * T.length + 1) (stR T R M)).nd
theorem stR_mu (T : List Th) (R : List V) (M : List Int) : mu (stR T R M) < 2 * T.length + 1 := by
  have h1 := fold_mu (needH_mu T.length) M (R.foldl (need T) (st0 T.length))
  have h2 := fold_mu (need_mu T) R (st0 T.length)
  have h3 : mu (st0 T.length) = 2 * T.length := by simp [mu, st0]
  unfold stR; omega
theorem stR_wt (T : List Th) (R : List V) (M : List Int) : wtB (stR T R M) 0 := by
  intro l hl
  unfold stR at hl
  rw [fold_wt (needH_wt T.length), fold_wt (need_wt T)] at hl
  simp only [st0, List.mem_replicate] at hl
  rw [hl.2]; exact Nat.le_refl _

theorem Kept.tn {ts : List Nat} {w w1 w2 : World} (h : Kept No w w1) (ht : Tn ts w.heap.size w1 w2) : Kept No w w2 := Kept.trans' h ht (fun i hi => .inr hi.1)

set_option maxRecDepth 20000 in
set_option maxHeartbeats 8000000 in
theorem Strong_any {w : World} {tv rv mv : Value} {T : List Th} {R : List V} {M : List Int} (hT : RdT w tv T) (hR : RdV w rv R) (hM : RdI w mv M) (hn : T.length ≤ 100) (hs : ∀ t ∈ T, t.sl.length ≤ 1000) (hRn : R.length ≤ 1000000) (hMn : M.length ≤ 1000000) :
    Calls Try.prog 13 #[.agg #[tv, rv], mv] w fun e w' => ∃ nb, e = .returned (SLN nb T.length) ∧ w'.heap[nb]? = some (.cells (bc (strong T R M)).toArray 4 (0, 0)) ∧ w.heap.size ≤ nb ∧ Kept No w w' := by
  have HE : Hid (Ev.mk w w.heap.size tv T).Ok := Ev.ok_of hT hn hs
  have HT : Hid (RdT w tv T) := hT
  have HR : Hid (RdV w rv R) := hR
  have HM : Hid (RdI w mv M) := hM
  obtain ⟨ta, tc, htv, _⟩ := hT
  obtain ⟨ra, rc, hrv, hrr⟩ := hR
  obtain ⟨ma, mc, hmv, hmm⟩ := hM
  subst htv hrv hmv
  have HRr : Hid (∀ W, Kept No w W → ∀ j (hj : j < R.length), ∃ b off, ra = some ⟨b, off, none⟩ ∧ W.cell? ⟨b, off + j * 2, none⟩ = some (.int .i64 R[j].1) ∧ W.cell? ⟨b, off + j * 2 + 1, none⟩ = some (.int .i64 R[j].2)) := fun W hW j hj => by
    obtain ⟨ao', cap', e, h⟩ := HR.out.no hW
    injection e with e1 e2 e3
    subst e1
    exact h j hj
  have HMm : Hid (∀ W, Kept No w W → ∀ j (hj : j < M.length), ∃ b off, ma = some ⟨b, off, none⟩ ∧ W.cell? ⟨b, off + j, none⟩ = some (.int .i64 M[j])) := fun W hW j hj => by
    obtain ⟨ao', cap', e, h⟩ := HM.out.no hW
    injection e with e1 e2 e3
    subst e1
    exact h j hj
  clear hrr hmm
  obtain ⟨W, HWd⟩ : ∃ W, Hid (W = w.alloc (.cells #[.slice ta T.length tc, .slice ra R.length rc] 25)) := ⟨_, rfl⟩
  have HK : Hid (Kept No w W) := by show Kept _ _ _; rw [HWd.out]; exact (Kept.refl _ _).alloc _
  have HB : Hid (W.heap[w.heap.size]? = some (.cells #[.slice ta T.length tc, .slice ra R.length rc] 25 (0, 0))) := by show _ = _; rw [HWd.out]; exact World.alloc_heap_new w _
  have g0 : W.cell? ⟨w.heap.size, 0, none⟩ = some (.slice ta T.length tc) := by rw [cell_of HB.out]; rfl
  have hbl : Below w.heap.size w W := HK.out.below (Nat.le_refl _) (fun _ e => e.elim)
  have HNw : Hid _ := newWalk_any HE.out (w := W) hbl
  dsimp only at HNw
  clear hbl
  go_enter Try.func13, Try.ntmps13
  go_wp2_with (first | rw [← HWd.out])
  refine Calls.mono HNw.out ?_
  rintro e W1 ⟨c, nb, wb, kb, rfl, hw1, hk1⟩
  have HW1 : Hid (Wk ⟨w, w.heap.size, .slice ta T.length tc, T⟩ c nb wb kb W1 (st0 T.length)) := hw1
  have HK1 : Hid (Kept No w W1) := HK.out.trans hk1
  have hb1 := hk1.heap HB.out id
  have g1 : W1.cell? ⟨w.heap.size, 1, none⟩ = some (.slice ra R.length rc) := by rw [cell_of hb1]; rfl
  clear hw1 hk1 hb1 g0 HB HNw HK HWd
  go_wp2_with fail
  go_loopw [16, 7, 18, 19, 20, 21, 22, 23] (fun i _ _ _ _ _ _ _ wr => ∃ j : Nat, j ≤ R.length ∧ i = .int .i64 j ∧ Hid (Wk ⟨w, w.heap.size, .slice ta T.length tc, T⟩ c nb wb kb wr ((R.take j).foldl (need T) (st0 T.length)) ∧ Kept No w wr)) (fun i _ _ _ _ _ _ _ _ => R.length - (intOf i).toNat)
  case atStart => exact ⟨0, by omega, rfl, by simpa using HW1.out, HK1.out⟩
  case round =>
    obtain ⟨j, hj, rfl, HJ⟩ := hrel
    by_cases hlt : j < R.length
    · have k1 : (j : Int) < (R.length : Int) := by omega
      obtain ⟨b, off, rfl, r0, r1⟩ := HRr.out wr HJ.out.2 j hlt
      obtain ⟨x, hx⟩ : ∃ x, R[j] = x := ⟨_, rfl⟩
      have HFs : Hid ((R.take (j + 1)).foldl (need T) (st0 T.length) = need T ((R.take j).foldl (need T) (st0 T.length)) x) := by
        show _ = _
        rw [foldl_take_succ _ _ _ _ hlt, hx]
      rw [hx] at r0 r1
      obtain ⟨x1, x2⟩ := x
      dsimp only at r0 r1
      clear hx
      have HA : Hid (∀ o, Wk ⟨w, w.heap.size, .slice ta T.length tc, T⟩ c nb wb kb (wr.alloc o) ((R.take j).foldl (need T) (st0 T.length))) := fun o => HJ.out.1.no HE.out ((Kept.refl _ _).alloc _)
      go_wp2_with fail
      go_at_call 28
      refine (need_any HE.out (HA.out _) (x1, x2)).mono ?_
      rintro e w2 ⟨⟨v, rfl⟩, h2, h3⟩
      have HD : Hid (Wk ⟨w, w.heap.size, .slice ta T.length tc, T⟩ c nb wb kb w2 ((R.take (j + 1)).foldl (need T) (st0 T.length)) ∧ Kept No w w2) := by
        refine ⟨by rw [HFs.out]; exact h2, (HJ.out.2.alloc _).tn h3⟩
      clear h2 h3 HJ HA HFs r0 r1
      go_wp2
      go_roundw
      case rel => exact ⟨j + 1, by omega, by go_num, HD.out⟩
      case measure => simp [intOf]; omega
    · have k1 : ¬ (j : Int) < (R.length : Int) := by omega
      obtain rfl : j = R.length := by omega
      rw [List.take_length] at HJ
      clear HRr HW1 HK1 g1
      go_wp2_with fail
      go_loopw [26, 9, 28, 29, 30, 31, 32, 33] (fun i _ _ _ _ _ _ _ wr => ∃ j : Nat, j ≤ M.length ∧ i = .int .i64 j ∧ Hid (Wk ⟨w, w.heap.size, .slice ta T.length tc, T⟩ c nb wb kb wr ((M.take j).foldl (needH T.length) (R.foldl (need T) (st0 T.length))) ∧ Kept No w wr)) (fun i _ _ _ _ _ _ _ _ => M.length - (intOf i).toNat)
      case atStart => exact ⟨0, by omega, rfl, by simpa using HJ.out.1, HJ.out.2⟩
      case round =>
        clear HJ
        obtain ⟨j, hj, rfl, HJ⟩ := hrel
        by_cases hlt : j < M.length
        · have k1 : (j : Int) < (M.length : Int) := by omega
          obtain ⟨b, off, rfl, r0⟩ := HMm.out wr HJ.out.2 j hlt
          obtain ⟨x, hx⟩ : ∃ x, M[j] = x := ⟨_, rfl⟩
          have HFs : Hid ((M.take (j + 1)).foldl (needH T.length) (R.foldl (need T) (st0 T.length)) = needH T.length ((M.take j).foldl (needH T.length) (R.foldl (need T) (st0 T.length))) x) := by
            show _ = _
            rw [foldl_take_succ _ _ _ _ hlt, hx]
          rw [hx] at r0
          clear hx
          go_wp2_with fail
          go_at_call 29
          refine (needHandle_any HE.out HJ.out.1 x).mono ?_
          rintro e w2 ⟨⟨v, rfl⟩, h2, h3⟩
          have HD : Hid (Wk ⟨w, w.heap.size, .slice ta T.length tc, T⟩ c nb wb kb w2 ((M.take (j + 1)).foldl (needH T.length) (R.foldl (need T) (st0 T.length))) ∧ Kept No w w2) := by
            refine ⟨by rw [HFs.out]; exact h2, HJ.out.2.tn h3⟩
          clear h2 h3 HJ HFs r0
          go_wp2
          go_roundw
          case rel => exact ⟨j + 1, by omega, by go_num, HD.out⟩
          case measure => simp [intOf]; omega
        · have k1 : ¬ (j : Int) < (M.length : Int) := by omega
          obtain rfl : j = M.length := by omega
          rw [List.take_length] at HJ
          clear HMm
          go_wp2_with fail
          go_at_call 30
          refine (goOn_any HE.out HJ.out.1 (stR_wt T R M) (2 * T.length + 1) (stR_mu T R M) (by omega)).mono ?_
          rintro e w2 ⟨⟨v, rfl⟩, h2, h3⟩
          have HD : Hid (w2.heap[nb]? = some (.cells (bc (strong T R M)).toArray 4 (0, 0)) ∧ w.heap.size ≤ nb ∧ Kept No w w2) := ⟨h2.nn, h2.bn, HJ.out.2.tn h3⟩
          have g2 := h2.cells.2.1
          dsimp only at g2
          clear h2 h3 HJ
          go_wp2
          go_ret
          exact ⟨nb, rfl, HD.out⟩
end Go.Proofs.Ytnofmpbdfcolfaa
