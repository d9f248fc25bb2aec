/- cleared. -/
import Derived.Test.YtnofmpbdfcolfaaC2
namespace Go.Proofs.Ytnofmpbdfcolfaa
open Go.RowKit Go.Shelf
set_option linter.unusedSimpArgs false
set_option linter.unusedVariables false
attribute [local go_sem] Oper.semAt_some

/-- The entries of a thing that go. -/
def clrOf (T : List Th) (first live : List Bool) (i : Nat) : List V :=
  if live.getD i false && isWk (thAt T i) then clrJ T (if first.getD i false then first else live) live (thAt T i) i (vals (thAt T i)).length else []
def clrTo (T : List Th) (first live : List Bool) : Nat → List V
  | 0 => []
  | i + 1 => clrTo T first live i ++ clrOf T first live i
theorem clrOf_len (T : List Th) (first live : List Bool) (i : Nat) (h : (thAt T i).sl.length ≤ 1000) : (clrOf T first live i).length ≤ 1000 := by
  unfold clrOf
  split
  · have := clrJ_len T (if first.getD i false then first else live) live (thAt T i) i (vals (thAt T i)).length
    have := vals_len (thAt T i)
    omega
  · simp
theorem clrTo_len (T : List Th) (first live : List Bool) (h : ∀ i, (thAt T i).sl.length ≤ 1000) : ∀ i, (clrTo T first live i).length ≤ 1000 * i
  | 0 => by simp [clrTo]
  | i + 1 => by
    have h1 := clrTo_len T first live h i
    have h2 := clrOf_len T first live i (h i)
    simp only [clrTo, List.length_append]; omega

set_option maxRecDepth 100000 in
set_option maxHeartbeats 8000000 in
theorem cleared_any {w : World} {tv fv lv : Value} {T : List Th} {first live : List Bool} (hT : RdT w tv T) (hn : T.length ≤ 100) (hs : ∀ t ∈ T, t.sl.length ≤ 1000) (hF : RdB w fv first) (hL : RdB w lv live) (hfl : first.length = T.length) (hll : live.length = T.length) :
    Calls Try.prog 37 #[tv, fv, lv] w fun e w' => ∃ ev, e = .returned ev ∧ EnRow w' w.heap.size ev (clrTo T first live T.length) ∧ Kept No w w' := by
  have HT : Hid (RdT w tv T) := hT
  have HF : Hid (RdB w fv first) := hF
  have HL : Hid (RdB w lv live) := hL
  have HS : Hid (∀ t ∈ T, t.sl.length ≤ 1000) := hs
  obtain ⟨ta, tc, rfl, _⟩ := hT
  obtain ⟨fb, rfl, hfb⟩ := hF
  obtain ⟨lb, rfl, hlb⟩ := hL
  have hFb : Hid (w.heap[fb]? = some (.cells (bc first).toArray 4 (0, 0))) := hfb
  have hLb : Hid (w.heap[lb]? = some (.cells (bc live).toArray 4 (0, 0))) := hlb
  clear hfb hlb
  rw [hfl] at HF ⊢
  rw [hll] at HL ⊢
  have HFl : Hid (first.length = T.length) := hfl
  have HLl : Hid (live.length = T.length) := hll
  clear hfl hll
  obtain ⟨W, HWd⟩ : ∃ W, Hid (W = ((w.alloc (.cells #[.slice ta T.length tc] 22)).alloc (.cells #[SLN lb T.length] 30)).alloc (.cells #[.slice none 0 0] 35)) := ⟨_, rfl⟩
  have HC0 : Hid (CL w (.slice ta T.length tc) (SLN lb T.length) (clrTo T first live 0) [] W) := by
    refine ⟨?_, ?_, ?_, ⟨.slice none 0 0, ?_, EnRow.nil _ _⟩, Marks.nil _ _⟩
    · rw [HWd.out]; exact (((Kept.refl _ _).alloc _).alloc _).alloc _
    · rw [HWd.out]; exact (Below.heap_alloc _ _ _ (by simp; omega)).trans ((Below.heap_alloc _ _ _ (by simp)).trans (World.alloc_heap_new w _))
    · rw [HWd.out]; refine (Below.heap_alloc _ _ _ (by simp)).trans ?_; have := World.alloc_heap_new (w.alloc (.cells #[.slice ta T.length tc] 22)) (.cells #[SLN lb T.length] 30); rwa [World.size_alloc] at this
    · rw [HWd.out]; have := World.alloc_heap_new ((w.alloc (.cells #[.slice ta T.length tc] 22)).alloc (.cells #[SLN lb T.length] 30)) (.cells #[.slice none 0 0] 35); rwa [World.size_alloc, World.size_alloc] at this
  have HTh : Hid (∀ j (hj : j < T.length), ∃ b off svo svc, ta = some ⟨b, off, none⟩ ∧ ∀ W', Kept No w W' → W'.cell? ⟨b, off + j * 5, none⟩ = some (.int .i64 T[j].kind) ∧ W'.cell? ⟨b, off + j * 5 + 1, none⟩ = some (.int .i64 T[j].weak) ∧
    W'.cell? ⟨b, off + j * 5 + 2, none⟩ = some (.int .i64 T[j].arr) ∧ W'.cell? ⟨b, off + j * 5 + 3, none⟩ = some (.slice svo T[j].sl.length svc) ∧ W'.cell? ⟨b, off + j * 5 + 4, none⟩ = some (.int .i64 T[j].fin) ∧ RdV W' (.slice svo T[j].sl.length svc) T[j].sl) := fun j hj => by
    obtain ⟨ao', cap', e, h⟩ := HT.out
    injection e with e1 e2 e3
    subst e1
    obtain ⟨b, off, sv, e1, h1, h2, h3, h4, h5, h6⟩ := h j hj
    have h66 := h6
    obtain ⟨sa, sc, rfl, h7⟩ := h6
    refine ⟨b, off, sa, sc, e1, fun W' hk => ?_⟩
    have hb : b < w.heap.size := by
      rcases Nat.lt_or_ge b w.heap.size with hb | hb
      · exact hb
      · simp [World.cell?, Array.getElem?_eq_none hb] at h1
    have e3 : ∀ o, W'.cell? ⟨b, o, none⟩ = w.cell? ⟨b, o, none⟩ := fun o => World.cell?_of_block (hk.block b hb id)
    exact ⟨by rw [e3]; exact h1, by rw [e3]; exact h2, by rw [e3]; exact h3, by rw [e3]; exact h4, by rw [e3]; exact h5, h66.no hk⟩
  have HLc : Hid (∀ W', Kept No w W' → ∀ j, j < T.length → W'.cell? ⟨lb, j, none⟩ = some (.bool (live.getD j true))) := fun W' hk j hj => by
    rw [cell_of (hk.heap hLb.out id)]; exact bc_get _ _ (by rw [HLl.out]; exact hj)
  have HFc : Hid (∀ W', Kept No w W' → ∀ j, j < T.length → W'.cell? ⟨fb, j, none⟩ = some (.bool (first.getD j true))) := fun W' hk j hj => by
    rw [cell_of (hk.heap hFb.out id)]; exact bc_get _ _ (by rw [HFl.out]; exact hj)
  have g0 : W.cell? ⟨w.heap.size, 0, none⟩ = some (.slice ta T.length tc) := by rw [cell_of HC0.out.b0]; rfl
  obtain ⟨rr, HRr⟩ : ∃ rr, Hid (clrTo T first live T.length = rr) := ⟨_, rfl⟩
  rw [HRr.out]
  refine (callsIn_wide (n := 6)).1 ?_
  refine callsIn_of_wp_marks Try.func37 rfl trivial ?_ rfl
  simp only [Try.ntmps37, List.size_toArray, List.length_cons, List.length_nil, Nat.reduceAdd, Nat.reduceSub, Array.replicate_succ, Array.replicate_zero, List.push_toArray, List.append_toArray, List.nil_append, List.cons_append]
  gi_wp2_with (first | rw [← HWd.out])
  refine wpIn_loop (fun a wr => ∃ (i : Nat) (Ds : List Nat) (u8 u9 u10 u11 u12 u16 u17 u18 u19 u20 u21 u22 u23 u24 u25 u26 u27 u28 u29 u30 u31 u32 u33 u34 u35 u36 u37 u38 u39 u40 u41 u42 u43 u44 u45 u46 u47 u48 u49 u50 u51 u52 u53 u54 u55 u56 u57 u58 u59 u60 u61 u62 u63 u64 u65 u66 u67 u68 : Value), a = { tmps := (.slice ta T.length tc :: SLN fb T.length :: SLN lb T.length :: PT w.heap.size :: undef :: PT (w.heap.size + 1) :: .slice none 0 0 :: PT (w.heap.size + 1 + 1) :: u8 :: u9 :: u10 :: u11 :: u12 :: .slice ta T.length tc :: .int .i64 (T.length : Int) :: .int .i64 (i : Int) :: u16 :: u17 :: u18 :: u19 :: u20 :: u21 :: u22 :: u23 :: u24 :: u25 :: u26 :: u27 :: u28 :: u29 :: u30 :: u31 :: u32 :: u33 :: u34 :: u35 :: u36 :: u37 :: u38 :: u39 :: u40 :: u41 :: u42 :: u43 :: u44 :: u45 :: u46 :: u47 :: u48 :: u49 :: u50 :: u51 :: u52 :: u53 :: u54 :: u55 :: u56 :: u57 :: u58 :: u59 :: u60 :: u61 :: u62 :: u63 :: u64 :: u65 :: u66 :: u67 :: u68 :: []).toArray, defers := Ds.map mrk } ∧ i ≤ T.length ∧ Hid (CL w (.slice ta T.length tc) (SLN lb T.length) (clrTo T first live i) Ds wr)) (fun a _ => T.length - (intOf (a.tmps.getD 15 undef)).toNat) ?start ?round
  case start => exact ⟨0, [], _, _, _, _, _, _, _, _, _, _, _, _, _, _, _, _, _, _, _, _, _, _, _, _, _, _, _, _, _, _, _, _, _, _, _, _, _, _, _, _, _, _, _, _, _, _, _, _, _, _, _, _, _, _, _, _, _, _, rfl, by omega, HC0.out⟩
  case round =>
    rintro a wr ⟨i, Ds, u8, u9, u10, u11, u12, u16, u17, u18, u19, u20, u21, u22, u23, u24, u25, u26, u27, u28, u29, u30, u31, u32, u33, u34, u35, u36, u37, u38, u39, u40, u41, u42, u43, u44, u45, u46, u47, u48, u49, u50, u51, u52, u53, u54, u55, u56, u57, u58, u59, u60, u61, u62, u63, u64, u65, u66, u67, u68, rfl, hi, HC⟩
    by_cases hlt : i < T.length
    · have k1 : (i : Int) < (T.length : Int) := by omega
      obtain ⟨b, off, svo, svc, rfl, hthc⟩ := HTh.out i hlt
      obtain ⟨r0, r1, r2, r3, r4, -⟩ := hthc wr HC.out.kp
      have HRd : Hid (∀ W', Kept No w W' → RdV W' (.slice svo T[i].sl.length svc) T[i].sl) := fun W' hk => (hthc W' hk).2.2.2.2.2
      have hsl := HS.out T[i] (List.getElem_mem hlt)
      have hth : thAt T i = T[i] := by unfold thAt; simp only [List.getD, List.getElem?_eq_getElem hlt, Option.getD_some]
      have HOf : Hid (clrOf T first live i = if live.getD i false && isWk T[i] then clrJ T (if first.getD i false then first else live) live T[i] i (vals T[i]).length else []) := by show _ = _; unfold clrOf; rw [hth]
      have HTo : Hid (clrTo T first live (i + 1) = clrTo T first live i ++ clrOf T first live i) := by show _ = _; rfl
      have e1 : live.getD i false = live.getD i true := by
        have : i < live.length := by rw [HLl.out]; exact hlt
        simp [List.getD, this]
      have e2 : first.getD i false = first.getD i true := by
        have : i < first.length := by rw [HFl.out]; exact hlt
        simp [List.getD, this]
      rw [e1, e2] at HOf
      clear hthc hth e1 e2
      generalize T[i] = tt at r0 r1 r2 r3 r4 HRd hsl HOf
      obtain ⟨lnt, hlnt⟩ : ∃ lnt, tt.sl.length = lnt := ⟨_, rfl⟩
      rw [hlnt] at r3 HRd
      obtain ⟨Wa, HWa⟩ : ∃ Wa, Hid (Wa = (wr.alloc (.cells #[.int .i64 (i : Int)] 3)).alloc (.cells #[.int .i64 tt.kind, .int .i64 tt.weak, .int .i64 tt.arr, .slice svo lnt svc, .int .i64 tt.fin] 43)) := ⟨_, rfl⟩
      have hka : Kept No wr Wa := by rw [HWa.out]; exact ((Kept.refl _ _).alloc _).alloc _
      have HVa : Hid (Wa.heap[wr.heap.size]? = some (.cells #[.int .i64 (i : Int)] 3 (0, 0)) ∧ Wa.heap[wr.heap.size + 1]? = some (.cells #[.int .i64 tt.kind, .int .i64 tt.weak, .int .i64 tt.arr, .slice svo lnt svc, .int .i64 tt.fin] 43 (0, 0))) := by
        refine ⟨?_, ?_⟩
        · rw [HWa.out]; exact (Below.heap_alloc _ _ _ (by simp)).trans (World.alloc_heap_new wr _)
        · rw [HWa.out]; have := World.alloc_heap_new (wr.alloc (.cells #[.int .i64 (i : Int)] 3)) (.cells #[.int .i64 tt.kind, .int .i64 tt.weak, .int .i64 tt.arr, .slice svo lnt svc, .int .i64 tt.fin] 43); rwa [World.size_alloc] at this
      have HCa : Hid (CL w (.slice (some ⟨b, off, none⟩) T.length tc) (SLN lb T.length) (clrTo T first live i) Ds Wa) := HC.out.no hka
      have HRa : Hid (RdV w (.slice svo lnt svc) tt.sl ∨ True) := .inr trivial
      have a0 : Wa.cell? ⟨wr.heap.size, 0, none⟩ = some (.int .i64 (i : Int)) := by rw [cell_of HVa.out.1]; rfl
      have a1 : Wa.cell? ⟨w.heap.size + 1, 0, none⟩ = some (SLN lb T.length) := by rw [cell_of HCa.out.b1]; rfl
      have a2 := HLc.out Wa HCa.out.kp i hlt
      obtain ⟨d0, d1, d2, d3, d4⟩ := th_cells HVa.out.2
      have hii : i < T.length := hlt
      obtain ⟨bl, HBl⟩ : ∃ bl, Hid (live.getD i true = bl) := ⟨_, rfl⟩
      rw [HBl.out] at a2 HOf
      have HNo : Hid (clrOf T first live i = [] → ∀ W2, Kept No Wa W2 → CL w (.slice (some ⟨b, off, none⟩) T.length tc) (SLN lb T.length) (clrTo T first live (i + 1)) Ds W2) := fun h W2 hk => by
        rw [HTo.out, h, List.append_nil]; exact HCa.out.no hk
      have HWt : Hid (Calls Try.prog 51 #[AT tt (.slice svo lnt svc)] Wa fun e w' => e = .returned (.bool (isWk tt)) ∧ Kept No Wa w') := isWeak_any tt _ rfl Wa
      cases bl
      case false =>
        have hno := HNo.out (by rw [HOf.out]; simp) Wa (Kept.refl _ _)
        have HNo2 : Hid _ := hno
        clear HNo hno HWt HOf HTo
        gi_wp2_with (first | rw [← HWa.out])
        refine ⟨trivial, ?_⟩
        gi_wp2
        refine ⟨⟨i + 1, Ds, _, _, _, _, _, _, _, _, _, _, _, _, _, _, _, _, _, _, _, _, _, _, _, _, _, _, _, _, _, _, _, _, _, _, _, _, _, _, _, _, _, _, _, _, _, _, _, _, _, _, _, _, _, _, _, _, _, _, rfl, by omega, HNo2.out⟩, ?_⟩
        simp [intOf]; omega
      case true =>
        obtain ⟨wk, HWk⟩ : ∃ wk, Hid (isWk tt = wk) := ⟨_, rfl⟩
        rw [HWk.out] at HWt HOf
        gi_wp2_with (first | rw [← HWa.out])
        refine ⟨trivial, ?_⟩
        refine (callsIn_wide.2 HWt.out).mono ?_
        rintro e Wb ⟨rfl, hkb⟩
        cases wk
        case false =>
          have hno := HNo.out (by rw [HOf.out]; simp) Wb hkb
          have HNo2 : Hid _ := hno
          clear HNo hno HWt HOf HTo hkb
          gi_wp2
          refine ⟨⟨i + 1, Ds, _, _, _, _, _, _, _, _, _, _, _, _, _, _, _, _, _, _, _, _, _, _, _, _, _, _, _, _, _, _, _, _, _, _, _, _, _, _, _, _, _, _, _, _, _, _, _, _, _, _, _, _, _, _, _, _, _, _, rfl, by omega, HNo2.out⟩, ?_⟩
          simp [intOf]; omega
        case true =>
          have HCb : Hid (CL w (.slice (some ⟨b, off, none⟩) T.length tc) (SLN lb T.length) (clrTo T first live i) Ds Wb) := HCa.out.no hkb
          have HVb : Hid (Wb.heap[wr.heap.size]? = some (.cells #[.int .i64 (i : Int)] 3 (0, 0)) ∧ Wb.heap[wr.heap.size + 1]? = some (.cells #[.int .i64 tt.kind, .int .i64 tt.weak, .int .i64 tt.arr, .slice svo lnt svc, .int .i64 tt.fin] 43 (0, 0))) := ⟨hkb.heap HVa.out.1 id, hkb.heap HVa.out.2 id⟩
          have HKo : Hid (∀ o, Kept No Wb (Wb.alloc o)) := fun o => (Kept.refl _ _).alloc _
          have p1 : Wb.cell? ⟨w.heap.size + 1, 0, none⟩ = some (SLN lb T.length) := by rw [cell_of HCb.out.b1]; rfl
          have p0 : ∀ o, (Wb.alloc o).cell? ⟨wr.heap.size, 0, none⟩ = some (.int .i64 (i : Int)) := fun o => by rw [cell_of ((HKo.out o).heap HVb.out.1 id)]; rfl
          have pf : ∀ o, (Wb.alloc o).cell? ⟨fb, i, none⟩ = some (.bool (first.getD i true)) := fun o => HFc.out _ (HCb.out.kp.trans (HKo.out o)) i hlt
          have q0 : ∀ o, (Wb.alloc o).cell? ⟨wr.heap.size + 1, 0, none⟩ = some (.int .i64 tt.kind) := fun o => (th_cells ((HKo.out o).heap HVb.out.2 id)).1
          have q1 : ∀ o, (Wb.alloc o).cell? ⟨wr.heap.size + 1, 1, none⟩ = some (.int .i64 tt.weak) := fun o => (th_cells ((HKo.out o).heap HVb.out.2 id)).2.1
          have q2 : ∀ o, (Wb.alloc o).cell? ⟨wr.heap.size + 1, 2, none⟩ = some (.int .i64 tt.arr) := fun o => (th_cells ((HKo.out o).heap HVb.out.2 id)).2.2.1
          have q3 : ∀ o, (Wb.alloc o).cell? ⟨wr.heap.size + 1, 3, none⟩ = some (.slice svo lnt svc) := fun o => (th_cells ((HKo.out o).heap HVb.out.2 id)).2.2.2.1
          have q4 : ∀ o, (Wb.alloc o).cell? ⟨wr.heap.size + 1, 4, none⟩ = some (.int .i64 tt.fin) := fun o => (th_cells ((HKo.out o).heap HVb.out.2 id)).2.2.2.2
          have HXb : Hid (∀ W2, Kept No w W2 → RdV W2 (.slice svo lnt svc) tt.sl) := HRd.out
          have hw3 : 1 ≤ tt.weak ∧ tt.weak ≤ 3 := by
            have := HWk.out
            unfold isWk at this
            simp only [Bool.and_eq_true, decide_eq_true_eq] at this
            exact this.2
          have HW3 : Hid (1 ≤ tt.weak ∧ tt.weak ≤ 3) := hw3
          have HSm : Hid (∀ i, (thAt T i).sl.length ≤ 1000) := fun i => by
            unfold thAt
            by_cases hi : i < T.length
            · simp only [List.getD, List.getElem?_eq_getElem hi, Option.getD_some]; exact HS.out _ (List.getElem_mem hi)
            · simp only [List.getD, List.getElem?_eq_none (Nat.le_of_not_lt hi), Option.getD_none]; simp
          obtain ⟨bf, HBf⟩ : ∃ bf, Hid (first.getD i true = bf) := ⟨_, rfl⟩
          rw [HBf.out] at pf HOf
          have HOf2 : Hid (clrTo T first live (i + 1) = clrTo T first live i ++ clrJ T (if bf then first else live) live tt i (vals tt).length) := by
            show _ = _
            rw [HTo.out, HOf.out]; simp
          have hzV : w.heap.size + 2 < wr.heap.size := by
            obtain ⟨ev, h1, _⟩ := HC.out.row
            have := hp_lt h1
            omega
          have hbV : wr.heap.size + 1 < Wb.heap.size := hp_lt HVb.out.2
          clear HNo HWt HOf HTo hka hkb hw3 a0 a1 a2 d0 d1 d2 d3 d4 r0 r1 r2 r3 r4 HC0 g0 HWd HRd HC HCa HVa HWa HRa
          cases bf
          case false =>
            gi_wp2_with (refine ⟨trivial, ?_⟩; gi_at_call 52; refine (callsIn_wide.2 (values_any tt svo lnt svc _)).mono ?_; rintro e w' ⟨rfl, rfl⟩)
            obtain ⟨W0, HW0⟩ : ∃ W0, Hid (W0 = (Wb.alloc (.cells #[SLN lb T.length] 30)).alloc (.cells #[.int .i64 tt.kind, .int .i64 tt.weak, .int .i64 tt.arr, .slice svo lnt svc, .int .i64 tt.fin] 43)) := ⟨_, rfl⟩
            have HK0 : Hid (Kept No Wb W0) := by show Kept _ _ _; rw [HW0.out]; exact ((Kept.refl _ _).alloc _).alloc _
            have HZ0 : Hid (W0.heap.size = Wb.heap.size + 2) := by show _ = _; rw [HW0.out]; simp
            have HBx : Hid (CB w W0 (.slice (some ⟨b, off, none⟩) T.length tc) (SLN lb T.length) (SLN lb T.length) (.slice svo lnt svc) tt i wr.heap.size Wb.heap.size (Wb.heap.size + 1)) := by
              refine ⟨HK0.out.heap HCb.out.b0 id, HK0.out.heap HCb.out.b1 id, HK0.out.heap HVb.out.1 id, HK0.out.heap HVb.out.2 id, ?_, ?_⟩
              · rw [HW0.out]; exact (Below.heap_alloc _ _ _ (by simp)).trans (World.alloc_heap_new Wb _)
              · rw [HW0.out]; have := World.alloc_heap_new (Wb.alloc (.cells #[SLN lb T.length] 30)) (.cells #[.int .i64 tt.kind, .int .i64 tt.weak, .int .i64 tt.arr, .slice svo lnt svc, .int .i64 tt.fin] 43); rwa [World.size_alloc] at this
            rw [← HW0.out]
            have HCR0 : Hid (CR w W0 T live live tt i (clrTo T first live i) Ds 0 W0) := by
              obtain ⟨ev, h1, h2⟩ := HCb.out.row
              refine ⟨Tn.refl _ _ _, ⟨ev, HK0.out.heap h1 id, ?_⟩, fun D hD => HK0.out.heap (HCb.out.ms.on D hD) id⟩
              have : clrJ T live live tt i 0 = [] := by unfold clrJ; simp
              rw [this, List.append_nil]; exact h2.cellsKept (fun k c e f hh => HK0.out.heap hh id)
            have HDl : Hid (∀ D ∈ Ds, D < W0.heap.size) := fun D hD => hp_lt (HK0.out.heap (HCb.out.ms.on D hD) id)
            have HRn : Hid (∀ d, Rounds Fence.wide d Try.prog 64 #[PT (Wb.heap.size + 1)] (vals tt).length (fun j W args => args = #[.int .i64 ((valAt tt j).1 : Nat), AV (valAt tt j).2]) (CR w W0 T live live tt i (clrTo T first live i) Ds)) := fun d =>
              values_rounds d (Wb.heap.size + 1) tt (.slice svo lnt svc) (by omega) _ (fun j W h => ⟨(HBx.out.tn h.tn (by simp)).v3, HXb.out W (Kept.tn (HCb.out.kp.trans HK0.out) h.tn)⟩)
            clear HW0
            refine range_iv (by decide) rfl (enters_of Try.func64 (by kernel_rfl) rfl) (vals tt).length (valAt tt) (CR w W0 T live live tt i (clrTo T first live i) Ds) (fun _ _ => False)
              (fun k W1 W2 h hl => h.loose HDl.out hl) (fun _ _ _ h _ => h.elim) HCR0.out (HRn.out _)
              (fun p V => { tmps := (.slice (some ⟨b, off, none⟩) T.length tc :: SLN fb T.length :: SLN lb T.length :: PT w.heap.size :: undef :: PT (w.heap.size + 1) :: .slice none 0 0 :: PT (w.heap.size + 1 + 1) :: PT wr.heap.size :: PT (wr.heap.size + 1) :: PT Wb.heap.size :: .int .i64 (p.1 : Int) :: PT V :: .slice (some ⟨b, off, none⟩) T.length tc :: .int .i64 (T.length : Int) :: .int .i64 (i : Int) :: .bool true :: .int .i64 (i : Int) :: .pointer (some ⟨b, off + i * 5, none⟩) :: .agg #[.int .i64 tt.kind, .int .i64 tt.weak, .int .i64 tt.arr, .slice svo lnt svc, .int .i64 tt.fin] :: SLN lb T.length :: .int .i64 (i : Int) :: .pointer (some ⟨lb, i, none⟩) :: .bool true :: .bool false :: .bool false :: .agg #[.int .i64 tt.kind, .int .i64 tt.weak, .int .i64 tt.arr, .slice svo lnt svc, .int .i64 tt.fin] :: .bool true :: .bool false :: .bool false :: SLN lb T.length :: SLN fb T.length :: .int .i64 (i : Int) :: .pointer (some ⟨fb, i, none⟩) :: .bool false :: u35 :: .agg #[.int .i64 tt.kind, .int .i64 tt.weak, .int .i64 tt.arr, .slice svo lnt svc, .int .i64 tt.fin] :: .func (.func 64) #[] #[PT (Wb.heap.size + 1)] :: .int .i64 (p.1 : Int) :: AV p.2 :: u40 :: u41 :: u42 :: u43 :: u44 :: u45 :: u46 :: u47 :: u48 :: u49 :: u50 :: u51 :: u52 :: u53 :: u54 :: u55 :: u56 :: u57 :: u58 :: u59 :: u60 :: u61 :: u62 :: u63 :: u64 :: u65 :: u66 :: u67 :: u68 :: []).toArray, defers := [] }) ?assign ?body ?done ?stop
            case assign =>
              intro l' e W' K hK
              obtain ⟨e0, e1, e2⟩ := e
              unfold boxV at hK
              gi_wp2
              exact hK
            case body =>
              rintro l' j W3 W' hI0 hI hj hl
              obtain ⟨p, hp⟩ : ∃ p, valAt tt j = p := ⟨_, rfl⟩
              have hmem : p ∈ vals tt := by
                rw [← hp]; unfold valAt
                simp only [List.getD, List.getElem?_eq_getElem hj, Option.getD_some]
                exact List.getElem_mem hj
              have hpl := vals_lt hmem
              have HSu : Hid (clrJ T live live tt i (j + 1) = clrJ T live live tt i j ++ (if clrAt T live live tt p then [((i : Int) + 1, (p.1 : Int))] else [])) := by
                show _ = _
                rw [clrJ_succ _ _ _ _ _ _ hj, hp]
              have HLn : Hid ((clrTo T first live i ++ clrJ T live live tt i j).length + 1 ≤ 1000000) := by
                show _ ≤ _
                have h1 := clrTo_len T first live HSm.out i
                have h2 := clrJ_len T live live tt i j
                have h3 := vals_len tt
                rw [List.length_append]; omega
              rw [hp] at hl ⊢
              obtain ⟨ps, k1, k2⟩ := p
              dsimp only at hpl
              unfold boxV at hl
              dsimp only at hl HSu
              have q5 : W'.heap[W3.heap.size]? = some (.cells #[.int .i64 k1, .int .i64 k2] 40 (0, 0)) := hl.cells (World.alloc_heap_new W3 _)
              generalize W3.heap.size = Vk at q5 ⊢
              have hkW : Kept No w W' := Kept.tn (HCb.out.kp.trans HK0.out) hI.tn
              have HBW : Hid _ := HBx.out.tn hI.tn (by simp)
              have hpi : (ps : Int) < (lnt : Int) := by omega
              have hpn : ps < lnt := by omega
              obtain ⟨x, hx⟩ : ∃ x, tt.sl.getD ps (0, 0) = x := ⟨_, rfl⟩
              obtain ⟨bx, ox, hxo, hxc⟩ : ∃ bx ox, svo = some ⟨bx, ox, none⟩ ∧ ∀ W1, Kept No W' W1 → W1.cell? ⟨bx, ox + ps * 2, none⟩ = some (.int .i64 x.1) ∧ W1.cell? ⟨bx, ox + ps * 2 + 1, none⟩ = some (.int .i64 x.2) := by
                obtain ⟨ao', cap', e, h⟩ := HXb.out W' hkW
                injection e with e1 e2 e3
                subst e1
                obtain ⟨bx, ox, e4, y0, y1⟩ := h ps hpl
                have ex : tt.sl[ps] = x := by rw [← hx]; simp [List.getD, hpl]
                rw [ex] at y0 y1
                refine ⟨bx, ox, e4, fun W1 hk => ?_⟩
                have hb : bx < W'.heap.size := by
                  rcases Nat.lt_or_ge bx W'.heap.size with hb | hb
                  · exact hb
                  · simp [World.cell?, Array.getElem?_eq_none hb] at y0
                have e3 : ∀ o, W1.cell? ⟨bx, o, none⟩ = W'.cell? ⟨bx, o, none⟩ := fun o => World.cell?_of_block (hk.block bx hb id)
                exact ⟨by rw [e3]; exact y0, by rw [e3]; exact y1⟩
              obtain ⟨x1, x2⟩ := x
              subst hxo
              dsimp only at hxc
              have HXc : Hid _ := hxc
              have HFx : Hid (∀ W1, Kept No W' W1 → W1.cell? ⟨w.heap.size, 0, none⟩ = some (.slice (some ⟨b, off, none⟩) T.length tc) ∧ W1.cell? ⟨w.heap.size + 1, 0, none⟩ = some (SLN lb T.length) ∧ W1.cell? ⟨wr.heap.size + 1, 1, none⟩ = some (.int .i64 tt.weak) ∧ W1.cell? ⟨wr.heap.size + 1, 3, none⟩ = some (.slice (some ⟨bx, ox, none⟩) lnt svc) ∧ W1.cell? ⟨Wb.heap.size, 0, none⟩ = some (SLN lb T.length) ∧ W1.cell? ⟨Vk, 0, none⟩ = some (.int .i64 k1) ∧ W1.cell? ⟨Vk, 1, none⟩ = some (.int .i64 k2) ∧ W1.cell? ⟨bx, ox + ps * 2, none⟩ = some (.int .i64 x1) ∧ W1.cell? ⟨bx, ox + ps * 2 + 1, none⟩ = some (.int .i64 x2)) := fun W1 hk => by
                have hv1 := th_cells (hk.heap HBW.out.v1 id)
                have hq := box_cells (hk.heap q5 id)
                exact ⟨by rw [cell_of (hk.heap HBW.out.b0 id)]; rfl, by rw [cell_of (hk.heap HBW.out.b1 id)]; rfl, hv1.2.1, hv1.2.2.2.1, by rw [cell_of (hk.heap HBW.out.v2 id)]; rfl, hq.1, hq.2, HXc.out W1 hk⟩
              obtain ⟨l1, HL1⟩ : ∃ l1, Hid (lostB T (decide (2 ≤ tt.weak)) (x1, x2) live = l1) := ⟨_, rfl⟩
              obtain ⟨l2, HL2⟩ : ∃ l2, Hid (lostB T (!decide (tt.weak = 2)) (k1, k2) live = l2) := ⟨_, rfl⟩
              have HCl : Hid (clrAt T live live tt (ps, (k1, k2)) = (l1 || l2)) := by
                show _ = _
                unfold clrAt; dsimp only; rw [hx, HL1.out, HL2.out]
              rw [HCl.out] at HSu
              have HC1 : Hid (∀ W1, Kept No W' W1 → ∀ a : Int, (!decide (a = 0)) = decide (2 ≤ tt.weak) → Calls Try.prog 53 #[.slice (some ⟨b, off, none⟩) T.length tc, .int .i64 a, AV (x1, x2), SLN lb T.length] W1 fun e w' => e = .returned (.bool l1) ∧ Kept No W' w') := fun W1 hk a ha => by
                have := lost_any (HT.out.no (hkW.trans hk)) (by omega) (HL.out.no (hkW.trans hk)) HLl.out a (x1, x2)
                rw [ha, HL1.out] at this
                exact this.mono (fun e w2 ⟨he, h2⟩ => ⟨he, hk.trans h2⟩)
              have HC2 : Hid (∀ W1, Kept No W' W1 → ∀ a : Int, (!decide (a = 0)) = !decide (tt.weak = 2) → Calls Try.prog 53 #[.slice (some ⟨b, off, none⟩) T.length tc, .int .i64 a, AV (k1, k2), SLN lb T.length] W1 fun e w' => e = .returned (.bool l2) ∧ Kept No W' w') := fun W1 hk a ha => by
                have := lost_any (HT.out.no (hkW.trans hk)) (by omega) (HL.out.no (hkW.trans hk)) HLl.out a (k1, k2)
                rw [ha, HL2.out] at this
                exact this.mono (fun e w2 ⟨he, h2⟩ => ⟨he, hk.trans h2⟩)
              have HIW : Hid (CR w W0 T live live tt i (clrTo T first live i) Ds j W') := hI
              have HNx : Hid ((l1 || l2) = false → ∀ W1, Kept No W' W1 → CR w W0 T live live tt i (clrTo T first live i) Ds (j + 1) W1) := fun h W1 hk => by
                have h0 := HIW.out.no hk
                obtain ⟨ev, h1, h2⟩ := h0.row
                exact ⟨h0.tn, ⟨ev, h1, by rw [HSu.out, h]; simpa using h2⟩, h0.mks⟩
              have HYx : Hid ((l1 || l2) = true → ∀ W1, Kept No W' W1 → ∃ eo el ec vo vl vc W6, W1.cell? ⟨w.heap.size + 1 + 1, 0, none⟩ = some (.slice eo el ec) ∧ (Builtin.append_ #[35, 35] 35 #[.slice eo el ec, .slice (some ⟨W1.heap.size, 0, none⟩) 1 1]).run Try.prog (W1.alloc (.cells #[.int .i64 ((i : Int) + 1), .int .i64 (ps : Int)] 49)) = .ok (.slice vo vl vc) W6 ∧
                  W6.cell? ⟨w.heap.size + 1 + 1, 0, none⟩ = some (.slice eo el ec) ∧ (∀ o, W6.frozen? ⟨w.heap.size + 1 + 1, o, none⟩ = false) ∧ CR w W0 T live live tt i (clrTo T first live i) Ds (j + 1) (W6.setCell ⟨w.heap.size + 1 + 1, 0, none⟩ (.slice vo vl vc)) ∧ ∀ B, Still B W1 (W6.setCell ⟨w.heap.size + 1 + 1, 0, none⟩ (.slice vo vl vc))) := fun h W1 hk =>
                (HIW.out.no hk).app HLn.out (Nat.le_trans hkW.size hk.size) ((i : Int) + 1, (ps : Int)) (by rw [HSu.out, h]; rfl)
              have HPl : Hid (∀ W1, Kept No W' W1 → W1.cell? ⟨wr.heap.size, 0, none⟩ = some (.int .i64 (i : Int))) := fun W1 hk => by rw [cell_of (hk.heap HBW.out.v0 id)]; rfl
              rcases (by have := HW3.out; omega : tt.weak = 1 ∨ tt.weak = 2 ∨ tt.weak = 3) with hw | hw | hw
              · cases l1
                case true =>
                  gi_wp2_with fail
                  refine region_quiet_round (C := fun w' => Kept No W' w') mixed (by kernel_rfl) (noDefer_spec (by kernel_rfl)) ?_ (Kept.refl _ _).drew ?_
                  · rintro ⟨a', w', h⟩; exact h
                  refine q_op (.slice (some ⟨b, off, none⟩) T.length tc) (by kernel_rfl) (fun W1 hW1 => by obtain ⟨f0, f1, f2, f3, f4, f5, f6, f7, f8⟩ := HFx.out W1 hW1; simp [go_sem, f0]) ?_
                  try simp only [Act.put, List.setIfInBounds_toArray, List.set_cons_zero, List.set_cons_succ]
                  refine q_op (.pointer (some ⟨wr.heap.size + 1, 1, none⟩)) (by kernel_rfl) (fun W1 hW1 => by simp [go_sem]) ?_
                  try simp only [Act.put, List.setIfInBounds_toArray, List.set_cons_zero, List.set_cons_succ]
                  refine q_op (.int .i64 1) (by kernel_rfl) (fun W1 hW1 => by obtain ⟨f0, f1, f2, f3, f4, f5, f6, f7, f8⟩ := HFx.out W1 hW1; simp [go_sem, f2, hw]) ?_
                  try simp only [Act.put, List.setIfInBounds_toArray, List.set_cons_zero, List.set_cons_succ]
                  refine q_op (.int .i64 0) (by kernel_rfl) (fun W1 hW1 => by simp [go_sem, and12]) ?_
                  try simp only [Act.put, List.setIfInBounds_toArray, List.set_cons_zero, List.set_cons_succ]
                  refine q_op (.pointer (some ⟨wr.heap.size + 1, 3, none⟩)) (by kernel_rfl) (fun W1 hW1 => by simp [go_sem]) ?_
                  try simp only [Act.put, List.setIfInBounds_toArray, List.set_cons_zero, List.set_cons_succ]
                  refine q_op (.slice (some ⟨bx, ox, none⟩) lnt svc) (by kernel_rfl) (fun W1 hW1 => by obtain ⟨f0, f1, f2, f3, f4, f5, f6, f7, f8⟩ := HFx.out W1 hW1; simp [go_sem, f3]) ?_
                  try simp only [Act.put, List.setIfInBounds_toArray, List.set_cons_zero, List.set_cons_succ]
                  refine q_op (.int .i64 (ps : Int)) (by kernel_rfl) (fun W1 hW1 => by simp [go_sem]) ?_
                  try simp only [Act.put, List.setIfInBounds_toArray, List.set_cons_zero, List.set_cons_succ]
                  refine q_op (.pointer (some ⟨bx, ox + ps * 2, none⟩)) (by kernel_rfl) (fun W1 hW1 => by simp [go_sem, hpi, hpn]) ?_
                  try simp only [Act.put, List.setIfInBounds_toArray, List.set_cons_zero, List.set_cons_succ]
                  refine q_op (AV (x1, x2)) (by kernel_rfl) (fun W1 hW1 => by obtain ⟨f0, f1, f2, f3, f4, f5, f6, f7, f8⟩ := HFx.out W1 hW1; simp [go_sem, f7, f8]) ?_
                  try simp only [Act.put, List.setIfInBounds_toArray, List.set_cons_zero, List.set_cons_succ]
                  refine q_op (SLN lb T.length) (by kernel_rfl) (fun W1 hW1 => by obtain ⟨f0, f1, f2, f3, f4, f5, f6, f7, f8⟩ := HFx.out W1 hW1; simp [go_sem, f4]) ?_
                  try simp only [Act.put, List.setIfInBounds_toArray, List.set_cons_zero, List.set_cons_succ]
                  refine q_call 53 #[.slice (some ⟨b, off, none⟩) T.length tc, .int .i64 0, AV (x1, x2), SLN lb T.length] (.bool true) (by kernel_rfl) (fun W1 hW1 => by simp [go_sem]) (fun W1 hW1 => HC1.out W1 hW1 0 (by rw [hw]; decide)) ?_
                  try simp only [Act.put, List.setIfInBounds_toArray, List.set_cons_zero, List.set_cons_succ]
                  refine q_op (.bool true) (by kernel_rfl) (fun W1 hW1 => by simp [go_sem]) ?_
                  try simp only [Act.put, List.setIfInBounds_toArray, List.set_cons_zero, List.set_cons_succ]
                  go_big_quiet_skip
                  try simp only [Act.put, List.setIfInBounds_toArray, List.set_cons_zero, List.set_cons_succ]
                  go_big_quiet_skip
                  try simp only [Act.put, List.setIfInBounds_toArray, List.set_cons_zero, List.set_cons_succ]
                  go_big_quiet_skip
                  try simp only [Act.put, List.setIfInBounds_toArray, List.set_cons_zero, List.set_cons_succ]
                  go_big_quiet_skip
                  try simp only [Act.put, List.setIfInBounds_toArray, List.set_cons_zero, List.set_cons_succ]
                  go_big_quiet_skip
                  try simp only [Act.put, List.setIfInBounds_toArray, List.set_cons_zero, List.set_cons_succ]
                  go_big_quiet_skip
                  try simp only [Act.put, List.setIfInBounds_toArray, List.set_cons_zero, List.set_cons_succ]
                  go_big_quiet_skip
                  try simp only [Act.put, List.setIfInBounds_toArray, List.set_cons_zero, List.set_cons_succ]
                  refine q_op (.bool true) (by kernel_rfl) (fun W1 hW1 => by simp [go_sem]) ?_
                  try simp only [Act.put, List.setIfInBounds_toArray, List.set_cons_zero, List.set_cons_succ]
                  refine wpQuiet_nil ?_
                  intro W5 H5
                  have HSt : Hid (Still W0.heap.size W' W5) := Still.of_kept H5 (fun _ e => e.elim)
                  obtain ⟨eo, el, ec, vo, vl, vc, W6, y0, y1, y2, y3, y4, y5⟩ := HYx.out rfl W5 H5
                  have HY4 : Hid _ := y4
                  have HY5 : Hid _ := HSt.out.trans (y5 W0.heap.size)
                  have y6 := HPl.out W5 H5
                  clear HNx HYx HC1 HC2 HFx H5 HPl y4 y5
                  gi_wp2_with (refine app_step rfl (.tmp 60) (.tmp 65) rfl (.slice eo el ec) (.slice (some ⟨W5.heap.size, 0, none⟩) 1 1) (.slice vo vl vc) W6 rfl rfl y1 ?_)
                  exact ⟨HY5.out, HY4.out⟩
                case false =>
                  gi_wp2_with fail
                  refine region_quiet_round (C := fun w' => Kept No W' w') mixed (by kernel_rfl) (noDefer_spec (by kernel_rfl)) ?_ (Kept.refl _ _).drew ?_
                  · rintro ⟨a', w', h⟩; exact h
                  refine q_op (.slice (some ⟨b, off, none⟩) T.length tc) (by kernel_rfl) (fun W1 hW1 => by obtain ⟨f0, f1, f2, f3, f4, f5, f6, f7, f8⟩ := HFx.out W1 hW1; simp [go_sem, f0]) ?_
                  try simp only [Act.put, List.setIfInBounds_toArray, List.set_cons_zero, List.set_cons_succ]
                  refine q_op (.pointer (some ⟨wr.heap.size + 1, 1, none⟩)) (by kernel_rfl) (fun W1 hW1 => by simp [go_sem]) ?_
                  try simp only [Act.put, List.setIfInBounds_toArray, List.set_cons_zero, List.set_cons_succ]
                  refine q_op (.int .i64 1) (by kernel_rfl) (fun W1 hW1 => by obtain ⟨f0, f1, f2, f3, f4, f5, f6, f7, f8⟩ := HFx.out W1 hW1; simp [go_sem, f2, hw]) ?_
                  try simp only [Act.put, List.setIfInBounds_toArray, List.set_cons_zero, List.set_cons_succ]
                  refine q_op (.int .i64 0) (by kernel_rfl) (fun W1 hW1 => by simp [go_sem, and12]) ?_
                  try simp only [Act.put, List.setIfInBounds_toArray, List.set_cons_zero, List.set_cons_succ]
                  refine q_op (.pointer (some ⟨wr.heap.size + 1, 3, none⟩)) (by kernel_rfl) (fun W1 hW1 => by simp [go_sem]) ?_
                  try simp only [Act.put, List.setIfInBounds_toArray, List.set_cons_zero, List.set_cons_succ]
                  refine q_op (.slice (some ⟨bx, ox, none⟩) lnt svc) (by kernel_rfl) (fun W1 hW1 => by obtain ⟨f0, f1, f2, f3, f4, f5, f6, f7, f8⟩ := HFx.out W1 hW1; simp [go_sem, f3]) ?_
                  try simp only [Act.put, List.setIfInBounds_toArray, List.set_cons_zero, List.set_cons_succ]
                  refine q_op (.int .i64 (ps : Int)) (by kernel_rfl) (fun W1 hW1 => by simp [go_sem]) ?_
                  try simp only [Act.put, List.setIfInBounds_toArray, List.set_cons_zero, List.set_cons_succ]
                  refine q_op (.pointer (some ⟨bx, ox + ps * 2, none⟩)) (by kernel_rfl) (fun W1 hW1 => by simp [go_sem, hpi, hpn]) ?_
                  try simp only [Act.put, List.setIfInBounds_toArray, List.set_cons_zero, List.set_cons_succ]
                  refine q_op (AV (x1, x2)) (by kernel_rfl) (fun W1 hW1 => by obtain ⟨f0, f1, f2, f3, f4, f5, f6, f7, f8⟩ := HFx.out W1 hW1; simp [go_sem, f7, f8]) ?_
                  try simp only [Act.put, List.setIfInBounds_toArray, List.set_cons_zero, List.set_cons_succ]
                  refine q_op (SLN lb T.length) (by kernel_rfl) (fun W1 hW1 => by obtain ⟨f0, f1, f2, f3, f4, f5, f6, f7, f8⟩ := HFx.out W1 hW1; simp [go_sem, f4]) ?_
                  try simp only [Act.put, List.setIfInBounds_toArray, List.set_cons_zero, List.set_cons_succ]
                  refine q_call 53 #[.slice (some ⟨b, off, none⟩) T.length tc, .int .i64 0, AV (x1, x2), SLN lb T.length] (.bool false) (by kernel_rfl) (fun W1 hW1 => by simp [go_sem]) (fun W1 hW1 => HC1.out W1 hW1 0 (by rw [hw]; decide)) ?_
                  try simp only [Act.put, List.setIfInBounds_toArray, List.set_cons_zero, List.set_cons_succ]
                  refine q_op (.bool false) (by kernel_rfl) (fun W1 hW1 => by simp [go_sem]) ?_
                  try simp only [Act.put, List.setIfInBounds_toArray, List.set_cons_zero, List.set_cons_succ]
                  refine q_op (.slice (some ⟨b, off, none⟩) T.length tc) (by kernel_rfl) (fun W1 hW1 => by obtain ⟨f0, f1, f2, f3, f4, f5, f6, f7, f8⟩ := HFx.out W1 hW1; simp [go_sem, f0]) ?_
                  try simp only [Act.put, List.setIfInBounds_toArray, List.set_cons_zero, List.set_cons_succ]
                  refine q_op (.pointer (some ⟨wr.heap.size + 1, 1, none⟩)) (by kernel_rfl) (fun W1 hW1 => by simp [go_sem]) ?_
                  try simp only [Act.put, List.setIfInBounds_toArray, List.set_cons_zero, List.set_cons_succ]
                  refine q_op (.int .i64 1) (by kernel_rfl) (fun W1 hW1 => by obtain ⟨f0, f1, f2, f3, f4, f5, f6, f7, f8⟩ := HFx.out W1 hW1; simp [go_sem, f2, hw]) ?_
                  try simp only [Act.put, List.setIfInBounds_toArray, List.set_cons_zero, List.set_cons_succ]
                  refine q_op (.int .i64 1) (by kernel_rfl) (fun W1 hW1 => by simp [go_sem, and11]) ?_
                  try simp only [Act.put, List.setIfInBounds_toArray, List.set_cons_zero, List.set_cons_succ]
                  refine q_op (AV (k1, k2)) (by kernel_rfl) (fun W1 hW1 => by obtain ⟨f0, f1, f2, f3, f4, f5, f6, f7, f8⟩ := HFx.out W1 hW1; simp [go_sem, f5, f6]) ?_
                  try simp only [Act.put, List.setIfInBounds_toArray, List.set_cons_zero, List.set_cons_succ]
                  refine q_op (SLN lb T.length) (by kernel_rfl) (fun W1 hW1 => by obtain ⟨f0, f1, f2, f3, f4, f5, f6, f7, f8⟩ := HFx.out W1 hW1; simp [go_sem, f1]) ?_
                  try simp only [Act.put, List.setIfInBounds_toArray, List.set_cons_zero, List.set_cons_succ]
                  refine q_call 53 #[.slice (some ⟨b, off, none⟩) T.length tc, .int .i64 1, AV (k1, k2), SLN lb T.length] (.bool l2) (by kernel_rfl) (fun W1 hW1 => by simp [go_sem]) (fun W1 hW1 => HC2.out W1 hW1 1 (by rw [hw]; decide)) ?_
                  try simp only [Act.put, List.setIfInBounds_toArray, List.set_cons_zero, List.set_cons_succ]
                  refine q_op (.bool l2) (by kernel_rfl) (fun W1 hW1 => by simp [go_sem]) ?_
                  try simp only [Act.put, List.setIfInBounds_toArray, List.set_cons_zero, List.set_cons_succ]
                  refine wpQuiet_nil ?_
                  intro W5 H5
                  have HSt : Hid (Still W0.heap.size W' W5) := Still.of_kept H5 (fun _ e => e.elim)
                  cases l2
                  case true =>
                    obtain ⟨eo, el, ec, vo, vl, vc, W6, y0, y1, y2, y3, y4, y5⟩ := HYx.out rfl W5 H5
                    have HY4 : Hid _ := y4
                    have HY5 : Hid _ := HSt.out.trans (y5 W0.heap.size)
                    have y6 := HPl.out W5 H5
                    clear HNx HYx HC1 HC2 HFx H5 HPl y4 y5
                    gi_wp2_with (refine app_step rfl (.tmp 60) (.tmp 65) rfl (.slice eo el ec) (.slice (some ⟨W5.heap.size, 0, none⟩) 1 1) (.slice vo vl vc) W6 rfl rfl y1 ?_)
                    exact ⟨HY5.out, HY4.out⟩
                  case false =>
                    have HN : Hid _ := HNx.out rfl W5 H5
                    clear HNx HYx HC1 HC2 HFx H5
                    gi_wp2
                    exact ⟨HSt.out, HN.out⟩
              · cases l1
                case true =>
                  gi_wp2_with fail
                  refine region_quiet_round (C := fun w' => Kept No W' w') mixed (by kernel_rfl) (noDefer_spec (by kernel_rfl)) ?_ (Kept.refl _ _).drew ?_
                  · rintro ⟨a', w', h⟩; exact h
                  refine q_op (.slice (some ⟨b, off, none⟩) T.length tc) (by kernel_rfl) (fun W1 hW1 => by obtain ⟨f0, f1, f2, f3, f4, f5, f6, f7, f8⟩ := HFx.out W1 hW1; simp [go_sem, f0]) ?_
                  try simp only [Act.put, List.setIfInBounds_toArray, List.set_cons_zero, List.set_cons_succ]
                  refine q_op (.pointer (some ⟨wr.heap.size + 1, 1, none⟩)) (by kernel_rfl) (fun W1 hW1 => by simp [go_sem]) ?_
                  try simp only [Act.put, List.setIfInBounds_toArray, List.set_cons_zero, List.set_cons_succ]
                  refine q_op (.int .i64 2) (by kernel_rfl) (fun W1 hW1 => by obtain ⟨f0, f1, f2, f3, f4, f5, f6, f7, f8⟩ := HFx.out W1 hW1; simp [go_sem, f2, hw]) ?_
                  try simp only [Act.put, List.setIfInBounds_toArray, List.set_cons_zero, List.set_cons_succ]
                  refine q_op (.int .i64 2) (by kernel_rfl) (fun W1 hW1 => by simp [go_sem, and22]) ?_
                  try simp only [Act.put, List.setIfInBounds_toArray, List.set_cons_zero, List.set_cons_succ]
                  refine q_op (.pointer (some ⟨wr.heap.size + 1, 3, none⟩)) (by kernel_rfl) (fun W1 hW1 => by simp [go_sem]) ?_
                  try simp only [Act.put, List.setIfInBounds_toArray, List.set_cons_zero, List.set_cons_succ]
                  refine q_op (.slice (some ⟨bx, ox, none⟩) lnt svc) (by kernel_rfl) (fun W1 hW1 => by obtain ⟨f0, f1, f2, f3, f4, f5, f6, f7, f8⟩ := HFx.out W1 hW1; simp [go_sem, f3]) ?_
                  try simp only [Act.put, List.setIfInBounds_toArray, List.set_cons_zero, List.set_cons_succ]
                  refine q_op (.int .i64 (ps : Int)) (by kernel_rfl) (fun W1 hW1 => by simp [go_sem]) ?_
                  try simp only [Act.put, List.setIfInBounds_toArray, List.set_cons_zero, List.set_cons_succ]
                  refine q_op (.pointer (some ⟨bx, ox + ps * 2, none⟩)) (by kernel_rfl) (fun W1 hW1 => by simp [go_sem, hpi, hpn]) ?_
                  try simp only [Act.put, List.setIfInBounds_toArray, List.set_cons_zero, List.set_cons_succ]
                  refine q_op (AV (x1, x2)) (by kernel_rfl) (fun W1 hW1 => by obtain ⟨f0, f1, f2, f3, f4, f5, f6, f7, f8⟩ := HFx.out W1 hW1; simp [go_sem, f7, f8]) ?_
                  try simp only [Act.put, List.setIfInBounds_toArray, List.set_cons_zero, List.set_cons_succ]
                  refine q_op (SLN lb T.length) (by kernel_rfl) (fun W1 hW1 => by obtain ⟨f0, f1, f2, f3, f4, f5, f6, f7, f8⟩ := HFx.out W1 hW1; simp [go_sem, f4]) ?_
                  try simp only [Act.put, List.setIfInBounds_toArray, List.set_cons_zero, List.set_cons_succ]
                  refine q_call 53 #[.slice (some ⟨b, off, none⟩) T.length tc, .int .i64 2, AV (x1, x2), SLN lb T.length] (.bool true) (by kernel_rfl) (fun W1 hW1 => by simp [go_sem]) (fun W1 hW1 => HC1.out W1 hW1 2 (by rw [hw]; decide)) ?_
                  try simp only [Act.put, List.setIfInBounds_toArray, List.set_cons_zero, List.set_cons_succ]
                  refine q_op (.bool true) (by kernel_rfl) (fun W1 hW1 => by simp [go_sem]) ?_
                  try simp only [Act.put, List.setIfInBounds_toArray, List.set_cons_zero, List.set_cons_succ]
                  go_big_quiet_skip
                  try simp only [Act.put, List.setIfInBounds_toArray, List.set_cons_zero, List.set_cons_succ]
                  go_big_quiet_skip
                  try simp only [Act.put, List.setIfInBounds_toArray, List.set_cons_zero, List.set_cons_succ]
                  go_big_quiet_skip
                  try simp only [Act.put, List.setIfInBounds_toArray, List.set_cons_zero, List.set_cons_succ]
                  go_big_quiet_skip
                  try simp only [Act.put, List.setIfInBounds_toArray, List.set_cons_zero, List.set_cons_succ]
                  go_big_quiet_skip
                  try simp only [Act.put, List.setIfInBounds_toArray, List.set_cons_zero, List.set_cons_succ]
                  go_big_quiet_skip
                  try simp only [Act.put, List.setIfInBounds_toArray, List.set_cons_zero, List.set_cons_succ]
                  go_big_quiet_skip
                  try simp only [Act.put, List.setIfInBounds_toArray, List.set_cons_zero, List.set_cons_succ]
                  refine q_op (.bool true) (by kernel_rfl) (fun W1 hW1 => by simp [go_sem]) ?_
                  try simp only [Act.put, List.setIfInBounds_toArray, List.set_cons_zero, List.set_cons_succ]
                  refine wpQuiet_nil ?_
                  intro W5 H5
                  have HSt : Hid (Still W0.heap.size W' W5) := Still.of_kept H5 (fun _ e => e.elim)
                  obtain ⟨eo, el, ec, vo, vl, vc, W6, y0, y1, y2, y3, y4, y5⟩ := HYx.out rfl W5 H5
                  have HY4 : Hid _ := y4
                  have HY5 : Hid _ := HSt.out.trans (y5 W0.heap.size)
                  have y6 := HPl.out W5 H5
                  clear HNx HYx HC1 HC2 HFx H5 HPl y4 y5
                  gi_wp2_with (refine app_step rfl (.tmp 60) (.tmp 65) rfl (.slice eo el ec) (.slice (some ⟨W5.heap.size, 0, none⟩) 1 1) (.slice vo vl vc) W6 rfl rfl y1 ?_)
                  exact ⟨HY5.out, HY4.out⟩
                case false =>
                  gi_wp2_with fail
                  refine region_quiet_round (C := fun w' => Kept No W' w') mixed (by kernel_rfl) (noDefer_spec (by kernel_rfl)) ?_ (Kept.refl _ _).drew ?_
                  · rintro ⟨a', w', h⟩; exact h
                  refine q_op (.slice (some ⟨b, off, none⟩) T.length tc) (by kernel_rfl) (fun W1 hW1 => by obtain ⟨f0, f1, f2, f3, f4, f5, f6, f7, f8⟩ := HFx.out W1 hW1; simp [go_sem, f0]) ?_
                  try simp only [Act.put, List.setIfInBounds_toArray, List.set_cons_zero, List.set_cons_succ]
                  refine q_op (.pointer (some ⟨wr.heap.size + 1, 1, none⟩)) (by kernel_rfl) (fun W1 hW1 => by simp [go_sem]) ?_
                  try simp only [Act.put, List.setIfInBounds_toArray, List.set_cons_zero, List.set_cons_succ]
                  refine q_op (.int .i64 2) (by kernel_rfl) (fun W1 hW1 => by obtain ⟨f0, f1, f2, f3, f4, f5, f6, f7, f8⟩ := HFx.out W1 hW1; simp [go_sem, f2, hw]) ?_
                  try simp only [Act.put, List.setIfInBounds_toArray, List.set_cons_zero, List.set_cons_succ]
                  refine q_op (.int .i64 2) (by kernel_rfl) (fun W1 hW1 => by simp [go_sem, and22]) ?_
                  try simp only [Act.put, List.setIfInBounds_toArray, List.set_cons_zero, List.set_cons_succ]
                  refine q_op (.pointer (some ⟨wr.heap.size + 1, 3, none⟩)) (by kernel_rfl) (fun W1 hW1 => by simp [go_sem]) ?_
                  try simp only [Act.put, List.setIfInBounds_toArray, List.set_cons_zero, List.set_cons_succ]
                  refine q_op (.slice (some ⟨bx, ox, none⟩) lnt svc) (by kernel_rfl) (fun W1 hW1 => by obtain ⟨f0, f1, f2, f3, f4, f5, f6, f7, f8⟩ := HFx.out W1 hW1; simp [go_sem, f3]) ?_
                  try simp only [Act.put, List.setIfInBounds_toArray, List.set_cons_zero, List.set_cons_succ]
                  refine q_op (.int .i64 (ps : Int)) (by kernel_rfl) (fun W1 hW1 => by simp [go_sem]) ?_
                  try simp only [Act.put, List.setIfInBounds_toArray, List.set_cons_zero, List.set_cons_succ]
                  refine q_op (.pointer (some ⟨bx, ox + ps * 2, none⟩)) (by kernel_rfl) (fun W1 hW1 => by simp [go_sem, hpi, hpn]) ?_
                  try simp only [Act.put, List.setIfInBounds_toArray, List.set_cons_zero, List.set_cons_succ]
                  refine q_op (AV (x1, x2)) (by kernel_rfl) (fun W1 hW1 => by obtain ⟨f0, f1, f2, f3, f4, f5, f6, f7, f8⟩ := HFx.out W1 hW1; simp [go_sem, f7, f8]) ?_
                  try simp only [Act.put, List.setIfInBounds_toArray, List.set_cons_zero, List.set_cons_succ]
                  refine q_op (SLN lb T.length) (by kernel_rfl) (fun W1 hW1 => by obtain ⟨f0, f1, f2, f3, f4, f5, f6, f7, f8⟩ := HFx.out W1 hW1; simp [go_sem, f4]) ?_
                  try simp only [Act.put, List.setIfInBounds_toArray, List.set_cons_zero, List.set_cons_succ]
                  refine q_call 53 #[.slice (some ⟨b, off, none⟩) T.length tc, .int .i64 2, AV (x1, x2), SLN lb T.length] (.bool false) (by kernel_rfl) (fun W1 hW1 => by simp [go_sem]) (fun W1 hW1 => HC1.out W1 hW1 2 (by rw [hw]; decide)) ?_
                  try simp only [Act.put, List.setIfInBounds_toArray, List.set_cons_zero, List.set_cons_succ]
                  refine q_op (.bool false) (by kernel_rfl) (fun W1 hW1 => by simp [go_sem]) ?_
                  try simp only [Act.put, List.setIfInBounds_toArray, List.set_cons_zero, List.set_cons_succ]
                  refine q_op (.slice (some ⟨b, off, none⟩) T.length tc) (by kernel_rfl) (fun W1 hW1 => by obtain ⟨f0, f1, f2, f3, f4, f5, f6, f7, f8⟩ := HFx.out W1 hW1; simp [go_sem, f0]) ?_
                  try simp only [Act.put, List.setIfInBounds_toArray, List.set_cons_zero, List.set_cons_succ]
                  refine q_op (.pointer (some ⟨wr.heap.size + 1, 1, none⟩)) (by kernel_rfl) (fun W1 hW1 => by simp [go_sem]) ?_
                  try simp only [Act.put, List.setIfInBounds_toArray, List.set_cons_zero, List.set_cons_succ]
                  refine q_op (.int .i64 2) (by kernel_rfl) (fun W1 hW1 => by obtain ⟨f0, f1, f2, f3, f4, f5, f6, f7, f8⟩ := HFx.out W1 hW1; simp [go_sem, f2, hw]) ?_
                  try simp only [Act.put, List.setIfInBounds_toArray, List.set_cons_zero, List.set_cons_succ]
                  refine q_op (.int .i64 0) (by kernel_rfl) (fun W1 hW1 => by simp [go_sem, and21]) ?_
                  try simp only [Act.put, List.setIfInBounds_toArray, List.set_cons_zero, List.set_cons_succ]
                  refine q_op (AV (k1, k2)) (by kernel_rfl) (fun W1 hW1 => by obtain ⟨f0, f1, f2, f3, f4, f5, f6, f7, f8⟩ := HFx.out W1 hW1; simp [go_sem, f5, f6]) ?_
                  try simp only [Act.put, List.setIfInBounds_toArray, List.set_cons_zero, List.set_cons_succ]
                  refine q_op (SLN lb T.length) (by kernel_rfl) (fun W1 hW1 => by obtain ⟨f0, f1, f2, f3, f4, f5, f6, f7, f8⟩ := HFx.out W1 hW1; simp [go_sem, f1]) ?_
                  try simp only [Act.put, List.setIfInBounds_toArray, List.set_cons_zero, List.set_cons_succ]
                  refine q_call 53 #[.slice (some ⟨b, off, none⟩) T.length tc, .int .i64 0, AV (k1, k2), SLN lb T.length] (.bool l2) (by kernel_rfl) (fun W1 hW1 => by simp [go_sem]) (fun W1 hW1 => HC2.out W1 hW1 0 (by rw [hw]; decide)) ?_
                  try simp only [Act.put, List.setIfInBounds_toArray, List.set_cons_zero, List.set_cons_succ]
                  refine q_op (.bool l2) (by kernel_rfl) (fun W1 hW1 => by simp [go_sem]) ?_
                  try simp only [Act.put, List.setIfInBounds_toArray, List.set_cons_zero, List.set_cons_succ]
                  refine wpQuiet_nil ?_
                  intro W5 H5
                  have HSt : Hid (Still W0.heap.size W' W5) := Still.of_kept H5 (fun _ e => e.elim)
                  cases l2
                  case true =>
                    obtain ⟨eo, el, ec, vo, vl, vc, W6, y0, y1, y2, y3, y4, y5⟩ := HYx.out rfl W5 H5
                    have HY4 : Hid _ := y4
                    have HY5 : Hid _ := HSt.out.trans (y5 W0.heap.size)
                    have y6 := HPl.out W5 H5
                    clear HNx HYx HC1 HC2 HFx H5 HPl y4 y5
                    gi_wp2_with (refine app_step rfl (.tmp 60) (.tmp 65) rfl (.slice eo el ec) (.slice (some ⟨W5.heap.size, 0, none⟩) 1 1) (.slice vo vl vc) W6 rfl rfl y1 ?_)
                    exact ⟨HY5.out, HY4.out⟩
                  case false =>
                    have HN : Hid _ := HNx.out rfl W5 H5
                    clear HNx HYx HC1 HC2 HFx H5
                    gi_wp2
                    exact ⟨HSt.out, HN.out⟩
              · cases l1
                case true =>
                  gi_wp2_with fail
                  refine region_quiet_round (C := fun w' => Kept No W' w') mixed (by kernel_rfl) (noDefer_spec (by kernel_rfl)) ?_ (Kept.refl _ _).drew ?_
                  · rintro ⟨a', w', h⟩; exact h
                  refine q_op (.slice (some ⟨b, off, none⟩) T.length tc) (by kernel_rfl) (fun W1 hW1 => by obtain ⟨f0, f1, f2, f3, f4, f5, f6, f7, f8⟩ := HFx.out W1 hW1; simp [go_sem, f0]) ?_
                  try simp only [Act.put, List.setIfInBounds_toArray, List.set_cons_zero, List.set_cons_succ]
                  refine q_op (.pointer (some ⟨wr.heap.size + 1, 1, none⟩)) (by kernel_rfl) (fun W1 hW1 => by simp [go_sem]) ?_
                  try simp only [Act.put, List.setIfInBounds_toArray, List.set_cons_zero, List.set_cons_succ]
                  refine q_op (.int .i64 3) (by kernel_rfl) (fun W1 hW1 => by obtain ⟨f0, f1, f2, f3, f4, f5, f6, f7, f8⟩ := HFx.out W1 hW1; simp [go_sem, f2, hw]) ?_
                  try simp only [Act.put, List.setIfInBounds_toArray, List.set_cons_zero, List.set_cons_succ]
                  refine q_op (.int .i64 2) (by kernel_rfl) (fun W1 hW1 => by simp [go_sem, and32]) ?_
                  try simp only [Act.put, List.setIfInBounds_toArray, List.set_cons_zero, List.set_cons_succ]
                  refine q_op (.pointer (some ⟨wr.heap.size + 1, 3, none⟩)) (by kernel_rfl) (fun W1 hW1 => by simp [go_sem]) ?_
                  try simp only [Act.put, List.setIfInBounds_toArray, List.set_cons_zero, List.set_cons_succ]
                  refine q_op (.slice (some ⟨bx, ox, none⟩) lnt svc) (by kernel_rfl) (fun W1 hW1 => by obtain ⟨f0, f1, f2, f3, f4, f5, f6, f7, f8⟩ := HFx.out W1 hW1; simp [go_sem, f3]) ?_
                  try simp only [Act.put, List.setIfInBounds_toArray, List.set_cons_zero, List.set_cons_succ]
                  refine q_op (.int .i64 (ps : Int)) (by kernel_rfl) (fun W1 hW1 => by simp [go_sem]) ?_
                  try simp only [Act.put, List.setIfInBounds_toArray, List.set_cons_zero, List.set_cons_succ]
                  refine q_op (.pointer (some ⟨bx, ox + ps * 2, none⟩)) (by kernel_rfl) (fun W1 hW1 => by simp [go_sem, hpi, hpn]) ?_
                  try simp only [Act.put, List.setIfInBounds_toArray, List.set_cons_zero, List.set_cons_succ]
                  refine q_op (AV (x1, x2)) (by kernel_rfl) (fun W1 hW1 => by obtain ⟨f0, f1, f2, f3, f4, f5, f6, f7, f8⟩ := HFx.out W1 hW1; simp [go_sem, f7, f8]) ?_
                  try simp only [Act.put, List.setIfInBounds_toArray, List.set_cons_zero, List.set_cons_succ]
                  refine q_op (SLN lb T.length) (by kernel_rfl) (fun W1 hW1 => by obtain ⟨f0, f1, f2, f3, f4, f5, f6, f7, f8⟩ := HFx.out W1 hW1; simp [go_sem, f4]) ?_
                  try simp only [Act.put, List.setIfInBounds_toArray, List.set_cons_zero, List.set_cons_succ]
                  refine q_call 53 #[.slice (some ⟨b, off, none⟩) T.length tc, .int .i64 2, AV (x1, x2), SLN lb T.length] (.bool true) (by kernel_rfl) (fun W1 hW1 => by simp [go_sem]) (fun W1 hW1 => HC1.out W1 hW1 2 (by rw [hw]; decide)) ?_
                  try simp only [Act.put, List.setIfInBounds_toArray, List.set_cons_zero, List.set_cons_succ]
                  refine q_op (.bool true) (by kernel_rfl) (fun W1 hW1 => by simp [go_sem]) ?_
                  try simp only [Act.put, List.setIfInBounds_toArray, List.set_cons_zero, List.set_cons_succ]
                  go_big_quiet_skip
                  try simp only [Act.put, List.setIfInBounds_toArray, List.set_cons_zero, List.set_cons_succ]
                  go_big_quiet_skip
                  try simp only [Act.put, List.setIfInBounds_toArray, List.set_cons_zero, List.set_cons_succ]
                  go_big_quiet_skip
                  try simp only [Act.put, List.setIfInBounds_toArray, List.set_cons_zero, List.set_cons_succ]
                  go_big_quiet_skip
                  try simp only [Act.put, List.setIfInBounds_toArray, List.set_cons_zero, List.set_cons_succ]
                  go_big_quiet_skip
                  try simp only [Act.put, List.setIfInBounds_toArray, List.set_cons_zero, List.set_cons_succ]
                  go_big_quiet_skip
                  try simp only [Act.put, List.setIfInBounds_toArray, List.set_cons_zero, List.set_cons_succ]
                  go_big_quiet_skip
                  try simp only [Act.put, List.setIfInBounds_toArray, List.set_cons_zero, List.set_cons_succ]
                  refine q_op (.bool true) (by kernel_rfl) (fun W1 hW1 => by simp [go_sem]) ?_
                  try simp only [Act.put, List.setIfInBounds_toArray, List.set_cons_zero, List.set_cons_succ]
                  refine wpQuiet_nil ?_
                  intro W5 H5
                  have HSt : Hid (Still W0.heap.size W' W5) := Still.of_kept H5 (fun _ e => e.elim)
                  obtain ⟨eo, el, ec, vo, vl, vc, W6, y0, y1, y2, y3, y4, y5⟩ := HYx.out rfl W5 H5
                  have HY4 : Hid _ := y4
                  have HY5 : Hid _ := HSt.out.trans (y5 W0.heap.size)
                  have y6 := HPl.out W5 H5
                  clear HNx HYx HC1 HC2 HFx H5 HPl y4 y5
                  gi_wp2_with (refine app_step rfl (.tmp 60) (.tmp 65) rfl (.slice eo el ec) (.slice (some ⟨W5.heap.size, 0, none⟩) 1 1) (.slice vo vl vc) W6 rfl rfl y1 ?_)
                  exact ⟨HY5.out, HY4.out⟩
                case false =>
                  gi_wp2_with fail
                  refine region_quiet_round (C := fun w' => Kept No W' w') mixed (by kernel_rfl) (noDefer_spec (by kernel_rfl)) ?_ (Kept.refl _ _).drew ?_
                  · rintro ⟨a', w', h⟩; exact h
                  refine q_op (.slice (some ⟨b, off, none⟩) T.length tc) (by kernel_rfl) (fun W1 hW1 => by obtain ⟨f0, f1, f2, f3, f4, f5, f6, f7, f8⟩ := HFx.out W1 hW1; simp [go_sem, f0]) ?_
                  try simp only [Act.put, List.setIfInBounds_toArray, List.set_cons_zero, List.set_cons_succ]
                  refine q_op (.pointer (some ⟨wr.heap.size + 1, 1, none⟩)) (by kernel_rfl) (fun W1 hW1 => by simp [go_sem]) ?_
                  try simp only [Act.put, List.setIfInBounds_toArray, List.set_cons_zero, List.set_cons_succ]
                  refine q_op (.int .i64 3) (by kernel_rfl) (fun W1 hW1 => by obtain ⟨f0, f1, f2, f3, f4, f5, f6, f7, f8⟩ := HFx.out W1 hW1; simp [go_sem, f2, hw]) ?_
                  try simp only [Act.put, List.setIfInBounds_toArray, List.set_cons_zero, List.set_cons_succ]
                  refine q_op (.int .i64 2) (by kernel_rfl) (fun W1 hW1 => by simp [go_sem, and32]) ?_
                  try simp only [Act.put, List.setIfInBounds_toArray, List.set_cons_zero, List.set_cons_succ]
                  refine q_op (.pointer (some ⟨wr.heap.size + 1, 3, none⟩)) (by kernel_rfl) (fun W1 hW1 => by simp [go_sem]) ?_
                  try simp only [Act.put, List.setIfInBounds_toArray, List.set_cons_zero, List.set_cons_succ]
                  refine q_op (.slice (some ⟨bx, ox, none⟩) lnt svc) (by kernel_rfl) (fun W1 hW1 => by obtain ⟨f0, f1, f2, f3, f4, f5, f6, f7, f8⟩ := HFx.out W1 hW1; simp [go_sem, f3]) ?_
                  try simp only [Act.put, List.setIfInBounds_toArray, List.set_cons_zero, List.set_cons_succ]
                  refine q_op (.int .i64 (ps : Int)) (by kernel_rfl) (fun W1 hW1 => by simp [go_sem]) ?_
                  try simp only [Act.put, List.setIfInBounds_toArray, List.set_cons_zero, List.set_cons_succ]
                  refine q_op (.pointer (some ⟨bx, ox + ps * 2, none⟩)) (by kernel_rfl) (fun W1 hW1 => by simp [go_sem, hpi, hpn]) ?_
                  try simp only [Act.put, List.setIfInBounds_toArray, List.set_cons_zero, List.set_cons_succ]
                  refine q_op (AV (x1, x2)) (by kernel_rfl) (fun W1 hW1 => by obtain ⟨f0, f1, f2, f3, f4, f5, f6, f7, f8⟩ := HFx.out W1 hW1; simp [go_sem, f7, f8]) ?_
                  try simp only [Act.put, List.setIfInBounds_toArray, List.set_cons_zero, List.set_cons_succ]
                  refine q_op (SLN lb T.length) (by kernel_rfl) (fun W1 hW1 => by obtain ⟨f0, f1, f2, f3, f4, f5, f6, f7, f8⟩ := HFx.out W1 hW1; simp [go_sem, f4]) ?_
                  try simp only [Act.put, List.setIfInBounds_toArray, List.set_cons_zero, List.set_cons_succ]
                  refine q_call 53 #[.slice (some ⟨b, off, none⟩) T.length tc, .int .i64 2, AV (x1, x2), SLN lb T.length] (.bool false) (by kernel_rfl) (fun W1 hW1 => by simp [go_sem]) (fun W1 hW1 => HC1.out W1 hW1 2 (by rw [hw]; decide)) ?_
                  try simp only [Act.put, List.setIfInBounds_toArray, List.set_cons_zero, List.set_cons_succ]
                  refine q_op (.bool false) (by kernel_rfl) (fun W1 hW1 => by simp [go_sem]) ?_
                  try simp only [Act.put, List.setIfInBounds_toArray, List.set_cons_zero, List.set_cons_succ]
                  refine q_op (.slice (some ⟨b, off, none⟩) T.length tc) (by kernel_rfl) (fun W1 hW1 => by obtain ⟨f0, f1, f2, f3, f4, f5, f6, f7, f8⟩ := HFx.out W1 hW1; simp [go_sem, f0]) ?_
                  try simp only [Act.put, List.setIfInBounds_toArray, List.set_cons_zero, List.set_cons_succ]
                  refine q_op (.pointer (some ⟨wr.heap.size + 1, 1, none⟩)) (by kernel_rfl) (fun W1 hW1 => by simp [go_sem]) ?_
                  try simp only [Act.put, List.setIfInBounds_toArray, List.set_cons_zero, List.set_cons_succ]
                  refine q_op (.int .i64 3) (by kernel_rfl) (fun W1 hW1 => by obtain ⟨f0, f1, f2, f3, f4, f5, f6, f7, f8⟩ := HFx.out W1 hW1; simp [go_sem, f2, hw]) ?_
                  try simp only [Act.put, List.setIfInBounds_toArray, List.set_cons_zero, List.set_cons_succ]
                  refine q_op (.int .i64 1) (by kernel_rfl) (fun W1 hW1 => by simp [go_sem, and31]) ?_
                  try simp only [Act.put, List.setIfInBounds_toArray, List.set_cons_zero, List.set_cons_succ]
                  refine q_op (AV (k1, k2)) (by kernel_rfl) (fun W1 hW1 => by obtain ⟨f0, f1, f2, f3, f4, f5, f6, f7, f8⟩ := HFx.out W1 hW1; simp [go_sem, f5, f6]) ?_
                  try simp only [Act.put, List.setIfInBounds_toArray, List.set_cons_zero, List.set_cons_succ]
                  refine q_op (SLN lb T.length) (by kernel_rfl) (fun W1 hW1 => by obtain ⟨f0, f1, f2, f3, f4, f5, f6, f7, f8⟩ := HFx.out W1 hW1; simp [go_sem, f1]) ?_
                  try simp only [Act.put, List.setIfInBounds_toArray, List.set_cons_zero, List.set_cons_succ]
                  refine q_call 53 #[.slice (some ⟨b, off, none⟩) T.length tc, .int .i64 1, AV (k1, k2), SLN lb T.length] (.bool l2) (by kernel_rfl) (fun W1 hW1 => by simp [go_sem]) (fun W1 hW1 => HC2.out W1 hW1 1 (by rw [hw]; decide)) ?_
                  try simp only [Act.put, List.setIfInBounds_toArray, List.set_cons_zero, List.set_cons_succ]
                  refine q_op (.bool l2) (by kernel_rfl) (fun W1 hW1 => by simp [go_sem]) ?_
                  try simp only [Act.put, List.setIfInBounds_toArray, List.set_cons_zero, List.set_cons_succ]
                  refine wpQuiet_nil ?_
                  intro W5 H5
                  have HSt : Hid (Still W0.heap.size W' W5) := Still.of_kept H5 (fun _ e => e.elim)
                  cases l2
                  case true =>
                    obtain ⟨eo, el, ec, vo, vl, vc, W6, y0, y1, y2, y3, y4, y5⟩ := HYx.out rfl W5 H5
                    have HY4 : Hid _ := y4
                    have HY5 : Hid _ := HSt.out.trans (y5 W0.heap.size)
                    have y6 := HPl.out W5 H5
                    clear HNx HYx HC1 HC2 HFx H5 HPl y4 y5
                    gi_wp2_with (refine app_step rfl (.tmp 60) (.tmp 65) rfl (.slice eo el ec) (.slice (some ⟨W5.heap.size, 0, none⟩) 1 1) (.slice vo vl vc) W6 rfl rfl y1 ?_)
                    exact ⟨HY5.out, HY4.out⟩
                  case false =>
                    have HN : Hid _ := HNx.out rfl W5 H5
                    clear HNx HYx HC1 HC2 HFx H5
                    gi_wp2
                    exact ⟨HSt.out, HN.out⟩
            case done =>
              rintro D W' hD hI hK
              have hkW : Kept No w W' := Kept.tn (HCb.out.kp.trans HK0.out) hI.tn
              have HX : Hid (CL w (.slice (some ⟨b, off, none⟩) T.length tc) (SLN lb T.length) (clrTo T first live (i + 1)) (D :: Ds) W') := by
                obtain ⟨ev, h1, h2⟩ := hI.row
                refine ⟨hkW, hI.tn.cells (HBx.out.b0) (by simp), hI.tn.cells (HBx.out.b1) (by simp), ⟨ev, h1, by rw [HOf2.out]; exact h2⟩, ?_⟩
                refine ⟨List.nodup_cons.2 ⟨fun h => ?_, HCb.out.ms.nd⟩, fun D' hD' => ?_, fun D' hD' => ?_⟩
                · have := HDl.out D h; omega
                · rcases List.mem_cons.1 hD' with rfl | h
                  · exact hK
                  · exact hI.mks D' h
                · rcases List.mem_cons.1 hD' with rfl | h
                  · have := HZ0.out; have := HCb.out.kp.size; omega
                  · exact HCb.out.ms.le D' h
              clear hI hK hkW
              gi_wp2
              refine ⟨⟨i + 1, D :: Ds, _, _, _, _, _, _, _, _, _, _, _, _, _, _, _, _, _, _, _, _, _, _, _, _, _, _, _, _, _, _, _, _, _, _, _, _, _, _, _, _, _, _, _, _, _, _, _, _, _, _, _, _, _, _, _, _, _, _, rfl, by omega, HX.out⟩, ?_⟩
              simp [intOf]; omega
            case stop => rintro D k W' hD h; exact h.elim
          case true =>
            gi_wp2_with (refine ⟨trivial, ?_⟩; gi_at_call 52; refine (callsIn_wide.2 (values_any tt svo lnt svc _)).mono ?_; rintro e w' ⟨rfl, rfl⟩)
            obtain ⟨W0, HW0⟩ : ∃ W0, Hid (W0 = (Wb.alloc (.cells #[SLN fb T.length] 30)).alloc (.cells #[.int .i64 tt.kind, .int .i64 tt.weak, .int .i64 tt.arr, .slice svo lnt svc, .int .i64 tt.fin] 43)) := ⟨_, rfl⟩
            have HK0 : Hid (Kept No Wb W0) := by show Kept _ _ _; rw [HW0.out]; exact ((Kept.refl _ _).alloc _).alloc _
            have HZ0 : Hid (W0.heap.size = Wb.heap.size + 2) := by show _ = _; rw [HW0.out]; simp
            have HBx : Hid (CB w W0 (.slice (some ⟨b, off, none⟩) T.length tc) (SLN lb T.length) (SLN fb T.length) (.slice svo lnt svc) tt i wr.heap.size Wb.heap.size (Wb.heap.size + 1)) := by
              refine ⟨HK0.out.heap HCb.out.b0 id, HK0.out.heap HCb.out.b1 id, HK0.out.heap HVb.out.1 id, HK0.out.heap HVb.out.2 id, ?_, ?_⟩
              · rw [HW0.out]; exact (Below.heap_alloc _ _ _ (by simp)).trans (World.alloc_heap_new Wb _)
              · rw [HW0.out]; have := World.alloc_heap_new (Wb.alloc (.cells #[SLN fb T.length] 30)) (.cells #[.int .i64 tt.kind, .int .i64 tt.weak, .int .i64 tt.arr, .slice svo lnt svc, .int .i64 tt.fin] 43); rwa [World.size_alloc] at this
            rw [← HW0.out]
            have HCR0 : Hid (CR w W0 T first live tt i (clrTo T first live i) Ds 0 W0) := by
              obtain ⟨ev, h1, h2⟩ := HCb.out.row
              refine ⟨Tn.refl _ _ _, ⟨ev, HK0.out.heap h1 id, ?_⟩, fun D hD => HK0.out.heap (HCb.out.ms.on D hD) id⟩
              have : clrJ T first live tt i 0 = [] := by unfold clrJ; simp
              rw [this, List.append_nil]; exact h2.cellsKept (fun k c e f hh => HK0.out.heap hh id)
            have HDl : Hid (∀ D ∈ Ds, D < W0.heap.size) := fun D hD => hp_lt (HK0.out.heap (HCb.out.ms.on D hD) id)
            have HRn : Hid (∀ d, Rounds Fence.wide d Try.prog 64 #[PT (Wb.heap.size + 1)] (vals tt).length (fun j W args => args = #[.int .i64 ((valAt tt j).1 : Nat), AV (valAt tt j).2]) (CR w W0 T first live tt i (clrTo T first live i) Ds)) := fun d =>
              values_rounds d (Wb.heap.size + 1) tt (.slice svo lnt svc) (by omega) _ (fun j W h => ⟨(HBx.out.tn h.tn (by simp)).v3, HXb.out W (Kept.tn (HCb.out.kp.trans HK0.out) h.tn)⟩)
            clear HW0
            refine range_iv (by decide) rfl (enters_of Try.func64 (by kernel_rfl) rfl) (vals tt).length (valAt tt) (CR w W0 T first live tt i (clrTo T first live i) Ds) (fun _ _ => False)
              (fun k W1 W2 h hl => h.loose HDl.out hl) (fun _ _ _ h _ => h.elim) HCR0.out (HRn.out _)
              (fun p V => { tmps := (.slice (some ⟨b, off, none⟩) T.length tc :: SLN fb T.length :: SLN lb T.length :: PT w.heap.size :: undef :: PT (w.heap.size + 1) :: .slice none 0 0 :: PT (w.heap.size + 1 + 1) :: PT wr.heap.size :: PT (wr.heap.size + 1) :: PT Wb.heap.size :: .int .i64 (p.1 : Int) :: PT V :: .slice (some ⟨b, off, none⟩) T.length tc :: .int .i64 (T.length : Int) :: .int .i64 (i : Int) :: .bool true :: .int .i64 (i : Int) :: .pointer (some ⟨b, off + i * 5, none⟩) :: .agg #[.int .i64 tt.kind, .int .i64 tt.weak, .int .i64 tt.arr, .slice svo lnt svc, .int .i64 tt.fin] :: SLN lb T.length :: .int .i64 (i : Int) :: .pointer (some ⟨lb, i, none⟩) :: .bool true :: .bool false :: .bool false :: .agg #[.int .i64 tt.kind, .int .i64 tt.weak, .int .i64 tt.arr, .slice svo lnt svc, .int .i64 tt.fin] :: .bool true :: .bool false :: .bool false :: SLN lb T.length :: SLN fb T.length :: .int .i64 (i : Int) :: .pointer (some ⟨fb, i, none⟩) :: .bool true :: SLN fb T.length :: .agg #[.int .i64 tt.kind, .int .i64 tt.weak, .int .i64 tt.arr, .slice svo lnt svc, .int .i64 tt.fin] :: .func (.func 64) #[] #[PT (Wb.heap.size + 1)] :: .int .i64 (p.1 : Int) :: AV p.2 :: u40 :: u41 :: u42 :: u43 :: u44 :: u45 :: u46 :: u47 :: u48 :: u49 :: u50 :: u51 :: u52 :: u53 :: u54 :: u55 :: u56 :: u57 :: u58 :: u59 :: u60 :: u61 :: u62 :: u63 :: u64 :: u65 :: u66 :: u67 :: u68 :: []).toArray, defers := [] }) ?assign ?body ?done ?stop
            case assign =>
              intro l' e W' K hK
              obtain ⟨e0, e1, e2⟩ := e
              unfold boxV at hK
              gi_wp2
              exact hK
            case body =>
              rintro l' j W3 W' hI0 hI hj hl
              obtain ⟨p, hp⟩ : ∃ p, valAt tt j = p := ⟨_, rfl⟩
              have hmem : p ∈ vals tt := by
                rw [← hp]; unfold valAt
                simp only [List.getD, List.getElem?_eq_getElem hj, Option.getD_some]
                exact List.getElem_mem hj
              have hpl := vals_lt hmem
              have HSu : Hid (clrJ T first live tt i (j + 1) = clrJ T first live tt i j ++ (if clrAt T first live tt p then [((i : Int) + 1, (p.1 : Int))] else [])) := by
                show _ = _
                rw [clrJ_succ _ _ _ _ _ _ hj, hp]
              have HLn : Hid ((clrTo T first live i ++ clrJ T first live tt i j).length + 1 ≤ 1000000) := by
                show _ ≤ _
                have h1 := clrTo_len T first live HSm.out i
                have h2 := clrJ_len T first live tt i j
                have h3 := vals_len tt
                rw [List.length_append]; omega
              rw [hp] at hl ⊢
              obtain ⟨ps, k1, k2⟩ := p
              dsimp only at hpl
              unfold boxV at hl
              dsimp only at hl HSu
              have q5 : W'.heap[W3.heap.size]? = some (.cells #[.int .i64 k1, .int .i64 k2] 40 (0, 0)) := hl.cells (World.alloc_heap_new W3 _)
              generalize W3.heap.size = Vk at q5 ⊢
              have hkW : Kept No w W' := Kept.tn (HCb.out.kp.trans HK0.out) hI.tn
              have HBW : Hid _ := HBx.out.tn hI.tn (by simp)
              have hpi : (ps : Int) < (lnt : Int) := by omega
              have hpn : ps < lnt := by omega
              obtain ⟨x, hx⟩ : ∃ x, tt.sl.getD ps (0, 0) = x := ⟨_, rfl⟩
              obtain ⟨bx, ox, hxo, hxc⟩ : ∃ bx ox, svo = some ⟨bx, ox, none⟩ ∧ ∀ W1, Kept No W' W1 → W1.cell? ⟨bx, ox + ps * 2, none⟩ = some (.int .i64 x.1) ∧ W1.cell? ⟨bx, ox + ps * 2 + 1, none⟩ = some (.int .i64 x.2) := by
                obtain ⟨ao', cap', e, h⟩ := HXb.out W' hkW
                injection e with e1 e2 e3
                subst e1
                obtain ⟨bx, ox, e4, y0, y1⟩ := h ps hpl
                have ex : tt.sl[ps] = x := by rw [← hx]; simp [List.getD, hpl]
                rw [ex] at y0 y1
                refine ⟨bx, ox, e4, fun W1 hk => ?_⟩
                have hb : bx < W'.heap.size := by
                  rcases Nat.lt_or_ge bx W'.heap.size with hb | hb
                  · exact hb
                  · simp [World.cell?, Array.getElem?_eq_none hb] at y0
                have e3 : ∀ o, W1.cell? ⟨bx, o, none⟩ = W'.cell? ⟨bx, o, none⟩ := fun o => World.cell?_of_block (hk.block bx hb id)
                exact ⟨by rw [e3]; exact y0, by rw [e3]; exact y1⟩
              obtain ⟨x1, x2⟩ := x
              subst hxo
              dsimp only at hxc
              have HXc : Hid _ := hxc
              have HFx : Hid (∀ W1, Kept No W' W1 → W1.cell? ⟨w.heap.size, 0, none⟩ = some (.slice (some ⟨b, off, none⟩) T.length tc) ∧ W1.cell? ⟨w.heap.size + 1, 0, none⟩ = some (SLN lb T.length) ∧ W1.cell? ⟨wr.heap.size + 1, 1, none⟩ = some (.int .i64 tt.weak) ∧ W1.cell? ⟨wr.heap.size + 1, 3, none⟩ = some (.slice (some ⟨bx, ox, none⟩) lnt svc) ∧ W1.cell? ⟨Wb.heap.size, 0, none⟩ = some (SLN fb T.length) ∧ W1.cell? ⟨Vk, 0, none⟩ = some (.int .i64 k1) ∧ W1.cell? ⟨Vk, 1, none⟩ = some (.int .i64 k2) ∧ W1.cell? ⟨bx, ox + ps * 2, none⟩ = some (.int .i64 x1) ∧ W1.cell? ⟨bx, ox + ps * 2 + 1, none⟩ = some (.int .i64 x2)) := fun W1 hk => by
                have hv1 := th_cells (hk.heap HBW.out.v1 id)
                have hq := box_cells (hk.heap q5 id)
                exact ⟨by rw [cell_of (hk.heap HBW.out.b0 id)]; rfl, by rw [cell_of (hk.heap HBW.out.b1 id)]; rfl, hv1.2.1, hv1.2.2.2.1, by rw [cell_of (hk.heap HBW.out.v2 id)]; rfl, hq.1, hq.2, HXc.out W1 hk⟩
              obtain ⟨l1, HL1⟩ : ∃ l1, Hid (lostB T (decide (2 ≤ tt.weak)) (x1, x2) first = l1) := ⟨_, rfl⟩
              obtain ⟨l2, HL2⟩ : ∃ l2, Hid (lostB T (!decide (tt.weak = 2)) (k1, k2) live = l2) := ⟨_, rfl⟩
              have HCl : Hid (clrAt T first live tt (ps, (k1, k2)) = (l1 || l2)) := by
                show _ = _
                unfold clrAt; dsimp only; rw [hx, HL1.out, HL2.out]
              rw [HCl.out] at HSu
              have HC1 : Hid (∀ W1, Kept No W' W1 → ∀ a : Int, (!decide (a = 0)) = decide (2 ≤ tt.weak) → Calls Try.prog 53 #[.slice (some ⟨b, off, none⟩) T.length tc, .int .i64 a, AV (x1, x2), SLN fb T.length] W1 fun e w' => e = .returned (.bool l1) ∧ Kept No W' w') := fun W1 hk a ha => by
                have := lost_any (HT.out.no (hkW.trans hk)) (by omega) (HF.out.no (hkW.trans hk)) HFl.out a (x1, x2)
                rw [ha, HL1.out] at this
                exact this.mono (fun e w2 ⟨he, h2⟩ => ⟨he, hk.trans h2⟩)
              have HC2 : Hid (∀ W1, Kept No W' W1 → ∀ a : Int, (!decide (a = 0)) = !decide (tt.weak = 2) → Calls Try.prog 53 #[.slice (some ⟨b, off, none⟩) T.length tc, .int .i64 a, AV (k1, k2), SLN lb T.length] W1 fun e w' => e = .returned (.bool l2) ∧ Kept No W' w') := fun W1 hk a ha => by
                have := lost_any (HT.out.no (hkW.trans hk)) (by omega) (HL.out.no (hkW.trans hk)) HLl.out a (k1, k2)
                rw [ha, HL2.out] at this
                exact this.mono (fun e w2 ⟨he, h2⟩ => ⟨he, hk.trans h2⟩)
              have HIW : Hid (CR w W0 T first live tt i (clrTo T first live i) Ds j W') := hI
              have HNx : Hid ((l1 || l2) = false → ∀ W1, Kept No W' W1 → CR w W0 T first live tt i (clrTo T first live i) Ds (j + 1) W1) := fun h W1 hk => by
                have h0 := HIW.out.no hk
                obtain ⟨ev, h1, h2⟩ := h0.row
                exact ⟨h0.tn, ⟨ev, h1, by rw [HSu.out, h]; simpa using h2⟩, h0.mks⟩
              have HYx : Hid ((l1 || l2) = true → ∀ W1, Kept No W' W1 → ∃ eo el ec vo vl vc W6, W1.cell? ⟨w.heap.size + 1 + 1, 0, none⟩ = some (.slice eo el ec) ∧ (Builtin.append_ #[35, 35] 35 #[.slice eo el ec, .slice (some ⟨W1.heap.size, 0, none⟩) 1 1]).run Try.prog (W1.alloc (.cells #[.int .i64 ((i : Int) + 1), .int .i64 (ps : Int)] 49)) = .ok (.slice vo vl vc) W6 ∧
                  W6.cell? ⟨w.heap.size + 1 + 1, 0, none⟩ = some (.slice eo el ec) ∧ (∀ o, W6.frozen? ⟨w.heap.size + 1 + 1, o, none⟩ = false) ∧ CR w W0 T first live tt i (clrTo T first live i) Ds (j + 1) (W6.setCell ⟨w.heap.size + 1 + 1, 0, none⟩ (.slice vo vl vc)) ∧ ∀ B, Still B W1 (W6.setCell ⟨w.heap.size + 1 + 1, 0, none⟩ (.slice vo vl vc))) := fun h W1 hk =>
                (HIW.out.no hk).app HLn.out (Nat.le_trans hkW.size hk.size) ((i : Int) + 1, (ps : Int)) (by rw [HSu.out, h]; rfl)
              have HPl : Hid (∀ W1, Kept No W' W1 → W1.cell? ⟨wr.heap.size, 0, none⟩ = some (.int .i64 (i : Int))) := fun W1 hk => by rw [cell_of (hk.heap HBW.out.v0 id)]; rfl
              rcases (by have := HW3.out; omega : tt.weak = 1 ∨ tt.weak = 2 ∨ tt.weak = 3) with hw | hw | hw
              · cases l1
                case true =>
                  gi_wp2_with fail
                  refine region_quiet_round (C := fun w' => Kept No W' w') mixed (by kernel_rfl) (noDefer_spec (by kernel_rfl)) ?_ (Kept.refl _ _).drew ?_
                  · rintro ⟨a', w', h⟩; exact h
                  refine q_op (.slice (some ⟨b, off, none⟩) T.length tc) (by kernel_rfl) (fun W1 hW1 => by obtain ⟨f0, f1, f2, f3, f4, f5, f6, f7, f8⟩ := HFx.out W1 hW1; simp [go_sem, f0]) ?_
                  try simp only [Act.put, List.setIfInBounds_toArray, List.set_cons_zero, List.set_cons_succ]
                  refine q_op (.pointer (some ⟨wr.heap.size + 1, 1, none⟩)) (by kernel_rfl) (fun W1 hW1 => by simp [go_sem]) ?_
                  try simp only [Act.put, List.setIfInBounds_toArray, List.set_cons_zero, List.set_cons_succ]
                  refine q_op (.int .i64 1) (by kernel_rfl) (fun W1 hW1 => by obtain ⟨f0, f1, f2, f3, f4, f5, f6, f7, f8⟩ := HFx.out W1 hW1; simp [go_sem, f2, hw]) ?_
                  try simp only [Act.put, List.setIfInBounds_toArray, List.set_cons_zero, List.set_cons_succ]
                  refine q_op (.int .i64 0) (by kernel_rfl) (fun W1 hW1 => by simp [go_sem, and12]) ?_
                  try simp only [Act.put, List.setIfInBounds_toArray, List.set_cons_zero, List.set_cons_succ]
                  refine q_op (.pointer (some ⟨wr.heap.size + 1, 3, none⟩)) (by kernel_rfl) (fun W1 hW1 => by simp [go_sem]) ?_
                  try simp only [Act.put, List.setIfInBounds_toArray, List.set_cons_zero, List.set_cons_succ]
                  refine q_op (.slice (some ⟨bx, ox, none⟩) lnt svc) (by kernel_rfl) (fun W1 hW1 => by obtain ⟨f0, f1, f2, f3, f4, f5, f6, f7, f8⟩ := HFx.out W1 hW1; simp [go_sem, f3]) ?_
                  try simp only [Act.put, List.setIfInBounds_toArray, List.set_cons_zero, List.set_cons_succ]
                  refine q_op (.int .i64 (ps : Int)) (by kernel_rfl) (fun W1 hW1 => by simp [go_sem]) ?_
                  try simp only [Act.put, List.setIfInBounds_toArray, List.set_cons_zero, List.set_cons_succ]
                  refine q_op (.pointer (some ⟨bx, ox + ps * 2, none⟩)) (by kernel_rfl) (fun W1 hW1 => by simp [go_sem, hpi, hpn]) ?_
                  try simp only [Act.put, List.setIfInBounds_toArray, List.set_cons_zero, List.set_cons_succ]
                  refine q_op (AV (x1, x2)) (by kernel_rfl) (fun W1 hW1 => by obtain ⟨f0, f1, f2, f3, f4, f5, f6, f7, f8⟩ := HFx.out W1 hW1; simp [go_sem, f7, f8]) ?_
                  try simp only [Act.put, List.setIfInBounds_toArray, List.set_cons_zero, List.set_cons_succ]
                  refine q_op (SLN fb T.length) (by kernel_rfl) (fun W1 hW1 => by obtain ⟨f0, f1, f2, f3, f4, f5, f6, f7, f8⟩ := HFx.out W1 hW1; simp [go_sem, f4]) ?_
                  try simp only [Act.put, List.setIfInBounds_toArray, List.set_cons_zero, List.set_cons_succ]
                  refine q_call 53 #[.slice (some ⟨b, off, none⟩) T.length tc, .int .i64 0, AV (x1, x2), SLN fb T.length] (.bool true) (by kernel_rfl) (fun W1 hW1 => by simp [go_sem]) (fun W1 hW1 => HC1.out W1 hW1 0 (by rw [hw]; decide)) ?_
                  try simp only [Act.put, List.setIfInBounds_toArray, List.set_cons_zero, List.set_cons_succ]
                  refine q_op (.bool true) (by kernel_rfl) (fun W1 hW1 => by simp [go_sem]) ?_
                  try simp only [Act.put, List.setIfInBounds_toArray, List.set_cons_zero, List.set_cons_succ]
                  go_big_quiet_skip
                  try simp only [Act.put, List.setIfInBounds_toArray, List.set_cons_zero, List.set_cons_succ]
                  go_big_quiet_skip
                  try simp only [Act.put, List.setIfInBounds_toArray, List.set_cons_zero, List.set_cons_succ]
                  go_big_quiet_skip
                  try simp only [Act.put, List.setIfInBounds_toArray, List.set_cons_zero, List.set_cons_succ]
                  go_big_quiet_skip
                  try simp only [Act.put, List.setIfInBounds_toArray, List.set_cons_zero, List.set_cons_succ]
                  go_big_quiet_skip
                  try simp only [Act.put, List.setIfInBounds_toArray, List.set_cons_zero, List.set_cons_succ]
                  go_big_quiet_skip
                  try simp only [Act.put, List.setIfInBounds_toArray, List.set_cons_zero, List.set_cons_succ]
                  go_big_quiet_skip
                  try simp only [Act.put, List.setIfInBounds_toArray, List.set_cons_zero, List.set_cons_succ]
                  refine q_op (.bool true) (by kernel_rfl) (fun W1 hW1 => by simp [go_sem]) ?_
                  try simp only [Act.put, List.setIfInBounds_toArray, List.set_cons_zero, List.set_cons_succ]
                  refine wpQuiet_nil ?_
                  intro W5 H5
                  have HSt : Hid (Still W0.heap.size W' W5) := Still.of_kept H5 (fun _ e => e.elim)
                  obtain ⟨eo, el, ec, vo, vl, vc, W6, y0, y1, y2, y3, y4, y5⟩ := HYx.out rfl W5 H5
                  have HY4 : Hid _ := y4
                  have HY5 : Hid _ := HSt.out.trans (y5 W0.heap.size)
                  have y6 := HPl.out W5 H5
                  clear HNx HYx HC1 HC2 HFx H5 HPl y4 y5
                  gi_wp2_with (refine app_step rfl (.tmp 60) (.tmp 65) rfl (.slice eo el ec) (.slice (some ⟨W5.heap.size, 0, none⟩) 1 1) (.slice vo vl vc) W6 rfl rfl y1 ?_)
                  exact ⟨HY5.out, HY4.out⟩
                case false =>
                  gi_wp2_with fail
                  refine region_quiet_round (C := fun w' => Kept No W' w') mixed (by kernel_rfl) (noDefer_spec (by kernel_rfl)) ?_ (Kept.refl _ _).drew ?_
                  · rintro ⟨a', w', h⟩; exact h
                  refine q_op (.slice (some ⟨b, off, none⟩) T.length tc) (by kernel_rfl) (fun W1 hW1 => by obtain ⟨f0, f1, f2, f3, f4, f5, f6, f7, f8⟩ := HFx.out W1 hW1; simp [go_sem, f0]) ?_
                  try simp only [Act.put, List.setIfInBounds_toArray, List.set_cons_zero, List.set_cons_succ]
                  refine q_op (.pointer (some ⟨wr.heap.size + 1, 1, none⟩)) (by kernel_rfl) (fun W1 hW1 => by simp [go_sem]) ?_
                  try simp only [Act.put, List.setIfInBounds_toArray, List.set_cons_zero, List.set_cons_succ]
                  refine q_op (.int .i64 1) (by kernel_rfl) (fun W1 hW1 => by obtain ⟨f0, f1, f2, f3, f4, f5, f6, f7, f8⟩ := HFx.out W1 hW1; simp [go_sem, f2, hw]) ?_
                  try simp only [Act.put, List.setIfInBounds_toArray, List.set_cons_zero, List.set_cons_succ]
                  refine q_op (.int .i64 0) (by kernel_rfl) (fun W1 hW1 => by simp [go_sem, and12]) ?_
                  try simp only [Act.put, List.setIfInBounds_toArray, List.set_cons_zero, List.set_cons_succ]
                  refine q_op (.pointer (some ⟨wr.heap.size + 1, 3, none⟩)) (by kernel_rfl) (fun W1 hW1 => by simp [go_sem]) ?_
                  try simp only [Act.put, List.setIfInBounds_toArray, List.set_cons_zero, List.set_cons_succ]
                  refine q_op (.slice (some ⟨bx, ox, none⟩) lnt svc) (by kernel_rfl) (fun W1 hW1 => by obtain ⟨f0, f1, f2, f3, f4, f5, f6, f7, f8⟩ := HFx.out W1 hW1; simp [go_sem, f3]) ?_
                  try simp only [Act.put, List.setIfInBounds_toArray, List.set_cons_zero, List.set_cons_succ]
                  refine q_op (.int .i64 (ps : Int)) (by kernel_rfl) (fun W1 hW1 => by simp [go_sem]) ?_
                  try simp only [Act.put, List.setIfInBounds_toArray, List.set_cons_zero, List.set_cons_succ]
                  refine q_op (.pointer (some ⟨bx, ox + ps * 2, none⟩)) (by kernel_rfl) (fun W1 hW1 => by simp [go_sem, hpi, hpn]) ?_
                  try simp only [Act.put, List.setIfInBounds_toArray, List.set_cons_zero, List.set_cons_succ]
                  refine q_op (AV (x1, x2)) (by kernel_rfl) (fun W1 hW1 => by obtain ⟨f0, f1, f2, f3, f4, f5, f6, f7, f8⟩ := HFx.out W1 hW1; simp [go_sem, f7, f8]) ?_
                  try simp only [Act.put, List.setIfInBounds_toArray, List.set_cons_zero, List.set_cons_succ]
                  refine q_op (SLN fb T.length) (by kernel_rfl) (fun W1 hW1 => by obtain ⟨f0, f1, f2, f3, f4, f5, f6, f7, f8⟩ := HFx.out W1 hW1; simp [go_sem, f4]) ?_
                  try simp only [Act.put, List.setIfInBounds_toArray, List.set_cons_zero, List.set_cons_succ]
                  refine q_call 53 #[.slice (some ⟨b, off, none⟩) T.length tc, .int .i64 0, AV (x1, x2), SLN fb T.length] (.bool false) (by kernel_rfl) (fun W1 hW1 => by simp [go_sem]) (fun W1 hW1 => HC1.out W1 hW1 0 (by rw [hw]; decide)) ?_
                  try simp only [Act.put, List.setIfInBounds_toArray, List.set_cons_zero, List.set_cons_succ]
                  refine q_op (.bool false) (by kernel_rfl) (fun W1 hW1 => by simp [go_sem]) ?_
                  try simp only [Act.put, List.setIfInBounds_toArray, List.set_cons_zero, List.set_cons_succ]
                  refine q_op (.slice (some ⟨b, off, none⟩) T.length tc) (by kernel_rfl) (fun W1 hW1 => by obtain ⟨f0, f1, f2, f3, f4, f5, f6, f7, f8⟩ := HFx.out W1 hW1; simp [go_sem, f0]) ?_
                  try simp only [Act.put, List.setIfInBounds_toArray, List.set_cons_zero, List.set_cons_succ]
                  refine q_op (.pointer (some ⟨wr.heap.size + 1, 1, none⟩)) (by kernel_rfl) (fun W1 hW1 => by simp [go_sem]) ?_
                  try simp only [Act.put, List.setIfInBounds_toArray, List.set_cons_zero, List.set_cons_succ]
                  refine q_op (.int .i64 1) (by kernel_rfl) (fun W1 hW1 => by obtain ⟨f0, f1, f2, f3, f4, f5, f6, f7, f8⟩ := HFx.out W1 hW1; simp [go_sem, f2, hw]) ?_
                  try simp only [Act.put, List.setIfInBounds_toArray, List.set_cons_zero, List.set_cons_succ]
                  refine q_op (.int .i64 1) (by kernel_rfl) (fun W1 hW1 => by simp [go_sem, and11]) ?_
                  try simp only [Act.put, List.setIfInBounds_toArray, List.set_cons_zero, List.set_cons_succ]
                  refine q_op (AV (k1, k2)) (by kernel_rfl) (fun W1 hW1 => by obtain ⟨f0, f1, f2, f3, f4, f5, f6, f7, f8⟩ := HFx.out W1 hW1; simp [go_sem, f5, f6]) ?_
                  try simp only [Act.put, List.setIfInBounds_toArray, List.set_cons_zero, List.set_cons_succ]
                  refine q_op (SLN lb T.length) (by kernel_rfl) (fun W1 hW1 => by obtain ⟨f0, f1, f2, f3, f4, f5, f6, f7, f8⟩ := HFx.out W1 hW1; simp [go_sem, f1]) ?_
                  try simp only [Act.put, List.setIfInBounds_toArray, List.set_cons_zero, List.set_cons_succ]
                  refine q_call 53 #[.slice (some ⟨b, off, none⟩) T.length tc, .int .i64 1, AV (k1, k2), SLN lb T.length] (.bool l2) (by kernel_rfl) (fun W1 hW1 => by simp [go_sem]) (fun W1 hW1 => HC2.out W1 hW1 1 (by rw [hw]; decide)) ?_
                  try simp only [Act.put, List.setIfInBounds_toArray, List.set_cons_zero, List.set_cons_succ]
                  refine q_op (.bool l2) (by kernel_rfl) (fun W1 hW1 => by simp [go_sem]) ?_
                  try simp only [Act.put, List.setIfInBounds_toArray, List.set_cons_zero, List.set_cons_succ]
                  refine wpQuiet_nil ?_
                  intro W5 H5
                  have HSt : Hid (Still W0.heap.size W' W5) := Still.of_kept H5 (fun _ e => e.elim)
                  cases l2
                  case true =>
                    obtain ⟨eo, el, ec, vo, vl, vc, W6, y0, y1, y2, y3, y4, y5⟩ := HYx.out rfl W5 H5
                    have HY4 : Hid _ := y4
                    have HY5 : Hid _ := HSt.out.trans (y5 W0.heap.size)
                    have y6 := HPl.out W5 H5
                    clear HNx HYx HC1 HC2 HFx H5 HPl y4 y5
                    gi_wp2_with (refine app_step rfl (.tmp 60) (.tmp 65) rfl (.slice eo el ec) (.slice (some ⟨W5.heap.size, 0, none⟩) 1 1) (.slice vo vl vc) W6 rfl rfl y1 ?_)
                    exact ⟨HY5.out, HY4.out⟩
                  case false =>
                    have HN : Hid _ := HNx.out rfl W5 H5
                    clear HNx HYx HC1 HC2 HFx H5
                    gi_wp2
                    exact ⟨HSt.out, HN.out⟩
              · cases l1
                case true =>
                  gi_wp2_with fail
                  refine region_quiet_round (C := fun w' => Kept No W' w') mixed (by kernel_rfl) (noDefer_spec (by kernel_rfl)) ?_ (Kept.refl _ _).drew ?_
                  · rintro ⟨a', w', h⟩; exact h
                  refine q_op (.slice (some ⟨b, off, none⟩) T.length tc) (by kernel_rfl) (fun W1 hW1 => by obtain ⟨f0, f1, f2, f3, f4, f5, f6, f7, f8⟩ := HFx.out W1 hW1; simp [go_sem, f0]) ?_
                  try simp only [Act.put, List.setIfInBounds_toArray, List.set_cons_zero, List.set_cons_succ]
                  refine q_op (.pointer (some ⟨wr.heap.size + 1, 1, none⟩)) (by kernel_rfl) (fun W1 hW1 => by simp [go_sem]) ?_
                  try simp only [Act.put, List.setIfInBounds_toArray, List.set_cons_zero, List.set_cons_succ]
                  refine q_op (.int .i64 2) (by kernel_rfl) (fun W1 hW1 => by obtain ⟨f0, f1, f2, f3, f4, f5, f6, f7, f8⟩ := HFx.out W1 hW1; simp [go_sem, f2, hw]) ?_
                  try simp only [Act.put, List.setIfInBounds_toArray, List.set_cons_zero, List.set_cons_succ]
                  refine q_op (.int .i64 2) (by kernel_rfl) (fun W1 hW1 => by simp [go_sem, and22]) ?_
                  try simp only [Act.put, List.setIfInBounds_toArray, List.set_cons_zero, List.set_cons_succ]
                  refine q_op (.pointer (some ⟨wr.heap.size + 1, 3, none⟩)) (by kernel_rfl) (fun W1 hW1 => by simp [go_sem]) ?_
                  try simp only [Act.put, List.setIfInBounds_toArray, List.set_cons_zero, List.set_cons_succ]
                  refine q_op (.slice (some ⟨bx, ox, none⟩) lnt svc) (by kernel_rfl) (fun W1 hW1 => by obtain ⟨f0, f1, f2, f3, f4, f5, f6, f7, f8⟩ := HFx.out W1 hW1; simp [go_sem, f3]) ?_
                  try simp only [Act.put, List.setIfInBounds_toArray, List.set_cons_zero, List.set_cons_succ]
                  refine q_op (.int .i64 (ps : Int)) (by kernel_rfl) (fun W1 hW1 => by simp [go_sem]) ?_
                  try simp only [Act.put, List.setIfInBounds_toArray, List.set_cons_zero, List.set_cons_succ]
                  refine q_op (.pointer (some ⟨bx, ox + ps * 2, none⟩)) (by kernel_rfl) (fun W1 hW1 => by simp [go_sem, hpi, hpn]) ?_
                  try simp only [Act.put, List.setIfInBounds_toArray, List.set_cons_zero, List.set_cons_succ]
                  refine q_op (AV (x1, x2)) (by kernel_rfl) (fun W1 hW1 => by obtain ⟨f0, f1, f2, f3, f4, f5, f6, f7, f8⟩ := HFx.out W1 hW1; simp [go_sem, f7, f8]) ?_
                  try simp only [Act.put, List.setIfInBounds_toArray, List.set_cons_zero, List.set_cons_succ]
                  refine q_op (SLN fb T.length) (by kernel_rfl) (fun W1 hW1 => by obtain ⟨f0, f1, f2, f3, f4, f5, f6, f7, f8⟩ := HFx.out W1 hW1; simp [go_sem, f4]) ?_
                  try simp only [Act.put, List.setIfInBounds_toArray, List.set_cons_zero, List.set_cons_succ]
                  refine q_call 53 #[.slice (some ⟨b, off, none⟩) T.length tc, .int .i64 2, AV (x1, x2), SLN fb T.length] (.bool true) (by kernel_rfl) (fun W1 hW1 => by simp [go_sem]) (fun W1 hW1 => HC1.out W1 hW1 2 (by rw [hw]; decide)) ?_
                  try simp only [Act.put, List.setIfInBounds_toArray, List.set_cons_zero, List.set_cons_succ]
                  refine q_op (.bool true) (by kernel_rfl) (fun W1 hW1 => by simp [go_sem]) ?_
                  try simp only [Act.put, List.setIfInBounds_toArray, List.set_cons_zero, List.set_cons_succ]
                  go_big_quiet_skip
                  try simp only [Act.put, List.setIfInBounds_toArray, List.set_cons_zero, List.set_cons_succ]
                  go_big_quiet_skip
                  try simp only [Act.put, List.setIfInBounds_toArray, List.set_cons_zero, List.set_cons_succ]
                  go_big_quiet_skip
                  try simp only [Act.put, List.setIfInBounds_toArray, List.set_cons_zero, List.set_cons_succ]
                  go_big_quiet_skip
                  try simp only [Act.put, List.setIfInBounds_toArray, List.set_cons_zero, List.set_cons_succ]
                  go_big_quiet_skip
                  try simp only [Act.put, List.setIfInBounds_toArray, List.set_cons_zero, List.set_cons_succ]
                  go_big_quiet_skip
                  try simp only [Act.put, List.setIfInBounds_toArray, List.set_cons_zero, List.set_cons_succ]
                  go_big_quiet_skip
                  try simp only [Act.put, List.setIfInBounds_toArray, List.set_cons_zero, List.set_cons_succ]
                  refine q_op (.bool true) (by kernel_rfl) (fun W1 hW1 => by simp [go_sem]) ?_
                  try simp only [Act.put, List.setIfInBounds_toArray, List.set_cons_zero, List.set_cons_succ]
                  refine wpQuiet_nil ?_
                  intro W5 H5
                  have HSt : Hid (Still W0.heap.size W' W5) := Still.of_kept H5 (fun _ e => e.elim)
                  obtain ⟨eo, el, ec, vo, vl, vc, W6, y0, y1, y2, y3, y4, y5⟩ := HYx.out rfl W5 H5
                  have HY4 : Hid _ := y4
                  have HY5 : Hid _ := HSt.out.trans (y5 W0.heap.size)
                  have y6 := HPl.out W5 H5
                  clear HNx HYx HC1 HC2 HFx H5 HPl y4 y5
                  gi_wp2_with (refine app_step rfl (.tmp 60) (.tmp 65) rfl (.slice eo el ec) (.slice (some ⟨W5.heap.size, 0, none⟩) 1 1) (.slice vo vl vc) W6 rfl rfl y1 ?_)
                  exact ⟨HY5.out, HY4.out⟩
                case false =>
                  gi_wp2_with fail
                  refine region_quiet_round (C := fun w' => Kept No W' w') mixed (by kernel_rfl) (noDefer_spec (by kernel_rfl)) ?_ (Kept.refl _ _).drew ?_
                  · rintro ⟨a', w', h⟩; exact h
                  refine q_op (.slice (some ⟨b, off, none⟩) T.length tc) (by kernel_rfl) (fun W1 hW1 => by obtain ⟨f0, f1, f2, f3, f4, f5, f6, f7, f8⟩ := HFx.out W1 hW1; simp [go_sem, f0]) ?_
                  try simp only [Act.put, List.setIfInBounds_toArray, List.set_cons_zero, List.set_cons_succ]
                  refine q_op (.pointer (some ⟨wr.heap.size + 1, 1, none⟩)) (by kernel_rfl) (fun W1 hW1 => by simp [go_sem]) ?_
                  try simp only [Act.put, List.setIfInBounds_toArray, List.set_cons_zero, List.set_cons_succ]
                  refine q_op (.int .i64 2) (by kernel_rfl) (fun W1 hW1 => by obtain ⟨f0, f1, f2, f3, f4, f5, f6, f7, f8⟩ := HFx.out W1 hW1; simp [go_sem, f2, hw]) ?_
                  try simp only [Act.put, List.setIfInBounds_toArray, List.set_cons_zero, List.set_cons_succ]
                  refine q_op (.int .i64 2) (by kernel_rfl) (fun W1 hW1 => by simp [go_sem, and22]) ?_
                  try simp only [Act.put, List.setIfInBounds_toArray, List.set_cons_zero, List.set_cons_succ]
                  refine q_op (.pointer (some ⟨wr.heap.size + 1, 3, none⟩)) (by kernel_rfl) (fun W1 hW1 => by simp [go_sem]) ?_
                  try simp only [Act.put, List.setIfInBounds_toArray, List.set_cons_zero, List.set_cons_succ]
                  refine q_op (.slice (some ⟨bx, ox, none⟩) lnt svc) (by kernel_rfl) (fun W1 hW1 => by obtain ⟨f0, f1, f2, f3, f4, f5, f6, f7, f8⟩ := HFx.out W1 hW1; simp [go_sem, f3]) ?_
                  try simp only [Act.put, List.setIfInBounds_toArray, List.set_cons_zero, List.set_cons_succ]
                  refine q_op (.int .i64 (ps : Int)) (by kernel_rfl) (fun W1 hW1 => by simp [go_sem]) ?_
                  try simp only [Act.put, List.setIfInBounds_toArray, List.set_cons_zero, List.set_cons_succ]
                  refine q_op (.pointer (some ⟨bx, ox + ps * 2, none⟩)) (by kernel_rfl) (fun W1 hW1 => by simp [go_sem, hpi, hpn]) ?_
                  try simp only [Act.put, List.setIfInBounds_toArray, List.set_cons_zero, List.set_cons_succ]
                  refine q_op (AV (x1, x2)) (by kernel_rfl) (fun W1 hW1 => by obtain ⟨f0, f1, f2, f3, f4, f5, f6, f7, f8⟩ := HFx.out W1 hW1; simp [go_sem, f7, f8]) ?_
                  try simp only [Act.put, List.setIfInBounds_toArray, List.set_cons_zero, List.set_cons_succ]
                  refine q_op (SLN fb T.length) (by kernel_rfl) (fun W1 hW1 => by obtain ⟨f0, f1, f2, f3, f4, f5, f6, f7, f8⟩ := HFx.out W1 hW1; simp [go_sem, f4]) ?_
                  try simp only [Act.put, List.setIfInBounds_toArray, List.set_cons_zero, List.set_cons_succ]
                  refine q_call 53 #[.slice (some ⟨b, off, none⟩) T.length tc, .int .i64 2, AV (x1, x2), SLN fb T.length] (.bool false) (by kernel_rfl) (fun W1 hW1 => by simp [go_sem]) (fun W1 hW1 => HC1.out W1 hW1 2 (by rw [hw]; decide)) ?_
                  try simp only [Act.put, List.setIfInBounds_toArray, List.set_cons_zero, List.set_cons_succ]
                  refine q_op (.bool false) (by kernel_rfl) (fun W1 hW1 => by simp [go_sem]) ?_
                  try simp only [Act.put, List.setIfInBounds_toArray, List.set_cons_zero, List.set_cons_succ]
                  refine q_op (.slice (some ⟨b, off, none⟩) T.length tc) (by kernel_rfl) (fun W1 hW1 => by obtain ⟨f0, f1, f2, f3, f4, f5, f6, f7, f8⟩ := HFx.out W1 hW1; simp [go_sem, f0]) ?_
                  try simp only [Act.put, List.setIfInBounds_toArray, List.set_cons_zero, List.set_cons_succ]
                  refine q_op (.pointer (some ⟨wr.heap.size + 1, 1, none⟩)) (by kernel_rfl) (fun W1 hW1 => by simp [go_sem]) ?_
                  try simp only [Act.put, List.setIfInBounds_toArray, List.set_cons_zero, List.set_cons_succ]
                  refine q_op (.int .i64 2) (by kernel_rfl) (fun W1 hW1 => by obtain ⟨f0, f1, f2, f3, f4, f5, f6, f7, f8⟩ := HFx.out W1 hW1; simp [go_sem, f2, hw]) ?_
                  try simp only [Act.put, List.setIfInBounds_toArray, List.set_cons_zero, List.set_cons_succ]
                  refine q_op (.int .i64 0) (by kernel_rfl) (fun W1 hW1 => by simp [go_sem, and21]) ?_
                  try simp only [Act.put, List.setIfInBounds_toArray, List.set_cons_zero, List.set_cons_succ]
                  refine q_op (AV (k1, k2)) (by kernel_rfl) (fun W1 hW1 => by obtain ⟨f0, f1, f2, f3, f4, f5, f6, f7, f8⟩ := HFx.out W1 hW1; simp [go_sem, f5, f6]) ?_
                  try simp only [Act.put, List.setIfInBounds_toArray, List.set_cons_zero, List.set_cons_succ]
                  refine q_op (SLN lb T.length) (by kernel_rfl) (fun W1 hW1 => by obtain ⟨f0, f1, f2, f3, f4, f5, f6, f7, f8⟩ := HFx.out W1 hW1; simp [go_sem, f1]) ?_
                  try simp only [Act.put, List.setIfInBounds_toArray, List.set_cons_zero, List.set_cons_succ]
                  refine q_call 53 #[.slice (some ⟨b, off, none⟩) T.length tc, .int .i64 0, AV (k1, k2), SLN lb T.length] (.bool l2) (by kernel_rfl) (fun W1 hW1 => by simp [go_sem]) (fun W1 hW1 => HC2.out W1 hW1 0 (by rw [hw]; decide)) ?_
                  try simp only [Act.put, List.setIfInBounds_toArray, List.set_cons_zero, List.set_cons_succ]
                  refine q_op (.bool l2) (by kernel_rfl) (fun W1 hW1 => by simp [go_sem]) ?_
                  try simp only [Act.put, List.setIfInBounds_toArray, List.set_cons_zero, List.set_cons_succ]
                  refine wpQuiet_nil ?_
                  intro W5 H5
                  have HSt : Hid (Still W0.heap.size W' W5) := Still.of_kept H5 (fun _ e => e.elim)
                  cases l2
                  case true =>
                    obtain ⟨eo, el, ec, vo, vl, vc, W6, y0, y1, y2, y3, y4, y5⟩ := HYx.out rfl W5 H5
                    have HY4 : Hid _ := y4
                    have HY5 : Hid _ := HSt.out.trans (y5 W0.heap.size)
                    have y6 := HPl.out W5 H5
                    clear HNx HYx HC1 HC2 HFx H5 HPl y4 y5
                    gi_wp2_with (refine app_step rfl (.tmp 60) (.tmp 65) rfl (.slice eo el ec) (.slice (some ⟨W5.heap.size, 0, none⟩) 1 1) (.slice vo vl vc) W6 rfl rfl y1 ?_)
                    exact ⟨HY5.out, HY4.out⟩
                  case false =>
                    have HN : Hid _ := HNx.out rfl W5 H5
                    clear HNx HYx HC1 HC2 HFx H5
                    gi_wp2
                    exact ⟨HSt.out, HN.out⟩
              · cases l1
                case true =>
                  gi_wp2_with fail
                  refine region_quiet_round (C := fun w' => Kept No W' w') mixed (by kernel_rfl) (noDefer_spec (by kernel_rfl)) ?_ (Kept.refl _ _).drew ?_
                  · rintro ⟨a', w', h⟩; exact h
                  refine q_op (.slice (some ⟨b, off, none⟩) T.length tc) (by kernel_rfl) (fun W1 hW1 => by obtain ⟨f0, f1, f2, f3, f4, f5, f6, f7, f8⟩ := HFx.out W1 hW1; simp [go_sem, f0]) ?_
                  try simp only [Act.put, List.setIfInBounds_toArray, List.set_cons_zero, List.set_cons_succ]
                  refine q_op (.pointer (some ⟨wr.heap.size + 1, 1, none⟩)) (by kernel_rfl) (fun W1 hW1 => by simp [go_sem]) ?_
                  try simp only [Act.put, List.setIfInBounds_toArray, List.set_cons_zero, List.set_cons_succ]
                  refine q_op (.int .i64 3) (by kernel_rfl) (fun W1 hW1 => by obtain ⟨f0, f1, f2, f3, f4, f5, f6, f7, f8⟩ := HFx.out W1 hW1; simp [go_sem, f2, hw]) ?_
                  try simp only [Act.put, List.setIfInBounds_toArray, List.set_cons_zero, List.set_cons_succ]
                  refine q_op (.int .i64 2) (by kernel_rfl) (fun W1 hW1 => by simp [go_sem, and32]) ?_
                  try simp only [Act.put, List.setIfInBounds_toArray, List.set_cons_zero, List.set_cons_succ]
                  refine q_op (.pointer (some ⟨wr.heap.size + 1, 3, none⟩)) (by kernel_rfl) (fun W1 hW1 => by simp [go_sem]) ?_
                  try simp only [Act.put, List.setIfInBounds_toArray, List.set_cons_zero, List.set_cons_succ]
                  refine q_op (.slice (some ⟨bx, ox, none⟩) lnt svc) (by kernel_rfl) (fun W1 hW1 => by obtain ⟨f0, f1, f2, f3, f4, f5, f6, f7, f8⟩ := HFx.out W1 hW1; simp [go_sem, f3]) ?_
                  try simp only [Act.put, List.setIfInBounds_toArray, List.set_cons_zero, List.set_cons_succ]
                  refine q_op (.int .i64 (ps : Int)) (by kernel_rfl) (fun W1 hW1 => by simp [go_sem]) ?_
                  try simp only [Act.put, List.setIfInBounds_toArray, List.set_cons_zero, List.set_cons_succ]
                  refine q_op (.pointer (some ⟨bx, ox + ps * 2, none⟩)) (by kernel_rfl) (fun W1 hW1 => by simp [go_sem, hpi, hpn]) ?_
                  try simp only [Act.put, List.setIfInBounds_toArray, List.set_cons_zero, List.set_cons_succ]
                  refine q_op (AV (x1, x2)) (by kernel_rfl) (fun W1 hW1 => by obtain ⟨f0, f1, f2, f3, f4, f5, f6, f7, f8⟩ := HFx.out W1 hW1; simp [go_sem, f7, f8]) ?_
                  try simp only [Act.put, List.setIfInBounds_toArray, List.set_cons_zero, List.set_cons_succ]
                  refine q_op (SLN fb T.length) (by kernel_rfl) (fun W1 hW1 => by obtain ⟨f0, f1, f2, f3, f4, f5, f6, f7, f8⟩ := HFx.out W1 hW1; simp [go_sem, f4]) ?_
                  try simp only [Act.put, List.setIfInBounds_toArray, List.set_cons_zero, List.set_cons_succ]
                  refine q_call 53 #[.slice (some ⟨b, off, none⟩) T.length tc, .int .i64 2, AV (x1, x2), SLN fb T.length] (.bool true) (by kernel_rfl) (fun W1 hW1 => by simp [go_sem]) (fun W1 hW1 => HC1.out W1 hW1 2 (by rw [hw]; decide)) ?_
                  try simp only [Act.put, List.setIfInBounds_toArray, List.set_cons_zero, List.set_cons_succ]
                  refine q_op (.bool true) (by kernel_rfl) (fun W1 hW1 => by simp [go_sem]) ?_
                  try simp only [Act.put, List.setIfInBounds_toArray, List.set_cons_zero, List.set_cons_succ]
                  go_big_quiet_skip
                  try simp only [Act.put, List.setIfInBounds_toArray, List.set_cons_zero, List.set_cons_succ]
                  go_big_quiet_skip
                  try simp only [Act.put, List.setIfInBounds_toArray, List.set_cons_zero, List.set_cons_succ]
                  go_big_quiet_skip
                  try simp only [Act.put, List.setIfInBounds_toArray, List.set_cons_zero, List.set_cons_succ]
                  go_big_quiet_skip
                  try simp only [Act.put, List.setIfInBounds_toArray, List.set_cons_zero, List.set_cons_succ]
                  go_big_quiet_skip
                  try simp only [Act.put, List.setIfInBounds_toArray, List.set_cons_zero, List.set_cons_succ]
                  go_big_quiet_skip
                  try simp only [Act.put, List.setIfInBounds_toArray, List.set_cons_zero, List.set_cons_succ]
                  go_big_quiet_skip
                  try simp only [Act.put, List.setIfInBounds_toArray, List.set_cons_zero, List.set_cons_succ]
                  refine q_op (.bool true) (by kernel_rfl) (fun W1 hW1 => by simp [go_sem]) ?_
                  try simp only [Act.put, List.setIfInBounds_toArray, List.set_cons_zero, List.set_cons_succ]
                  refine wpQuiet_nil ?_
                  intro W5 H5
                  have HSt : Hid (Still W0.heap.size W' W5) := Still.of_kept H5 (fun _ e => e.elim)
                  obtain ⟨eo, el, ec, vo, vl, vc, W6, y0, y1, y2, y3, y4, y5⟩ := HYx.out rfl W5 H5
                  have HY4 : Hid _ := y4
                  have HY5 : Hid _ := HSt.out.trans (y5 W0.heap.size)
                  have y6 := HPl.out W5 H5
                  clear HNx HYx HC1 HC2 HFx H5 HPl y4 y5
                  gi_wp2_with (refine app_step rfl (.tmp 60) (.tmp 65) rfl (.slice eo el ec) (.slice (some ⟨W5.heap.size, 0, none⟩) 1 1) (.slice vo vl vc) W6 rfl rfl y1 ?_)
                  exact ⟨HY5.out, HY4.out⟩
                case false =>
                  gi_wp2_with fail
                  refine region_quiet_round (C := fun w' => Kept No W' w') mixed (by kernel_rfl) (noDefer_spec (by kernel_rfl)) ?_ (Kept.refl _ _).drew ?_
                  · rintro ⟨a', w', h⟩; exact h
                  refine q_op (.slice (some ⟨b, off, none⟩) T.length tc) (by kernel_rfl) (fun W1 hW1 => by obtain ⟨f0, f1, f2, f3, f4, f5, f6, f7, f8⟩ := HFx.out W1 hW1; simp [go_sem, f0]) ?_
                  try simp only [Act.put, List.setIfInBounds_toArray, List.set_cons_zero, List.set_cons_succ]
                  refine q_op (.pointer (some ⟨wr.heap.size + 1, 1, none⟩)) (by kernel_rfl) (fun W1 hW1 => by simp [go_sem]) ?_
                  try simp only [Act.put, List.setIfInBounds_toArray, List.set_cons_zero, List.set_cons_succ]
                  refine q_op (.int .i64 3) (by kernel_rfl) (fun W1 hW1 => by obtain ⟨f0, f1, f2, f3, f4, f5, f6, f7, f8⟩ := HFx.out W1 hW1; simp [go_sem, f2, hw]) ?_
                  try simp only [Act.put, List.setIfInBounds_toArray, List.set_cons_zero, List.set_cons_succ]
                  refine q_op (.int .i64 2) (by kernel_rfl) (fun W1 hW1 => by simp [go_sem, and32]) ?_
                  try simp only [Act.put, List.setIfInBounds_toArray, List.set_cons_zero, List.set_cons_succ]
                  refine q_op (.pointer (some ⟨wr.heap.size + 1, 3, none⟩)) (by kernel_rfl) (fun W1 hW1 => by simp [go_sem]) ?_
                  try simp only [Act.put, List.setIfInBounds_toArray, List.set_cons_zero, List.set_cons_succ]
                  refine q_op (.slice (some ⟨bx, ox, none⟩) lnt svc) (by kernel_rfl) (fun W1 hW1 => by obtain ⟨f0, f1, f2, f3, f4, f5, f6, f7, f8⟩ := HFx.out W1 hW1; simp [go_sem, f3]) ?_
                  try simp only [Act.put, List.setIfInBounds_toArray, List.set_cons_zero, List.set_cons_succ]
                  refine q_op (.int .i64 (ps : Int)) (by kernel_rfl) (fun W1 hW1 => by simp [go_sem]) ?_
                  try simp only [Act.put, List.setIfInBounds_toArray, List.set_cons_zero, List.set_cons_succ]
                  refine q_op (.pointer (some ⟨bx, ox + ps * 2, none⟩)) (by kernel_rfl) (fun W1 hW1 => by simp [go_sem, hpi, hpn]) ?_
                  try simp only [Act.put, List.setIfInBounds_toArray, List.set_cons_zero, List.set_cons_succ]
                  refine q_op (AV (x1, x2)) (by kernel_rfl) (fun W1 hW1 => by obtain ⟨f0, f1, f2, f3, f4, f5, f6, f7, f8⟩ := HFx.out W1 hW1; simp [go_sem, f7, f8]) ?_
                  try simp only [Act.put, List.setIfInBounds_toArray, List.set_cons_zero, List.set_cons_succ]
                  refine q_op (SLN fb T.length) (by kernel_rfl) (fun W1 hW1 => by obtain ⟨f0, f1, f2, f3, f4, f5, f6, f7, f8⟩ := HFx.out W1 hW1; simp [go_sem, f4]) ?_
                  try simp only [Act.put, List.setIfInBounds_toArray, List.set_cons_zero, List.set_cons_succ]
                  refine q_call 53 #[.slice (some ⟨b, off, none⟩) T.length tc, .int .i64 2, AV (x1, x2), SLN fb T.length] (.bool false) (by kernel_rfl) (fun W1 hW1 => by simp [go_sem]) (fun W1 hW1 => HC1.out W1 hW1 2 (by rw [hw]; decide)) ?_
                  try simp only [Act.put, List.setIfInBounds_toArray, List.set_cons_zero, List.set_cons_succ]
                  refine q_op (.bool false) (by kernel_rfl) (fun W1 hW1 => by simp [go_sem]) ?_
                  try simp only [Act.put, List.setIfInBounds_toArray, List.set_cons_zero, List.set_cons_succ]
                  refine q_op (.slice (some ⟨b, off, none⟩) T.length tc) (by kernel_rfl) (fun W1 hW1 => by obtain ⟨f0, f1, f2, f3, f4, f5, f6, f7, f8⟩ := HFx.out W1 hW1; simp [go_sem, f0]) ?_
                  try simp only [Act.put, List.setIfInBounds_toArray, List.set_cons_zero, List.set_cons_succ]
                  refine q_op (.pointer (some ⟨wr.heap.size + 1, 1, none⟩)) (by kernel_rfl) (fun W1 hW1 => by simp [go_sem]) ?_
                  try simp only [Act.put, List.setIfInBounds_toArray, List.set_cons_zero, List.set_cons_succ]
                  refine q_op (.int .i64 3) (by kernel_rfl) (fun W1 hW1 => by obtain ⟨f0, f1, f2, f3, f4, f5, f6, f7, f8⟩ := HFx.out W1 hW1; simp [go_sem, f2, hw]) ?_
                  try simp only [Act.put, List.setIfInBounds_toArray, List.set_cons_zero, List.set_cons_succ]
                  refine q_op (.int .i64 1) (by kernel_rfl) (fun W1 hW1 => by simp [go_sem, and31]) ?_
                  try simp only [Act.put, List.setIfInBounds_toArray, List.set_cons_zero, List.set_cons_succ]
                  refine q_op (AV (k1, k2)) (by kernel_rfl) (fun W1 hW1 => by obtain ⟨f0, f1, f2, f3, f4, f5, f6, f7, f8⟩ := HFx.out W1 hW1; simp [go_sem, f5, f6]) ?_
                  try simp only [Act.put, List.setIfInBounds_toArray, List.set_cons_zero, List.set_cons_succ]
                  refine q_op (SLN lb T.length) (by kernel_rfl) (fun W1 hW1 => by obtain ⟨f0, f1, f2, f3, f4, f5, f6, f7, f8⟩ := HFx.out W1 hW1; simp [go_sem, f1]) ?_
                  try simp only [Act.put, List.setIfInBounds_toArray, List.set_cons_zero, List.set_cons_succ]
                  refine q_call 53 #[.slice (some ⟨b, off, none⟩) T.length tc, .int .i64 1, AV (k1, k2), SLN lb T.length] (.bool l2) (by kernel_rfl) (fun W1 hW1 => by simp [go_sem]) (fun W1 hW1 => HC2.out W1 hW1 1 (by rw [hw]; decide)) ?_
                  try simp only [Act.put, List.setIfInBounds_toArray, List.set_cons_zero, List.set_cons_succ]
                  refine q_op (.bool l2) (by kernel_rfl) (fun W1 hW1 => by simp [go_sem]) ?_
                  try simp only [Act.put, List.setIfInBounds_toArray, List.set_cons_zero, List.set_cons_succ]
                  refine wpQuiet_nil ?_
                  intro W5 H5
                  have HSt : Hid (Still W0.heap.size W' W5) := Still.of_kept H5 (fun _ e => e.elim)
                  cases l2
                  case true =>
                    obtain ⟨eo, el, ec, vo, vl, vc, W6, y0, y1, y2, y3, y4, y5⟩ := HYx.out rfl W5 H5
                    have HY4 : Hid _ := y4
                    have HY5 : Hid _ := HSt.out.trans (y5 W0.heap.size)
                    have y6 := HPl.out W5 H5
                    clear HNx HYx HC1 HC2 HFx H5 HPl y4 y5
                    gi_wp2_with (refine app_step rfl (.tmp 60) (.tmp 65) rfl (.slice eo el ec) (.slice (some ⟨W5.heap.size, 0, none⟩) 1 1) (.slice vo vl vc) W6 rfl rfl y1 ?_)
                    exact ⟨HY5.out, HY4.out⟩
                  case false =>
                    have HN : Hid _ := HNx.out rfl W5 H5
                    clear HNx HYx HC1 HC2 HFx H5
                    gi_wp2
                    exact ⟨HSt.out, HN.out⟩
            case done =>
              rintro D W' hD hI hK
              have hkW : Kept No w W' := Kept.tn (HCb.out.kp.trans HK0.out) hI.tn
              have HX : Hid (CL w (.slice (some ⟨b, off, none⟩) T.length tc) (SLN lb T.length) (clrTo T first live (i + 1)) (D :: Ds) W') := by
                obtain ⟨ev, h1, h2⟩ := hI.row
                refine ⟨hkW, hI.tn.cells (HBx.out.b0) (by simp), hI.tn.cells (HBx.out.b1) (by simp), ⟨ev, h1, by rw [HOf2.out]; exact h2⟩, ?_⟩
                refine ⟨List.nodup_cons.2 ⟨fun h => ?_, HCb.out.ms.nd⟩, fun D' hD' => ?_, fun D' hD' => ?_⟩
                · have := HDl.out D h; omega
                · rcases List.mem_cons.1 hD' with rfl | h
                  · exact hK
                  · exact hI.mks D' h
                · rcases List.mem_cons.1 hD' with rfl | h
                  · have := HZ0.out; have := HCb.out.kp.size; omega
                  · exact HCb.out.ms.le D' h
              clear hI hK hkW
              gi_wp2
              refine ⟨⟨i + 1, D :: Ds, _, _, _, _, _, _, _, _, _, _, _, _, _, _, _, _, _, _, _, _, _, _, _, _, _, _, _, _, _, _, _, _, _, _, _, _, _, _, _, _, _, _, _, _, _, _, _, _, _, _, _, _, _, _, _, _, _, _, rfl, by omega, HX.out⟩, ?_⟩
              simp [intOf]; omega
            case stop => rintro D k W' hD h; exact h.elim
    · have k1 : ¬ (i : Int) < (T.length : Int) := by omega
      obtain rfl : i = T.length := by omega
      obtain ⟨ev, h1, h2⟩ := HC.out.row
      obtain ⟨eo, ec, rfl⟩ := h2.form
      have c2 : wr.cell? ⟨w.heap.size + 1 + 1, 0, none⟩ = some (.slice eo (clrTo T first live T.length).length ec) := by rw [cell_of h1]; rfl
      have HX : Hid (∀ w', Loose w.heap.size wr w' → EnRow w' w.heap.size (.slice eo (clrTo T first live T.length).length ec) rr ∧ Kept No w w') := fun w' hl => ⟨by rw [← HRr.out]; exact h2.cellsKept (fun k c e f hh => hl.cells hh), Loose.kept HC.out.kp hl (Nat.le_refl _)⟩
      have HMs : Hid (Marks w.heap.size wr Ds) := HC.out.ms
      clear h1 h2
      generalize (clrTo T first live T.length).length = lne at c2 HX
      clear HC HC0 g0
      gi_wp2
      refine leaves_marks Ds _ HMs.out (fun w' hl => ?_)
      refine ⟨.slice eo lne ec, ?_, _, rfl, HX.out w' hl⟩
      first | exact results_tmp rfl _ _ _ | simp [results, Try.f37, go_sem]
end Go.Proofs.Ytnofmpbdfcolfaa
