/- The document's Pending. -/
import Derived.Test.YtnofmpbdfcolfaaY5
namespace Go.Proofs.Ytnofmpbdfcolfaa
open Go.RowKit Go.Shelf
set_option linter.unusedSimpArgs false
set_option linter.unusedVariables false

theorem IRow.set {w : World} {B g n cap : Nat} {l : List Int} (h : IRow w B (.slice (some ⟨g, 0, none⟩) n cap) l) {k : Nat} (x : Int) : IRow (w.setCell ⟨g, k, none⟩ (.int .i64 x)) B (.slice (some ⟨g, 0, none⟩) n cap) (l.set k x) := by
  obtain ⟨h1, ⟨e, _⟩ | ⟨g', cap', cur, e, hb, hg, hc, hm, hs, ht⟩⟩ := h
  · cases e
  · injection e with e1 e2 e3
    injection e1 with e1
    injection e1 with e1
    subst e1 e2 e3
    refine ⟨by simp [ic], .inr ⟨g, cap, _, by rw [List.length_set], hb, hp_set_same hg k _, by rw [List.length_set]; exact hc, hm, by simp [hs], ?_⟩⟩
    rw [List.length_set, Array.toList_setIfInBounds, List.take_set, ht]
    simp [ic]

/-- What is to be finalised from a place on. -/
def gL (T : List Th) (F : List Bool) (m : Nat) : List Nat := ((List.range T.length).drop m).filter (finB T F)
theorem gL_end (T : List Th) (F : List Bool) : gL T F T.length = [] := by unfold gL; rw [List.drop_eq_nil_of_le (by simp)]; rfl
theorem gL_zero (T : List Th) (F : List Bool) : gL T F 0 = finL T F T.length := rfl
theorem gL_step {T : List Th} {F : List Bool} {m : Nat} (hm : m < T.length) : gL T F m = if finB T F m then m :: gL T F (m + 1) else gL T F (m + 1) := by
  unfold gL
  rw [List.drop_eq_getElem_cons (by simpa using hm), List.getElem_range, List.filter_cons]
theorem gL_mem {T : List Th} {F : List Bool} {m i : Nat} (h : i ∈ gL T F m) : m ≤ i ∧ i < T.length := by
  unfold gL at h
  obtain ⟨h1, _⟩ := List.mem_filter.1 h
  obtain ⟨k, hk, e⟩ := List.mem_iff_getElem.1 h1
  simp at hk e
  omega
theorem gL_len (T : List Th) (F : List Bool) (m : Nat) : (gL T F m).length ≤ T.length := by
  unfold gL
  have := List.length_filter_le (finB T F) ((List.range T.length).drop m)
  simp at this; omega
/-- So far. -/
structure Pdm (T : List Th) (F : List Bool) (m : Nat) (D : List Nat) : Prop where
  perm : D.Perm (gL T F m)
  srt : D.Pairwise (fun i j => ¬ bef T j i)
theorem Pdm.lt {T : List Th} {F : List Bool} {m : Nat} {D : List Nat} (h : Pdm T F m D) {d : Nat} (hd : d ∈ D) : m ≤ d ∧ d < T.length := gL_mem (h.perm.mem_iff.1 hd)
theorem Pdm.len {T : List Th} {F : List Bool} {m : Nat} {D : List Nat} (h : Pdm T F m D) : D.length ≤ T.length := by rw [h.perm.length_eq]; exact gL_len _ _ _
theorem Pdm.skip {T : List Th} {F : List Bool} {m : Nat} {D : List Nat} (h : Pdm T F (m + 1) D) (hm : m < T.length) (hf : finB T F m = false) : Pdm T F m D := ⟨by rw [gL_step hm, hf]; exact h.perm, h.srt⟩
theorem Pdm.add {T : List Th} {F : List Bool} {m : Nat} {D A B : List Nat} (h : Pdm T F (m + 1) D) (hm : m < T.length) (hf : finB T F m = true) (hi : Ins T D m A B) (hA : A = [] ∨ ∃ a A', A = A' ++ [a] ∧ ¬ (thAt T a).fin < (thAt T m).fin) : Pdm T F m (A ++ m :: B) := by
  refine ⟨?_, hi.sorted h.srt (fun d hd => (h.lt hd).1) hA⟩
  rw [gL_step hm, hf, if_pos rfl]
  refine List.perm_middle.trans (List.Perm.cons m ?_)
  rw [hi.eq]; exact h.perm
theorem set_swap {α : Type} (A : List α) (a x : α) (B : List α) (n : Nat) (hn : n = A.length) : ((A ++ a :: x :: B).set (n + 1) a).set n x = A ++ x :: a :: B := by
  subst hn
  induction A with
  | nil => rfl
  | cons c A ih => simp

set_option maxRecDepth 20000 in
set_option maxHeartbeats 8000000 in
theorem RPending_any {w : World} {ao ro : Option Addr} {cap rn rc nb : Nat} {T : List Th} {F : List Bool} (hT : RdT w (.slice ao T.length cap) T) (hn : T.length ≤ 1000) (hF : F.length = T.length) (hN : w.heap[nb]? = some (.cells (bc F).toArray 4 (0, 0))) :
    Calls Try.prog 38 #[AG ao T.length cap ro rn rc, SLN nb T.length] w fun e w' => ∃ v D, e = .returned v ∧ Pd T F D ∧ IRow w' w.heap.size v (hdl D) ∧ Kept No w w' := by
  have HT : Hid (RdT w (.slice ao T.length cap) T) := hT
  obtain ⟨W, HWd⟩ : ∃ W, Hid (W = w.alloc (.cells #[.slice ao T.length cap, .slice ro rn rc] 25)) := ⟨_, rfl⟩
  have HK : Hid (Kept No w W) := by show Kept _ _ _; rw [HWd.out]; exact (Kept.refl _ _).alloc _
  have HGx : Hid (W.heap[w.heap.size]? = some (.cells #[.slice ao T.length cap, .slice ro rn rc] 25 (0, 0))) := by show _ = _; rw [HWd.out]; exact World.alloc_heap_new w _
  have hz : W.heap.size = w.heap.size + 1 := by rw [HWd.out]; simp
  have HGc : Hid (∀ X, Kept No W X → X.cell? ⟨w.heap.size, 0, none⟩ = some (.slice ao T.length cap)) := fun X hX => by
    have hx := hX.heap HGx.out id
    rw [cell_of hx]; rfl
  have HNf : Hid (∀ X, Kept No W X → ∀ j, j < T.length → X.cell? ⟨nb, j, none⟩ = some (.bool (F.getD j true))) := fun X hX j hj => by
    rw [cell_of ((HK.out.trans hX).heap hN id)]; exact bc_get _ _ (by omega)
  have HTh : Hid (∀ X, Kept No w X → ∀ j (hj : j < T.length), ∃ b off, ao = some ⟨b, off, none⟩ ∧ X.cell? ⟨b, off + j * 5 + 4, none⟩ = some (.int .i64 (thAt T j).fin)) := fun X hX j hj => by
    obtain ⟨ao', cap', e, hq⟩ := HT.out.no hX
    injection e with e1 e2 e3
    subst e1
    obtain ⟨b, off, sv, e2, h1, h2, h3, h4, h5, h6⟩ := hq j hj
    rw [thAt_eq hj]
    exact ⟨b, off, e2, h5⟩
  have g0 := HGc.out W (Kept.refl _ _)
  clear hT hN
  go_enter Try.func38, Try.ntmps38
  go_wp2_with (first | rw [← HWd.out])
  clear HWd
  go_loopw [6, 5, 7, 8, 12, 13, 14, 15, 16, 17, 18, 19, 20, 21, 22, 23, 24, 25, 26, 27, 28, 29, 30, 31, 32, 33, 34, 35, 36, 37, 38, 39, 40, 41, 42, 43, 44, 45, 46, 47, 48, 49, 50, 51, 52, 53, 54, 55, 56, 57, 58, 59, 60, 61, 62, 63, 64, 65, 66, 67, 68, 69, 70, 71, 72, 73, 74, 75, 76, 77, 78, 79, 80, 81, 82] (fun hh ov _ _ _ _ _ _ _ _ _ _ _ _ _ _ _ _ _ _ _ _ _ _ _ _ _ _ _ _ _ _ _ _ _ _ _ _ _ _ _ _ _ _ _ _ _ _ _ _ _ _ _ _ _ _ _ _ _ _ _ _ _ _ _ _ _ _ _ _ _ _ _ _ _ wr => ∃ (m : Nat) (lo : Option Addr) (ln lc : Nat), m ≤ T.length ∧ hh = .int .i64 m ∧ ov = .slice lo ln lc ∧ Hid (Kept No W wr ∧ ∃ D, Pdm T F m D ∧ ln = D.length ∧ IRow wr (w.heap.size + 1) (.slice lo ln lc) (hdl D))) (fun hh ov _ _ _ _ _ _ _ _ _ _ _ _ _ _ _ _ _ _ _ _ _ _ _ _ _ _ _ _ _ _ _ _ _ _ _ _ _ _ _ _ _ _ _ _ _ _ _ _ _ _ _ _ _ _ _ _ _ _ _ _ _ _ _ _ _ _ _ _ _ _ _ _ _ _ => (intOf hh).toNat)
  case atStart => exact ⟨T.length, none, 0, 0, by omega, rfl, rfl, Kept.refl _ _, [], ⟨by rw [gL_end], List.Pairwise.nil⟩, rfl, IRow.nil _ _⟩
  case round =>
    obtain ⟨m, lo, ln, lc, hm, rfl, rfl, HR⟩ := hrel
    have g0 := HGc.out wr HR.out.1
    rcases Nat.eq_zero_or_pos m with hm0 | hm0
    · subst hm0
      go_wp2_with fail
      go_ret
      obtain ⟨hk, D, hp, _, hi⟩ := HR.out
      exact ⟨_, D, rfl, ⟨by rw [← gL_zero]; exact hp.perm, hp.srt⟩, IRow.base (b' := w.heap.size + 1) hi (by omega), HK.out.trans hk⟩
    · obtain ⟨q, rfl⟩ : ∃ q, m = q + 1 := ⟨m - 1, by omega⟩
      have hqT : q < T.length := by omega
      have k1 : (1 : Int) ≤ ((q + 1 : Nat) : Int) := by omega
      have k2 : ((q + 1 : Nat) : Int) - 1 = (q : Int) := by omega
      have k3 : (q : Int) < (T.length : Int) := by omega
      obtain ⟨b, off, hao, r4⟩ := HTh.out wr (HK.out.trans HR.out.1) q hqT
      subst hao
      have r5 := HNf.out wr HR.out.1 q hqT
      have HFb : Hid (finB T F q = (decide (0 < (thAt T q).fin) && !(F.getD q true))) := rfl
      obtain ⟨fq, Hfq⟩ : ∃ fq, Hid ((thAt T q).fin = fq) := ⟨_, rfl⟩
      rw [Hfq.out] at r4 HFb
      generalize F.getD q true = bq at r5 HFb
      by_cases hf : fq ≤ 0
      · have bf : decide (fq ≤ 0) = true := decide_eq_true hf
        have hfb : finB T F q = false := HFb.out.trans (by rw [decide_eq_false (by omega)]; rfl)
        clear HFb Hfq
        go_wp2_with fail
        go_roundw
        case rel =>
          obtain ⟨hk, D, hp, hl, hi⟩ := HR.out
          exact ⟨q, lo, ln, lc, by omega, by go_num, rfl, hk, D, hp.skip hqT hfb, hl, hi⟩
        case measure => simp [intOf]
      · have bf : decide (fq ≤ 0) = false := decide_eq_false hf
        cases bq
        case true =>
          have hfb : finB T F q = false := HFb.out.trans (by simp)
          clear HFb Hfq
          go_wp2_with fail
          go_roundw
          case rel =>
            obtain ⟨hk, D, hp, hl, hi⟩ := HR.out
            exact ⟨q, lo, ln, lc, by omega, by go_num, rfl, hk, D, hp.skip hqT hfb, hl, hi⟩
          case measure => simp [intOf]
        case false =>
          have hfb : finB T F q = true := HFb.out.trans (by rw [decide_eq_true (by omega)]; rfl)
          clear HFb
          obtain ⟨D, HD⟩ : ∃ D, Hid (Pdm T F (q + 1) D ∧ ln = D.length ∧ IRow wr (w.heap.size + 1) (.slice lo ln lc) (hdl D)) := HR.out.2
          have hDl : D.length ≤ T.length := HD.out.1.len
          have HKr : Hid (Kept No W wr) := HR.out.1
          clear HR
          obtain ⟨wo, hwo⟩ : ∃ wo, wo = wr := ⟨_, rfl⟩
          subst hwo
          have hzo : w.heap.size + 1 ≤ wo.heap.size := by rw [← hz]; exact HKr.out.size
          go_wp2_with (refine app_int rfl (.tmp 31) (.tmp 33) rfl (w.heap.size + 1) (.slice lo ln lc) (hdl D) rfl (World.ownsRow.alloc HD.out.2.2 _) wo.heap.size ((q : Int) + 1) rfl (World.alloc_heap_new wo _) (by rw [hdl_len]; omega) (by simp; omega) ?_)
          intro v' w5 hv hg
          obtain ⟨go, gc, rfl⟩ := hv.out.form
          have hvi := hv.out
          rw [show (hdl D ++ [(q : Int) + 1]).length = D.length + 1 by simp [hdl]] at hvi ⊢
          rw [show hdl D ++ [(q : Int) + 1] = hdl (D ++ q :: []) by simp [hdl]] at hvi
          have hgl : ∃ g, go = some ⟨g, 0, none⟩ := by
            rcases hvi.2 with ⟨e, h⟩ | ⟨g, cp, cur, e, _⟩
            · simp [hdl] at h
            · injection e with e1; exact ⟨g, e1⟩
          obtain ⟨g, rfl⟩ := hgl
          have HV : Hid (IRow w5 (w.heap.size + 1) (.slice (some ⟨g, 0, none⟩) (D.length + 1) gc) (hdl (D ++ q :: []))) := hvi
          have HK5 : Hid (Kept No W w5) := by
            refine Kept.grown (HKr.out.alloc _) hg.out (fun k hk => .inr ?_)
            have := (HD.out.2.2.block hk).1
            omega
          have HPm : Hid (Pdm T F (q + 1) D) := HD.out.1
          clear hv hg hvi HD HKr r4 r5 g0
          have k4 : ((D.length + 1 : Nat) : Int) - 1 = (D.length : Int) := by omega
          go_wp2_with fail
          go_loopw [7, 8, 38, 39, 40, 41, 42, 43, 44, 45, 46, 47, 48, 49, 50, 51, 52, 53, 54, 55, 56, 57, 58, 59, 60, 61, 62, 63, 64, 65, 66, 67, 68, 69, 70, 71, 72, 73, 74, 75, 76, 77, 78, 79, 80, 81, 82] (fun kk _ _ _ _ _ _ _ _ _ _ _ _ _ _ _ _ _ _ _ _ _ _ _ _ _ _ _ _ _ _ _ _ _ _ _ _ _ _ _ _ _ _ _ _ _ _ wr => ∃ (A B : List Nat), kk = .int .i64 A.length ∧ Hid (Ins T D q A B ∧ Kept No W wr ∧ IRow wr (w.heap.size + 1) (.slice (some ⟨g, 0, none⟩) (D.length + 1) gc) (hdl (A ++ q :: B)))) (fun kk _ _ _ _ _ _ _ _ _ _ _ _ _ _ _ _ _ _ _ _ _ _ _ _ _ _ _ _ _ _ _ _ _ _ _ _ _ _ _ _ _ _ _ _ _ _ _ => (intOf kk).toNat)
          case atStart => exact ⟨D, [], by first | rfl | go_num, ⟨by simp, fun b hb => by cases hb⟩, HK5.out, HV.out⟩
          case round =>
            obtain ⟨A, B, rfl, HI⟩ := hrel
            have g0 := HGc.out wr HI.out.2.1
            have hAB : A.length + B.length = D.length := by rw [← HI.out.1.eq, List.length_append]
            have HIx : Hid (∀ X, Kept No wr X → ∀ j (hj : j < (A ++ q :: B).length), X.cell? ⟨g, j, none⟩ = some (.int .i64 (((A ++ q :: B)[j] : Nat) + 1))) := fun X hX j hj => by
              obtain ⟨b', c', e, _, h⟩ := IRow.at (IRow.no HI.out.2.2 hX) (j := j) (by rw [hdl_len]; exact hj)
              injection e with e1 e2 e3
              injection e1 with e1
              injection e1 with e1
              subst e1
              exact h.trans (by simp only [hdl, List.getElem_map])
            rcases List.eq_nil_or_concat A with rfl | ⟨A', a, hA⟩
            · clear HIx
              go_wp2_with fail
              go_quiet (fail)
              go_wp2_with fail
              go_roundw
              case rel =>
                refine ⟨q, some ⟨g, 0, none⟩, D.length + 1, gc, by omega, by go_num, rfl, HI.out.2.1.drewN nq, [] ++ q :: B, HPm.out.add hqT hfb HI.out.1 (.inl rfl), ?_, HI.out.2.2⟩
                simp at hAB ⊢; omega
              case measure => simp [intOf]
            · rw [List.concat_eq_append] at hA
              subst hA
              have hal : (A' ++ [a]).length = A'.length + 1 := by simp
              have haT : a < T.length := (HPm.out.lt (by rw [← HI.out.1.eq]; simp)).2
              have p0 := HIx.out wr (Kept.refl _ _) A'.length (by simp)
              have p1 := HIx.out wr (Kept.refl _ _) (A'.length + 1) (by simp)
              rw [show ((A' ++ [a]) ++ q :: B)[A'.length]'(by simp) = a by simp] at p0
              rw [show ((A' ++ [a]) ++ q :: B)[A'.length + 1]'(by simp) = q by simp [List.getElem_append]] at p1
              rw [hal] at hAB ⊢
              obtain ⟨b', off', e', r6⟩ := HTh.out wr (HK.out.trans HI.out.2.1) a haT
              injection e' with e'
              injection e' with e1 e2
              subst e1 e2
              obtain ⟨b', off', e', r7⟩ := HTh.out wr (HK.out.trans HI.out.2.1) q hqT
              injection e' with e'
              injection e' with e1 e2
              subst e1 e2
              rw [Hfq.out] at r7
              obtain ⟨fa, Hfa⟩ : ∃ fa, Hid ((thAt T a).fin = fa) := ⟨_, rfl⟩
              rw [Hfa.out] at r6
              have x1 : decide (0 < ((A'.length + 1 : Nat) : Int)) = true := decide_eq_true (by omega)
              have x2 : ((A'.length + 1 : Nat) : Int) - 1 = (A'.length : Int) := by omega
              have x3 : (A'.length : Int) < ((D.length + 1 : Nat) : Int) := by omega
              have x4 : ((A'.length + 1 : Nat) : Int) < ((D.length + 1 : Nat) : Int) := by omega
              have x5 : (a : Int) + 1 - 1 = (a : Int) := by omega
              have x6 : (q : Int) + 1 - 1 = (q : Int) := by omega
              have x7 : (a : Int) < (T.length : Int) := by omega
              clear HIx
              by_cases hlt : fa < fq
              · have x8 : decide (fa < fq) = true := decide_eq_true hlt
                obtain ⟨hgb, cg, hcg⟩ := HI.out.2.2.block rfl
                have fz : ∀ o, wr.frozen? ⟨g, o, none⟩ = false := fun o => frozen_of hcg o
                have HSw : Hid (hdl ((A' ++ [a]) ++ q :: B) = hdl A' ++ ((a : Int) + 1) :: ((q : Int) + 1) :: hdl B) := by show _ = _; simp [hdl]
                go_wp2_with fail
                go_quiet (fail)
                have HI2 : Hid (Ins T D q (A' ++ [a]) B ∧ Kept No W (wr.drewN nq) ∧ IRow (wr.drewN nq) (w.heap.size + 1) (.slice (some ⟨g, 0, none⟩) (D.length + 1) gc) (hdl (A' ++ [a] ++ q :: B))) := ⟨HI.out.1, HI.out.2.1.drewN nq, HI.out.2.2⟩
                have y0 : (wr.drewN nq).cell? ⟨g, A'.length, none⟩ = some (.int .i64 ((a : Int) + 1)) := p0
                have y1 : (wr.drewN nq).cell? ⟨g, A'.length + 1, none⟩ = some (.int .i64 ((q : Int) + 1)) := p1
                have fy : ∀ o, (wr.drewN nq).frozen? ⟨g, o, none⟩ = false := fz
                clear p0 p1 fz r6 r7 g0 HI
                generalize wr.drewN nq = X5 at HI2 y0 y1 fy ⊢
                go_wp2_with fail
                go_roundw
                case rel =>
                  refine ⟨A', a :: B, by go_num, ⟨by rw [← HI2.out.1.eq]; simp, fun b hb => ?_⟩, ?_, ?_⟩
                  · rcases List.mem_cons.1 hb with rfl | hb
                    · rw [Hfa.out, Hfq.out]; exact hlt
                    · exact HI2.out.1.lt b hb
                  · refine Kept.set (Kept.set HI2.out.2.1 _ _ _ (.inr ?_)) _ _ _ (.inr ?_) <;> omega
                  · have h9 := ((HI2.out.2.2).set (k := A'.length + 1) ((a : Int) + 1)).set (k := A'.length) ((q : Int) + 1)
                    rw [HSw.out, set_swap _ _ _ _ _ (by rw [hdl_len])] at h9
                    rw [show hdl (A' ++ q :: a :: B) = hdl A' ++ ((q : Int) + 1) :: ((a : Int) + 1) :: hdl B by simp [hdl]]
                    exact h9
                case measure => simp [intOf]
              · have x8 : decide (fa < fq) = false := decide_eq_false hlt
                go_wp2_with fail
                go_quiet (fail)
                go_wp2_with fail
                go_roundw
                case rel =>
                  refine ⟨q, some ⟨g, 0, none⟩, D.length + 1, gc, by omega, by go_num, rfl, HI.out.2.1.drewN nq, (A' ++ [a]) ++ q :: B, HPm.out.add hqT hfb HI.out.1 (.inr ⟨a, A', rfl, by rw [Hfa.out, Hfq.out]; omega⟩), ?_, HI.out.2.2⟩
                  simp at hAB ⊢; omega
                case measure => simp [intOf]
end Go.Proofs.Ytnofmpbdfcolfaa
