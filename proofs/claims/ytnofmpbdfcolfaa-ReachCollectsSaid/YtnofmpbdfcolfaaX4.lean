/- What is to be finalised, in its order. -/
import Derived.Test.YtnofmpbdfcolfaaX3
namespace Go.Proofs.Ytnofmpbdfcolfaa
open Go.RowKit Go.Shelf
set_option linter.unusedSimpArgs false
set_option linter.unusedVariables false

def finB (T : List Th) (l : List Bool) (i : Nat) : Bool := decide (0 < (thAt T i).fin) && !(l.getD i true)
/-- The places of what is to be finalised, as they lie. -/
def finL (T : List Th) (l : List Bool) (j : Nat) : List Nat := (List.range j).filter (finB T l)
theorem finL_yes {T : List Th} {l : List Bool} {j : Nat} (h : finB T l j = true) : finL T l (j + 1) = finL T l j ++ [j] := by simp [finL, List.range_succ, h]
theorem finL_no {T : List Th} {l : List Bool} {j : Nat} (h : finB T l j = false) : finL T l (j + 1) = finL T l j := by simp [finL, List.range_succ, h]
theorem finL_lt {T : List Th} {l : List Bool} {j i : Nat} (h : i ∈ finL T l j) : i < j := by
  simp only [finL, List.mem_filter, List.mem_range] at h; exact h.1
theorem finL_len (T : List Th) (l : List Bool) (j : Nat) : (finL T l j).length ≤ j := by
  have := List.length_filter_le (finB T l) (List.range j)
  simpa [finL] using this
theorem IRow.base {w : World} {b b' : Nat} {v : Value} {L : List Int} (h : IRow w b' v L) (hb : b ≤ b') : IRow w b v L := by
  refine ⟨h.1, h.2.imp id ?_⟩
  rintro ⟨g, cap, cur, e1, e2, r⟩
  exact ⟨g, cap, cur, e1, Nat.le_trans hb e2, r⟩
/-- D is what is to be finalised, in its order. -/
structure Pd (T : List Th) (l : List Bool) (D : List Nat) : Prop where
  perm : D.Perm (finL T l T.length)
  srt : D.Pairwise (fun i j => ¬ bef T j i)
theorem hdl_snoc (D : List Nat) (j : Nat) : hdl (D ++ [j]) = hdl D ++ [(j : Int) + 1] := by simp [hdl]

set_option maxRecDepth 20000 in
set_option maxHeartbeats 1600000 in
theorem toFinalise_any {w : World} {tv nv : Value} {T : List Th} {l : List Bool} (hT : RdT w tv T) (hn : T.length ≤ 100) (hl : l.length = T.length) (hN : RdB w nv l) :
    Calls Try.prog 36 #[tv, nv] w fun e w' => ∃ v D, e = .returned v ∧ Pd T l D ∧ IRow w' w.heap.size v (hdl D) ∧ Kept No w w' := by
  have HT : Hid (RdT w tv T) := hT
  have HL : Hid (l.length = T.length) := hl
  obtain ⟨ta, tc, rfl, _⟩ := hT
  obtain ⟨nb, rfl, hnb⟩ := hN
  rw [hl]
  have HNb : Hid (w.heap[nb]? = some (.cells (bc l).toArray 4 (0, 0))) := hnb
  have HTh : Hid (∀ W', Kept No w W' → ∀ j (hj : j < T.length), ∃ b off svo svl svc, ta = some ⟨b, off, none⟩ ∧ W'.cell? ⟨b, off + j * 5, none⟩ = some (.int .i64 (thAt T j).kind) ∧ W'.cell? ⟨b, off + j * 5 + 1, none⟩ = some (.int .i64 (thAt T j).weak) ∧
    W'.cell? ⟨b, off + j * 5 + 2, none⟩ = some (.int .i64 (thAt T j).arr) ∧ W'.cell? ⟨b, off + j * 5 + 3, none⟩ = some (.slice svo svl svc) ∧ W'.cell? ⟨b, off + j * 5 + 4, none⟩ = some (.int .i64 (thAt T j).fin)) := fun W' ht j hj => by
    obtain ⟨ao', cap', e, h⟩ := HT.out.no ht
    injection e with e1 e2 e3
    subst e1
    obtain ⟨b, off, sv, e1, h1, h2, h3, h4, h5, ⟨sa, sc, rfl, _⟩⟩ := h j hj
    rw [thAt_eq hj]
    exact ⟨b, off, sa, _, sc, e1, h1, h2, h3, h4, h5⟩
  obtain ⟨W, HW⟩ : ∃ W, Hid (W = w.alloc (.cells #[.slice ta T.length tc] 22)) := ⟨_, rfl⟩
  have HK : Hid (Kept No w W) := by show Kept _ _ _; rw [HW.out]; exact (Kept.refl _ _).alloc _
  have HB : Hid (W.heap[w.heap.size]? = some (.cells #[.slice ta T.length tc] 22 (0, 0))) := by show _ = _; rw [HW.out]; exact World.alloc_heap_new w _
  have hz : W.heap.size = w.heap.size + 1 := by rw [HW.out]; simp
  have c22 : W.cell? ⟨w.heap.size, 0, none⟩ = some (.slice ta T.length tc) := by rw [cell_of HB.out]; rfl
  clear hnb
  go_enter Try.func36, Try.ntmps36
  go_wp2_with (first | rw [← HW.out])
  go_loopw [10, 5] (fun i lv wr => ∃ (j : Nat) (lo : Option Addr) (ln lc : Nat), j ≤ T.length ∧ i = .int .i64 j ∧ lv = .slice lo ln lc ∧ Hid (IRow wr (w.heap.size + 1) (.slice lo ln lc) (hdl (finL T l j))) ∧ Hid (Kept No W wr)) (fun i _ _ => T.length - (intOf i).toNat)
  case atStart => exact ⟨0, none, 0, 0, by omega, rfl, rfl, IRow.nil _ _, Kept.refl _ _⟩
  case round =>
    obtain ⟨j, lo, ln, lc, hj, rfl, rfl, HI, HJ⟩ := hrel
    by_cases hlt : j < T.length
    · have k1 : (j : Int) < (T.length : Int) := by omega
      obtain ⟨b, off, svo, svl, svc, rfl, r0, r1, r2, r3, r4⟩ := HTh.out wr (HK.out.trans HJ.out) j hlt
      have HA : Hid (∀ o, Kept No W (wr.alloc o)) := fun o => HJ.out.trans ((Kept.refl _ _).alloc _)
      have HIA : Hid (∀ o, IRow (wr.alloc o) (w.heap.size + 1) (.slice lo ln lc) (hdl (finL T l j))) := fun o => World.ownsRow.alloc HI.out _
      have hzr : w.heap.size + 1 ≤ wr.heap.size := by rw [← hz]; exact HJ.out.size
      have HF : Hid (finB T l j = (decide (0 < (thAt T j).fin) && !(l.getD j true))) := rfl
      generalize (thAt T j).fin = ff at r4 HF
      generalize (thAt T j).kind = kk at r0
      generalize (thAt T j).weak = kw at r1
      generalize (thAt T j).arr = ka at r2
      by_cases hf : 0 < ff
      · have bf : decide (0 < ff) = true := decide_eq_true hf
        rw [bf, Bool.true_and] at HF
        have hnb := (HK.out.trans HJ.out).heap HNb.out id
        have hcm : ∀ o, (wr.alloc o).cell? ⟨nb, j, none⟩ = some (.bool (l.getD j true)) := fun o => by
          rw [cell_of ((Below.heap_alloc _ _ _ (hp_lt hnb)).trans hnb)]; exact bc_get _ _ (by rw [HL.out]; exact hlt)
        have hcm1 := hcm (.cells #[.int .i64 kk, .int .i64 kw, .int .i64 ka, .slice svo svl svc, .int .i64 ff] 43)
        generalize l.getD j true = bb at hcm1 HF
        clear hcm hnb
        cases bb
        case true =>
          have hq := finL_no HF.out
          clear HJ HI
          go_wp2
          go_roundw
          case rel => exact ⟨j + 1, lo, ln, lc, by omega, by go_num, rfl, by show IRow _ _ _ _; rw [hq]; exact HIA.out _, HA.out _⟩
          case measure => simp [intOf]; omega
        case false =>
          have hq := finL_yes HF.out
          have hfl := finL_len T l j
          have HAl : Hid (∀ o o' : Obj, ((wr.alloc o).alloc o').heap[wr.heap.size + 1]? = some o') := fun o o' => by have := World.alloc_heap_new (wr.alloc o) o'; rwa [World.size_alloc] at this
          clear HJ HI
          go_wp2_with (refine app_int rfl (.tmp 25) (.tmp 28) rfl (w.heap.size + 1) (.slice lo ln lc) (hdl (finL T l j)) rfl (World.ownsRow.alloc (HIA.out _) _) (wr.heap.size + 1) ((j : Int) + 1) rfl (HAl.out _ _) (by rw [hdl_len]; omega) (by simp; omega) ?_)
          intro v' w' hv hg
          obtain ⟨ao, ac, rfl⟩ := hv.out.form
          go_wp2
          go_roundw
          case rel =>
            refine ⟨j + 1, ao, _, ac, by omega, by go_num, rfl, by show IRow _ _ _ _; rw [hq, hdl_snoc]; exact hv.out, ?_⟩
            refine Kept.grown ((HA.out _).alloc _) hg.out (fun k hk => .inr ?_)
            have := ((HIA.out (.cells #[] 43)).block hk).1
            omega
          case measure => simp [intOf]; omega
      · have bf : decide (0 < ff) = false := decide_eq_false hf
        have hq := finL_no (HF.out.trans (by rw [bf]; rfl))
        clear HJ HI
        go_wp2
        go_roundw
        case rel => exact ⟨j + 1, lo, ln, lc, by omega, by go_num, rfl, by show IRow _ _ _ _; rw [hq]; exact HIA.out _, HA.out _⟩
        case measure => simp [intOf]; omega
    · have k1 : ¬ (j : Int) < (T.length : Int) := by omega
      obtain rfl : j = T.length := by omega
      go_wp2_with fail
      go_at_call 47
      obtain ⟨ao, ac, e⟩ := HI.out.form
      injection e with e1 e2 e3
      rw [hdl_len] at e2
      subst e1 e2 e3
      by_cases h0 : finL T l T.length = []
      · have hz0 : (finL T l T.length).length = 0 := by rw [h0]; rfl
        have HI' : Hid (IRow wr (w.heap.size + 1) (.slice lo 0 lc) (hdl [])) := by show IRow _ _ _ _; rw [← h0, ← hz0]; exact HI.out
        have hp : Pd T l [] := ⟨by rw [h0], List.Pairwise.nil⟩
        rw [hz0]
        clear HI
        refine (SortFunc_none _ _ _ _).mono ?_
        rintro e w' ⟨⟨x, rfl⟩, rfl⟩
        go_wp2
        go_ret
        exact ⟨_, [], rfl, hp, IRow.base (b' := w.heap.size + 1) HI'.out (by omega), HK.out.trans HJ.out⟩
      · obtain ⟨g, hg⟩ : ∃ g, lo = some ⟨g, 0, none⟩ := by
          rcases HI.out.2 with ⟨e, h⟩ | ⟨g, cap, cur, e, _⟩
          · exact absurd (List.eq_nil_of_length_eq_zero (by rw [hdl_len] at h; exact h)) h0
          · injection e with e1; exact ⟨g, e1⟩
        subst hg
        have hgb : w.heap.size + 1 ≤ g := (HI.out.block rfl).1
        have HS : Hid _ := SortFunc_any (box := w.heap.size) (g := g) (HJ.out.heap HB.out id) HT.out (HK.out.trans HJ.out) (by omega) (by omega) (by omega) (fun i hi => finL_lt hi) (by have := finL_len T l T.length; omega) h0 HI.out
        refine Calls.mono HS.out ?_
        rintro e w' ⟨⟨x, rfl⟩, D', hp, hs, hi, hk⟩
        have HP : Hid (Pd T l D') := ⟨hp, hs⟩
        rw [hp.length_eq] at hi
        have HI2 : Hid _ := hi
        have HK2 : Hid _ := hk
        clear hp hs hi hk HS HI
        go_wp2
        go_ret
        exact ⟨_, D', rfl, HP.out, IRow.base (b' := w.heap.size + 1) HI2.out (by omega), (HK.out.trans HJ.out).trans' HK2.out (fun i e => .inr (by omega))⟩
end Go.Proofs.Ytnofmpbdfcolfaa
