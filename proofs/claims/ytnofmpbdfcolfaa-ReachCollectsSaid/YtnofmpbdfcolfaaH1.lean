/- Small; more roots need no less. -/
import Derived.Test.YtnofmpbdfcolfaaF1
import Derived.Test.YtnofmpbdfcolfaaG3
namespace Go.Proofs.Ytnofmpbdfcolfaa
open Go.RowKit Go.Shelf
set_option linter.unusedSimpArgs false
set_option linter.unusedVariables false

theorem Nd.more' {T : List Th} {R R' : List V} {M M' : List Int} (hR : ∀ v ∈ R, v ∈ R') (hM : ∀ h ∈ M, h ∈ M') {i : Nat} (h : Nd T R M i) : Nd T R' M' i := by
  induction h with
  | root v hv ho => exact Nd.root v (hR v hv) ho
  | more x hx h1 h2 => exact Nd.more x (hM x hx) h1 h2
  | edge j c o hj hl hd hk ih ihk => exact Nd.edge j c o ih hl hd ihk
theorem strong_more {T : List Th} {R R' : List V} {M M' : List Int} (hR : ∀ v ∈ R, v ∈ R') (hM : ∀ h ∈ M, h ∈ M') (i : Nat) (hi : i < T.length) (h : (strong T R M).getD i true = true) : (strong T R' M').getD i true = true :=
  (strong_iff T R' M' i hi).2 (((strong_iff T R M i hi).1 h).more' hR hM)

/-- How many slots the first things have, the roots with them. -/
def slots (T : List Th) (R : List V) (j : Nat) : Nat := R.length + ((T.take j).map fun t => t.sl.length).sum
theorem slots_succ (T : List Th) (R : List V) (j : Nat) (hj : j < T.length) : slots T R (j + 1) = slots T R j + T[j].sl.length := by
  unfold slots
  rw [List.take_succ_eq_append_getElem hj]
  simp only [List.map_append, List.sum_append, List.map_cons, List.map_nil, List.sum_cons, List.sum_nil]; omega
/-- A graph that is gone through. -/
def smallB (T : List Th) (R : List V) : Bool := decide (T.length ≤ 60) && decide (slots T R T.length ≤ 600)
theorem mem_sum {l : List Nat} {x : Nat} (h : x ∈ l) : x ≤ l.sum := by
  induction l with
  | nil => cases h
  | cons a l ih =>
    rcases List.mem_cons.1 h with rfl | h
    · simp
    · have := ih h; simp; omega
theorem small_bd {T : List Th} {R : List V} (h : smallB T R = true) : T.length ≤ 60 ∧ R.length ≤ 600 ∧ ∀ t ∈ T, t.sl.length ≤ 600 := by
  simp only [smallB, Bool.and_eq_true, decide_eq_true_eq, slots, List.take_length] at h
  refine ⟨h.1, by omega, fun t ht => ?_⟩
  have := mem_sum (List.mem_map_of_mem (f := fun t : Th => t.sl.length) ht)
  omega

set_option maxRecDepth 20000 in
set_option maxHeartbeats 2000000 in
theorem Small_any {w : World} {tv rv : Value} {T : List Th} {R : List V} (hT : RdT w tv T) (hR : RdV w rv R) (hn : T.length ≤ 140737488355328) (hRn : R.length ≤ 140737488355328) (hs : ∀ t ∈ T, t.sl.length ≤ 140737488355328) :
    Calls Try.prog 10 #[.agg #[tv, rv]] w fun e w' => e = .returned (.bool (smallB T R)) ∧ Kept No w w' := by
  have HT : Hid (RdT w tv T) := hT
  have HS : Hid (∀ t ∈ T, t.sl.length ≤ 140737488355328) := hs
  obtain ⟨ta, tc, rfl, _⟩ := hT
  obtain ⟨ra, rc, rfl, _⟩ := hR
  have HTh : Hid (∀ W', Kept No w W' → ∀ j (hj : j < T.length), ∃ b off svo svc, ta = some ⟨b, off, none⟩ ∧ W'.cell? ⟨b, off + j * 5 + 3, none⟩ = some (.slice svo T[j].sl.length svc)) := fun W' ht j hj => by
    obtain ⟨ao', cap', e, h⟩ := HT.out.no ht
    injection e with e1 e2 e3
    subst e1
    obtain ⟨b, off, sv, e1, h1, h2, h3, h4, h5, ⟨sa, sc, rfl, _⟩⟩ := h j hj
    exact ⟨b, off, sa, sc, e1, h4⟩
  obtain ⟨W, HWd⟩ : ∃ W, Hid (W = w.alloc (.cells #[.slice ta T.length tc, .slice ra R.length rc] 25)) := ⟨_, rfl⟩
  have HK : Hid (Kept No w W) := by show Kept _ _ _; rw [HWd.out]; exact (Kept.refl _ _).alloc _
  have hb : W.heap[w.heap.size]? = some (.cells #[.slice ta T.length tc, .slice ra R.length rc] 25 (0, 0)) := by rw [HWd.out]; exact World.alloc_heap_new w _
  have g0 : W.cell? ⟨w.heap.size, 0, none⟩ = some (.slice ta T.length tc) := by rw [cell_of hb]; rfl
  have g1 : W.cell? ⟨w.heap.size, 1, none⟩ = some (.slice ra R.length rc) := by rw [cell_of hb]; rfl
  obtain ⟨rr, HRr⟩ : ∃ rr, Hid (smallB T R = rr) := ⟨_, rfl⟩
  rw [HRr.out]
  have HS0 : Hid (slots T R 0 = R.length) := by show _ = _; simp [slots]
  clear hb hs
  go_enter Try.func10, Try.ntmps10
  go_wp2_with (first | rw [← HWd.out])
  go_loopw [3, 4] (fun m i wr => ∃ j : Nat, j ≤ T.length ∧ j ≤ 61 ∧ i = .int .i64 j ∧ m = .int .i64 (slots T R j : Nat) ∧ slots T R j ≤ 140737488355328 * (j + 1) ∧ wr = W) (fun _ i _ => 61 - (intOf i).toNat)
  case atStart => exact ⟨0, by omega, by omega, rfl, by rw [HS0.out], by rw [HS0.out]; omega, rfl⟩
  case round =>
    obtain ⟨j, hj, hj61, rfl, rfl, hsl, rfl⟩ := hrel
    by_cases hlt : j < T.length
    · have k1 : (j : Int) < (T.length : Int) := by omega
      by_cases h60 : j ≤ 60
      · have k2 : (j : Int) ≤ 60 := by omega
        obtain ⟨b, off, svo, svc, rfl, r3⟩ := HTh.out _ HK.out j hlt
        have hb1 := HS.out T[j] (List.getElem_mem hlt)
        have hsu := slots_succ T R j hlt
        have HSu : Hid (slots T R (j + 1) = slots T R j + T[j].sl.length) := hsu
        generalize T[j].sl.length = ln at r3 hb1 HSu hsu
        generalize slots T R j = sj at hsl HSu hsu ⊢
        have hbig : (sj : Int) + (ln : Int) < 9223372036854775807 := by omega
        clear hsu
        go_wp2
        go_roundw
        case rel => exact ⟨j + 1, by omega, by omega, by go_num, by rw [HSu.out]; go_num, by rw [HSu.out]; omega, by first | rfl | trivial⟩
        case measure => simp [intOf]; omega
      · have k2 : ¬ (j : Int) ≤ 60 := by omega
        have k3 : ¬ (T.length : Int) ≤ 60 := by omega
        have HY : Hid (rr = false) := by
          show _ = _
          rw [← HRr.out]; unfold smallB; simp; omega
        go_wp2
        go_ret
        exact ⟨by rw [HY.out]; rfl, HK.out⟩
    · have k1 : ¬ (j : Int) < (T.length : Int) := by omega
      obtain rfl : j = T.length := by omega
      by_cases h60 : T.length ≤ 60
      · have k3 : (T.length : Int) ≤ 60 := by omega
        have HY : Hid (rr = decide ((slots T R T.length : Int) ≤ 600)) := by
          show _ = _
          rw [← HRr.out]; unfold smallB; simp [h60]; omega
        go_wp2
        go_ret
        exact ⟨by rw [HY.out]; rfl, HK.out⟩
      · have k3 : ¬ (T.length : Int) ≤ 60 := by omega
        have HY : Hid (rr = false) := by
          show _ = _
          rw [← HRr.out]; unfold smallB; simp; omega
        go_wp2
        go_ret
        exact ⟨by rw [HY.out]; rfl, HK.out⟩
end Go.Proofs.Ytnofmpbdfcolfaa
