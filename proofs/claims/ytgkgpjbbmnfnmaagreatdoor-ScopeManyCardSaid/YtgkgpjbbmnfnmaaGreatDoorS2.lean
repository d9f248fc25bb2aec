/- Scope: size, cut, last. -/
import Derived.Test.YtgkgpjbbmnfnmaaGreatDoorS1
namespace Go.Proofs.YtgkgpjbbmnfnmaaGreatDoor
open Go.RowKit
set_option linter.unusedSimpArgs false
set_option linter.unusedVariables false

set_option maxRecDepth 20000 in
theorem size_any {w : World} {B sb : Nat} {v : Value} {l : List Ent} (h : Sk w B sb v l) :
    Calls Tryz.prog 64 #[.pointer (some ⟨sb, 0, none⟩)] w fun r w' => r = .returned (.int .i64 (l.length : Int)) ∧ w = w' := by
  obtain ⟨ao, cap, rfl, hcap⟩ := h.slice
  have s0 := cell_of h.box 0
  simp only [List.getElem?_toArray, List.getElem?_cons_zero] at s0
  clear h
  go_enter Tryz.func64, Tryz.ntmps64
  go_wp2
  go_ret
  exact ⟨rfl, rfl⟩

set_option maxRecDepth 20000 in
set_option maxHeartbeats 2000000 in
theorem cut_k {w : World} {B sb : Nat} {v : Value} {l : List Ent} (h : Sk w B sb v l) (k : Nat) (hk : k ≤ l.length) :
    Calls Tryz.prog 65 #[.int .i64 (k : Int), .pointer (some ⟨sb, 0, none⟩)] w fun r w' => r = .returned (.tuple #[]) ∧ ∃ v', Sk w' B sb v' (l.take k) ∧ PassK sb v w v' w' := by
  obtain ⟨ao, cap, rfl, hcap⟩ := h.slice
  have s0 := cell_of h.box 0
  have sf := frozen_of h.box 0
  simp only [List.getElem?_toArray, List.getElem?_cons_zero] at s0
  have k1 : (0 : Int) ≤ (k : Int) := by omega
  have k2 : (k : Int) ≤ (cap : Int) := by omega
  have HF : Hid (Sk (w.setCell ⟨sb, 0, none⟩ (.slice ao k cap)) B sb (.slice ao k cap) (l.take k)) := by
    refine ⟨set_same (c := #[.slice ao l.length cap]) h.box 0 _, ?_, h.lt, by have := h.le; simpa using this⟩
    have hl : (l.take k).length = k := by rw [List.length_take]; omega
    rw [hl]
    obtain ⟨o1, ⟨o2, o3⟩ | ⟨g, cp, cur, o3, o4, o5, o6, o7, o8, o9⟩⟩ := h.row
    · simp only [Value.slice.injEq] at o2
      obtain ⟨rfl, h0, rfl⟩ := o2
      obtain rfl : k = 0 := by omega
      exact ⟨by rw [flE_len]; omega, .inl ⟨rfl, rfl⟩⟩
    · simp only [Value.slice.injEq] at o3
      obtain ⟨rfl, _, rfl⟩ := o3
      refine ⟨by rw [flE_len, hl], .inr ⟨g, cap, cur, rfl, o4, set_other o5 _ _ (by have := h.lt; omega), by omega, o7, o8, ?_⟩⟩
      rw [← flE_take, ← o9, List.take_take, Nat.min_eq_left (by omega)]
  have HP : Hid (PassK sb (.slice ao l.length cap) w (.slice ao k cap) (w.setCell ⟨sb, 0, none⟩ (.slice ao k cap))) := by
    refine ⟨(Kept.refl _ w).set sb 0 _ (.inl (.inl rfl)), .inl ?_⟩
    cases ao <;> rfl
  clear h
  go_enter Tryz.func65, Tryz.ntmps65
  go_wp2
  exact bodyPost_end (results_none Tryz.results65 _ _ _) rfl ⟨rfl, _, HF.out, HP.out⟩

set_option maxRecDepth 20000 in
set_option maxHeartbeats 4000000 in
theorem last_any {w : World} {B sb : Nat} {v : Value} {l : List Ent} (h : Sk w B sb v l) (t : ByteArray) (hl : l.length ≤ 100000) :
    Calls Tryz.prog 66 #[.string t, .pointer (some ⟨sb, 0, none⟩)] w fun r w' => r = .returned (.agg #[.int .i64 (lookK l t l.length).1, .int .i64 (lookK l t l.length).2]) ∧ Kept No w w' := by
  obtain ⟨W0, HW0⟩ : ∃ W0, Hid (w.alloc (.cells #[.int .i64 0, .int .i64 0] 89) = W0) := ⟨_, show _ = _ from rfl⟩
  have k0 : Kept No w W0 := by rw [← HW0.out]; exact (Kept.refl No w).alloc _
  have hr0 : W0.heap[w.heap.size]? = some (.cells #[.int .i64 0, .int .i64 0] 89 (0, 0)) := HW0.out ▸ World.alloc_heap_new w _
  have h0 := h.no k0
  obtain ⟨ao, cap, rfl, hcap⟩ := h.slice
  have s0 := cell_of h0.box 0
  simp only [List.getElem?_toArray, List.getElem?_cons_zero] at s0
  have HS : Hid (Sk W0 B sb (.slice ao l.length cap) l ∧ Kept No w W0 ∧ W0.heap[w.heap.size]? = some (.cells #[.int .i64 0, .int .i64 0] 89 (0, 0))) := ⟨h0, k0, hr0⟩
  obtain ⟨R, HR⟩ : ∃ R, Hid (lookK l t l.length = R) := ⟨_, show _ = _ from rfl⟩
  rw [HR.out]
  obtain ⟨T, HT⟩ : ∃ T, Hid (w.heap.size = T) := ⟨_, show _ = _ from rfl⟩
  have hLn : Hid (l.length ≤ 100000) := hl
  have w0 : wrap64 ((l.length : Int) - 1) = (l.length : Int) - 1 := by unfold wrap64; omega
  clear h h0 k0 hr0 hl
  go_enter Tryz.func66, Tryz.ntmps66
  go_wp2_with (first | rw [HW0.out])
  rw [HT.out]
  go_loopw [4] (fun i wr => ∃ j : Nat, j ≤ l.length ∧ i = .int .i64 ((j : Int) - 1) ∧ Hid (lookK l t j = R) ∧ wr = W0) (fun i _ => (intOf i + 1).toNat)
  case atStart => exact ⟨l.length, Nat.le_refl _, by go_num, HR.out, rfl⟩
  case round =>
    obtain ⟨j, hj, rfl, HJ, rfl⟩ := hrel
    have r0 := cell_of HS.out.2.2 0
    have r1 := cell_of HS.out.2.2 1
    have rf := fun o => frozen_of HS.out.2.2 o
    rw [HT.out] at r0 r1 rf
    simp only [List.getElem?_toArray, List.getElem?_cons_zero, List.getElem?_cons_succ] at r0 r1
    rcases j with _ | j
    · have k1 : ¬ (0 : Int) ≤ ((0 : Nat) : Int) - 1 := by omega
      have e1 : R = (-1, -1) := by rw [← HJ.out]; rfl
      subst e1
      go_wp2_with fail
      refine bodyPost_ret (v := .agg #[.int .i64 (-1), .int .i64 (-1)]) (by simp [results, Tryz.results66, go_sem, r0, r1, rf]) rfl ?_
      exact ⟨rfl, by rw [← HT.out]; exact ((HS.out.2.1.set _ 0 _ (.inr (Nat.le_refl _))).set _ 1 _ (.inr (Nat.le_refl _)))⟩
    · obtain ⟨g, cp, e1, a0, a1, a2⟩ := HS.out.1.at j (by omega)
      simp only [Value.slice.injEq] at e1
      obtain ⟨rfl, _, rfl⟩ := e1
      have k1 : (0 : Int) ≤ ((j + 1 : Nat) : Int) - 1 := by omega
      have k2 : (((j + 1 : Nat) : Int) - 1) = (j : Int) := by omega
      have k3 : (j : Int) < (l.length : Int) := by omega
      have k4 : (0 : Int) ≤ (j : Int) := by omega
      have hJ := HJ.out
      rw [lookK, List.getElem?_eq_getElem (show j < l.length by omega)] at hJ
      dsimp only at hJ
      have w1 : wrap64 ((j : Int) - 1) = (j : Int) - 1 := by unfold wrap64; have := hLn.out; omega
      rw [k2]
      generalize l[j] = e at a0 a1 a2 hJ
      cases ht : (e.t.toList == t.toList) with
      | true =>
        rw [ht, if_pos rfl] at hJ
        subst hJ
        go_wp2_with fail
        refine bodyPost_ret (v := .agg #[.int .i64 e.o, .int .i64 e.n]) (by simp [results, Tryz.results66, go_sem, r0, r1, rf]) rfl ?_
        exact ⟨rfl, by rw [← HT.out]; exact ((HS.out.2.1.set _ 0 _ (.inr (Nat.le_refl _))).set _ 1 _ (.inr (Nat.le_refl _)))⟩
      | false =>
        rw [ht, if_neg (by decide)] at hJ
        have HJ2 : Hid _ := hJ
        clear hJ HJ
        go_wp2_with fail
        go_roundw
        case rel => exact ⟨j, by omega, by go_num, HJ2.out, trivial⟩
        case measure => simp [intOf]; omega
end Go.Proofs.YtgkgpjbbmnfnmaaGreatDoor
