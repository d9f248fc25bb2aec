/- The document's all; the law's Bools. -/
import Derived.Test.YtnofmpbdfcolfaaS4
namespace Go.Proofs.Ytnofmpbdfcolfaa
open Go.RowKit Go.Shelf
set_option linter.unusedSimpArgs false
set_option linter.unusedVariables false

set_option maxRecDepth 20000 in
set_option maxHeartbeats 4000000 in
theorem Bools_same {w : World} {a b n : Nat} {l : List Bool} (hl : l.length = n) (hn : n ≤ 1000000) (ha : w.heap[a]? = some (.cells (bc l).toArray 4 (0, 0))) (hb : w.heap[b]? = some (.cells (bc l).toArray 4 (0, 0))) :
    Calls Try.prog 12 #[SLN a n, SLN b n] w fun e w' => e = .returned (.bool true) ∧ Kept No w w' := by
  have HA : Hid (∀ X, Kept No w X → ∀ j, j < n → X.cell? ⟨a, j, none⟩ = some (.bool (l.getD j true)) ∧ X.cell? ⟨b, j, none⟩ = some (.bool (l.getD j true))) := fun X hX j hj => ⟨by rw [cell_of (hX.heap ha id)]; exact bc_get l j (by omega), by rw [cell_of (hX.heap hb id)]; exact bc_get l j (by omega)⟩
  clear ha hb hl
  go_enter Try.func12, Try.ntmps12
  go_wp2_with fail
  go_loopw [5, 11, 12, 13, 14, 15, 16, 17, 18, 19, 20, 21, 22, 23, 24, 25] (fun i _ _ _ _ _ _ _ _ _ _ _ _ _ _ _ wr => ∃ j : Nat, j ≤ n ∧ i = .int .i64 j ∧ Hid (Kept No w wr)) (fun i _ _ _ _ _ _ _ _ _ _ _ _ _ _ _ _ => n - (intOf i).toNat)
  case atStart => exact ⟨0, by omega, rfl, Kept.refl _ _⟩
  case round =>
    obtain ⟨j, hj, rfl, HK⟩ := hrel
    by_cases hlt : j < n
    · have k1 : (j : Int) < (n : Int) := by omega
      obtain ⟨x0, x1⟩ := HA.out wr HK.out j hlt
      generalize l.getD j true = bb at x0 x1
      cases bb
      all_goals
        go_wp2_with fail
        go_quiet (fail)
        have HK4 : Hid (Kept No w (wr.drewN nq)) := HK.out.drewN nq
        clear x0 x1
        generalize wr.drewN nq = X5 at HK4 ⊢
        go_wp2_with fail
        go_roundw
        case rel => exact ⟨j + 1, by omega, by go_num, HK4.out⟩
        case measure => simp [intOf]; omega
    · have k1 : ¬ (j : Int) < (n : Int) := by omega
      go_wp2
      go_ret
      exact ⟨rfl, HK.out⟩

set_option maxRecDepth 20000 in
set_option maxHeartbeats 4000000 in
theorem Rall_any {w : World} {ao ro lo : Option Addr} {cap rn rc lc : Nat} {T : List Th} {L : List V} (hT : RdT w (.slice ao T.length cap) T) (hL : RdV w (.slice lo L.length lc) L) (hn : T.length ≤ 1000000) (hl : L.length ≤ 1000000) :
    Calls Try.prog 35 #[AG ao T.length cap ro rn rc, .slice lo L.length lc] w fun e w' => e = .returned (.bool (rVals T L)) ∧ Kept No w w' := by
  have HT : Hid (RdT w (.slice ao T.length cap) T) := hT
  have HLr : Hid (∀ j (hj : j < L.length), ∃ b off, lo = some ⟨b, off, none⟩ ∧ ∀ W, Kept No w W → W.cell? ⟨b, off + j * 2, none⟩ = some (.int .i64 L[j].1) ∧ W.cell? ⟨b, off + j * 2 + 1, none⟩ = some (.int .i64 L[j].2)) := fun j hj => by
    obtain ⟨ao', cap', e, h⟩ := hL
    injection e with e1 e2 e3
    subst e1
    obtain ⟨b, off, e2, h1, h2⟩ := h j hj
    exact ⟨b, off, e2, fun W hW => ⟨by rw [cell_al hW h1]; exact h1, by rw [cell_al hW h2]; exact h2⟩⟩
  obtain ⟨W, HWd⟩ : ∃ W, Hid (W = w.alloc (.cells #[.slice ao T.length cap, .slice ro rn rc] 25)) := ⟨_, rfl⟩
  have HKW : Hid (Kept No w W) := by show Kept _ _ _; rw [HWd.out]; exact (Kept.refl _ _).alloc _
  have HGx : Hid (W.heap[w.heap.size]? = some (.cells #[.slice ao T.length cap, .slice ro rn rc] 25 (0, 0))) := by show _ = _; rw [HWd.out]; exact World.alloc_heap_new w _
  obtain ⟨rr, HRr⟩ : ∃ rr, Hid (rVals T L = rr) := ⟨_, rfl⟩
  rw [HRr.out]
  clear hT hL
  go_enter Try.func35, Try.ntmps35
  go_wp2_with (first | rw [← HWd.out])
  go_loopw [5, 6, 7, 8, 9, 10, 11, 12, 13, 14, 15, 16, 17, 18, 19, 20, 21, 22, 23, 24, 25, 26, 27, 28, 29, 30, 31, 32, 33, 34] (fun i _ _ _ _ _ _ _ _ _ _ _ _ _ _ _ _ _ _ _ _ _ _ _ _ _ _ _ _ _ wr => ∃ j : Nat, j ≤ L.length ∧ i = .int .i64 j ∧ Hid (Kept No W wr ∧ ∀ x ∈ L.take j, rVal T x = true)) (fun i _ _ _ _ _ _ _ _ _ _ _ _ _ _ _ _ _ _ _ _ _ _ _ _ _ _ _ _ _ _ => L.length - (intOf i).toNat)
  case atStart => exact ⟨0, by omega, rfl, Kept.refl _ _, by simp⟩
  case round =>
    obtain ⟨j, hj, rfl, HJ⟩ := hrel
    by_cases hlt : j < L.length
    · have k1 : (j : Int) < (L.length : Int) := by omega
      obtain ⟨b, off, rfl, hv⟩ := HLr.out j hlt
      have HTk : Hid (∀ y ∈ L.take (j + 1), y ∈ L.take j ∨ y = L[j]) := fun y hy => by
        rw [List.take_succ_eq_append_getElem hlt] at hy
        rcases List.mem_append.1 hy with h | h
        · exact .inl h
        · exact .inr (by simpa using h)
      have HMem : Hid (L[j] ∈ L) := List.getElem_mem hlt
      generalize L[j] = v at hv HTk HMem
      obtain ⟨v1, v2⟩ := v
      dsimp only at hv
      have HK : Hid (Kept No w wr) := HKW.out.trans HJ.out.1
      obtain ⟨x0, x1⟩ := hv wr HK.out
      have HNx : Hid (rVal T (v1, v2) = true → ∀ x ∈ L.take (j + 1), rVal T x = true) := fun h x hx => by
        rcases HTk.out x hx with h1 | h1
        · exact HJ.out.2 x h1
        · rw [h1]; exact h
      by_cases h4 : (4 : Int) ≤ v1
      · by_cases h9 : v1 ≤ 9
        · have HCw : Hid (∀ X, Kept No wr X → (X.cell? ⟨w.heap.size, 0, none⟩ = some (.slice ao T.length cap) ∧ X.cell? ⟨w.heap.size, 1, none⟩ = some (.slice ro rn rc)) ∧ X.cell? ⟨b, off + j * 2, none⟩ = some (.int .i64 v1) ∧ X.cell? ⟨b, off + j * 2 + 1, none⟩ = some (.int .i64 v2)) := fun X hX => by
            have hg := (HJ.out.1.trans hX).heap HGx.out id
            exact ⟨⟨by rw [cell_of hg]; rfl, by rw [cell_of hg]; rfl⟩, hv X (HK.out.trans hX)⟩
          have HOb : Hid (∀ X, Kept No w X → Calls Try.prog 21 #[AG ao T.length cap ro rn rc, AV (v1, v2)] X fun e w' => e = .returned (.int .i64 (objN T (v1, v2))) ∧ Kept No X w') := fun X hX => RObject_any (HT.out.no hX) (by omega) (v1, v2)
          have ho : oT v1 = true := by simp [oT, h4, h9]
          clear x0 x1 hv
          go_wp2_with fail
          refine region_quiet_class (C := fun w' => Kept No wr w') mixed (by kernel_rfl) (Kept.refl _ _).drew ?_
          refine q_op (.slice (some ⟨b, off, none⟩) L.length lc) (by kernel_rfl) (fun W1 hW1 => by simp [go_sem]) ?_
          try simp only [Act.put, List.setIfInBounds_toArray, List.set_cons_zero, List.set_cons_succ, List.getElem_toArray, List.getElem_cons_zero, List.getElem_cons_succ]
          refine q_op (.int .i64 j) (by kernel_rfl) (fun W1 hW1 => by simp [go_sem]) ?_
          try simp only [Act.put, List.setIfInBounds_toArray, List.set_cons_zero, List.set_cons_succ, List.getElem_toArray, List.getElem_cons_zero, List.getElem_cons_succ]
          refine q_op (.pointer (some ⟨b, off + j * 2, none⟩)) (by kernel_rfl) (fun W1 hW1 => by simp [go_sem, k1]) ?_
          try simp only [Act.put, List.setIfInBounds_toArray, List.set_cons_zero, List.set_cons_succ, List.getElem_toArray, List.getElem_cons_zero, List.getElem_cons_succ]
          refine q_op (.pointer (some ⟨b, off + j * 2, none⟩)) (by kernel_rfl) (fun W1 hW1 => by simp [go_sem]) ?_
          try simp only [Act.put, List.setIfInBounds_toArray, List.set_cons_zero, List.set_cons_succ, List.getElem_toArray, List.getElem_cons_zero, List.getElem_cons_succ]
          refine q_op (.int .i64 v1) (by kernel_rfl) (fun W1 hW1 => by obtain ⟨⟨a0, a1⟩, a2, a3⟩ := HCw.out W1 hW1; simp [go_sem, a2]) ?_
          try simp only [Act.put, List.setIfInBounds_toArray, List.set_cons_zero, List.set_cons_succ, List.getElem_toArray, List.getElem_cons_zero, List.getElem_cons_succ]
          refine q_op (.bool true) (by kernel_rfl) (fun W1 hW1 => by simp [go_sem, h4]) ?_
          try simp only [Act.put, List.setIfInBounds_toArray, List.set_cons_zero, List.set_cons_succ, List.getElem_toArray, List.getElem_cons_zero, List.getElem_cons_succ]
          refine q_op (.bool true) (by kernel_rfl) (fun W1 hW1 => by simp [go_sem]) ?_
          try simp only [Act.put, List.setIfInBounds_toArray, List.set_cons_zero, List.set_cons_succ, List.getElem_toArray, List.getElem_cons_zero, List.getElem_cons_succ]
          refine q_op (.slice (some ⟨b, off, none⟩) L.length lc) (by kernel_rfl) (fun W1 hW1 => by simp [go_sem]) ?_
          try simp only [Act.put, List.setIfInBounds_toArray, List.set_cons_zero, List.set_cons_succ, List.getElem_toArray, List.getElem_cons_zero, List.getElem_cons_succ]
          refine q_op (.int .i64 j) (by kernel_rfl) (fun W1 hW1 => by simp [go_sem]) ?_
          try simp only [Act.put, List.setIfInBounds_toArray, List.set_cons_zero, List.set_cons_succ, List.getElem_toArray, List.getElem_cons_zero, List.getElem_cons_succ]
          refine q_op (.pointer (some ⟨b, off + j * 2, none⟩)) (by kernel_rfl) (fun W1 hW1 => by simp [go_sem, k1]) ?_
          try simp only [Act.put, List.setIfInBounds_toArray, List.set_cons_zero, List.set_cons_succ, List.getElem_toArray, List.getElem_cons_zero, List.getElem_cons_succ]
          refine q_op (.pointer (some ⟨b, off + j * 2, none⟩)) (by kernel_rfl) (fun W1 hW1 => by simp [go_sem]) ?_
          try simp only [Act.put, List.setIfInBounds_toArray, List.set_cons_zero, List.set_cons_succ, List.getElem_toArray, List.getElem_cons_zero, List.getElem_cons_succ]
          refine q_op (.int .i64 v1) (by kernel_rfl) (fun W1 hW1 => by obtain ⟨⟨a0, a1⟩, a2, a3⟩ := HCw.out W1 hW1; simp [go_sem, a2]) ?_
          try simp only [Act.put, List.setIfInBounds_toArray, List.set_cons_zero, List.set_cons_succ, List.getElem_toArray, List.getElem_cons_zero, List.getElem_cons_succ]
          refine q_op (.bool true) (by kernel_rfl) (fun W1 hW1 => by simp [go_sem, h9]) ?_
          try simp only [Act.put, List.setIfInBounds_toArray, List.set_cons_zero, List.set_cons_succ, List.getElem_toArray, List.getElem_cons_zero, List.getElem_cons_succ]
          refine q_op (.bool true) (by kernel_rfl) (fun W1 hW1 => by simp [go_sem]) ?_
          try simp only [Act.put, List.setIfInBounds_toArray, List.set_cons_zero, List.set_cons_succ, List.getElem_toArray, List.getElem_cons_zero, List.getElem_cons_succ]
          refine q_op (.bool true) (by kernel_rfl) (fun W1 hW1 => by simp [go_sem]) ?_
          try simp only [Act.put, List.setIfInBounds_toArray, List.set_cons_zero, List.set_cons_succ, List.getElem_toArray, List.getElem_cons_zero, List.getElem_cons_succ]
          refine q_op (AG ao T.length cap ro rn rc) (by kernel_rfl) (fun W1 hW1 => by obtain ⟨⟨a0, a1⟩, a2, a3⟩ := HCw.out W1 hW1; simp [go_sem, a0, a1]) ?_
          try simp only [Act.put, List.setIfInBounds_toArray, List.set_cons_zero, List.set_cons_succ, List.getElem_toArray, List.getElem_cons_zero, List.getElem_cons_succ]
          refine q_op (.slice (some ⟨b, off, none⟩) L.length lc) (by kernel_rfl) (fun W1 hW1 => by simp [go_sem]) ?_
          try simp only [Act.put, List.setIfInBounds_toArray, List.set_cons_zero, List.set_cons_succ, List.getElem_toArray, List.getElem_cons_zero, List.getElem_cons_succ]
          refine q_op (.int .i64 j) (by kernel_rfl) (fun W1 hW1 => by simp [go_sem]) ?_
          try simp only [Act.put, List.setIfInBounds_toArray, List.set_cons_zero, List.set_cons_succ, List.getElem_toArray, List.getElem_cons_zero, List.getElem_cons_succ]
          refine q_op (.pointer (some ⟨b, off + j * 2, none⟩)) (by kernel_rfl) (fun W1 hW1 => by simp [go_sem, k1]) ?_
          try simp only [Act.put, List.setIfInBounds_toArray, List.set_cons_zero, List.set_cons_succ, List.getElem_toArray, List.getElem_cons_zero, List.getElem_cons_succ]
          refine q_op (AV (v1, v2)) (by kernel_rfl) (fun W1 hW1 => by obtain ⟨⟨a0, a1⟩, a2, a3⟩ := HCw.out W1 hW1; simp [go_sem, a2, a3]) ?_
          try simp only [Act.put, List.setIfInBounds_toArray, List.set_cons_zero, List.set_cons_succ, List.getElem_toArray, List.getElem_cons_zero, List.getElem_cons_succ]
          refine q_call 21 #[AG ao T.length cap ro rn rc, AV (v1, v2)] (.int .i64 (objN T (v1, v2))) (by kernel_rfl) (fun W1 hW1 => by simp [go_sem]) (fun W1 hW1 => (HOb.out W1 (HK.out.trans hW1)).mono (fun e w' ⟨h1, h2⟩ => ⟨h1, hW1.trans h2⟩)) ?_
          try simp only [Act.put, List.setIfInBounds_toArray, List.set_cons_zero, List.set_cons_succ, List.getElem_toArray, List.getElem_cons_zero, List.getElem_cons_succ]
          refine q_op (.bool (objN T (v1, v2) == 0)) (by kernel_rfl) (fun W1 hW1 => by simp [go_sem]) ?_
          try simp only [Act.put, List.setIfInBounds_toArray, List.set_cons_zero, List.set_cons_succ, List.getElem_toArray, List.getElem_cons_zero, List.getElem_cons_succ]
          refine q_op (.bool (objN T (v1, v2) == 0)) (by kernel_rfl) (fun W1 hW1 => by simp [go_sem]) ?_
          try simp only [Act.put, List.setIfInBounds_toArray, List.set_cons_zero, List.set_cons_succ, List.getElem_toArray, List.getElem_cons_zero, List.getElem_cons_succ]
          refine wpQuiet_nil ?_
          intro X3 hX3
          have HK4 : Hid (Kept No W X3) := HJ.out.1.trans hX3
          clear hX3 HCw HOb
          cases hob : obj T (v1, v2) with
          | false =>
            have hoN : (objN T (v1, v2) == 0) = true := by unfold objN; rw [if_neg (by rw [hob]; decide)]; rfl
            have HZ : Hid (rr = false) := by
              show _ = _
              rw [← HRr.out]
              unfold rVals
              rw [List.all_eq_false]
              exact ⟨_, HMem.out, by unfold rVal; simp [ho, hob]⟩
            rw [hoN]
            clear hoN hob ho HTk HNx
            go_wp2
            go_ret
            exact ⟨by rw [HZ.out]; rfl, HKW.out.trans HK4.out⟩
          | true =>
            have hoN : (objN T (v1, v2) == 0) = false := by
              unfold objN; rw [if_pos hob]
              have := (obj_ix hob).2.1
              dsimp only at this
              simp; omega
            have HAl : Hid (∀ x ∈ L.take (j + 1), rVal T x = true) := HNx.out (by unfold rVal; simp [hob])
            rw [hoN]
            clear hoN hob ho HTk HNx
            go_wp2_with fail
            go_roundw
            case rel => exact ⟨j + 1, by omega, by go_num, HK4.out, HAl.out⟩
            case measure => simp [intOf]; omega
        · have d1 : decide ((4 : Int) ≤ v1) = true := by simpa using h4
          have d2 : decide (v1 ≤ 9) = false := by simpa using h9
          have HAl : Hid (∀ x ∈ L.take (j + 1), rVal T x = true) := HNx.out (by unfold rVal oT; simp [h9])
          clear HTk HNx hv
          go_wp2_with fail
          go_quiet (fail)
          have HK4 : Hid (Kept No W (wr.drewN nq)) := HJ.out.1.drewN nq
          clear x0 x1 d1 d2
          generalize wr.drewN nq = X5 at HK4 ⊢
          go_wp2_with fail
          go_roundw
          case rel => exact ⟨j + 1, by omega, by go_num, HK4.out, HAl.out⟩
          case measure => simp [intOf]; omega
      · have d1 : decide ((4 : Int) ≤ v1) = false := by simpa using h4
        have HAl : Hid (∀ x ∈ L.take (j + 1), rVal T x = true) := HNx.out (by unfold rVal oT; simp [h4])
        clear HTk HNx hv
        go_wp2_with fail
        go_quiet (fail)
        have HK4 : Hid (Kept No W (wr.drewN nq)) := HJ.out.1.drewN nq
        clear x0 x1 d1
        generalize wr.drewN nq = X5 at HK4 ⊢
        go_wp2_with fail
        go_roundw
        case rel => exact ⟨j + 1, by omega, by go_num, HK4.out, HAl.out⟩
        case measure => simp [intOf]; omega
    · have k1 : ¬ (j : Int) < (L.length : Int) := by omega
      obtain rfl : j = L.length := by omega
      have HZ : Hid (rr = true) := by
        show _ = _
        rw [← HRr.out]
        have := HJ.out.2
        rw [List.take_length] at this
        exact find_all T L this
      go_wp2
      go_ret
      exact ⟨by rw [HZ.out]; rfl, HKW.out.trans HJ.out.1⟩
end Go.Proofs.Ytnofmpbdfcolfaa
