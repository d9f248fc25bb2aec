/- Shrink. -/
import Derived.Test.YtbhmgmbgplkkeaaDoorS2
import Derived.Test.YtbhmgmbgplkkeaaDoorQ0
namespace Go.Proofs.YtbhmgmbgplkkeaaDoor
open Go.RowKit
set_option linter.unusedSimpArgs false
set_option linter.unusedVariables false

set_option maxRecDepth 20000 in
set_option maxHeartbeats 4000000 in
theorem Shrink_any {w : World} {lv : Value} {L : List V} (hL : RdV w lv L) (hn : L.length ≤ 100000) :
    Calls Tryd.prog 18 #[lv] w fun e w' => ∃ v, e = .returned v ∧ VRow w' w.heap.size v (shr L) ∧ Kept No w w' := by
  obtain ⟨ao, cap, rfl, hcap, hC⟩ := hL
  go_enter Tryd.func18, Tryd.ntmps18
  go_wp2_with fail
  go_loop [3] (fun i => ∃ e : Nat, e ≤ L.length ∧ i = .int .i64 e ∧ Hid (endN (L.take e) = endN L)) (fun i => (intOf i).toNat)
  case atStart => exact ⟨L.length, Nat.le_refl _, rfl, by show _ = _; rw [List.take_length]⟩
  case round =>
    obtain ⟨e, he, rfl, HE⟩ := hrel
    rcases Nat.eq_zero_or_pos e with h0 | h0
    · subst h0
      have hE : Hid (endN L = 0) := HE.out.symm
      have hlast : True := trivial
      have hec : 0 ≤ cap := by omega
      clear hlast
      go_wp2_with fail
      go_loopw [4, 26] (fun v4 v26 wr => ∃ i : Nat, i ≤ 0 ∧ v26 = .int .i64 i ∧ Hid (VRow wr w.heap.size v4 (keepF none (L.take i)) ∧ Kept No w wr)) (fun _ v26 _ => 0 - (intOf v26).toNat)
      case atStart => exact ⟨0, by omega, rfl, VRow.nil _ _, Kept.refl _ _⟩
      case round =>
        obtain ⟨i, hi, rfl, HR⟩ := hrel
        by_cases hlt : i < 0
        · omega
        · obtain rfl : i = 0 := by omega
          clear hC
          go_wp2
          go_ret
          exact ⟨_, rfl, by unfold shr trimF; rw [hE.out]; exact HR.out.1, HR.out.2⟩
    · obtain ⟨m, rfl⟩ : ∃ m, e = m + 1 := ⟨e - 1, by omega⟩
      have hm1 : ((m + 1 : Nat) : Int) - 1 = (m : Int) := by omega
      have hm2 : (m : Int) < (L.length : Int) := by omega
      have hm3 : (0 : Int) < ((m + 1 : Nat) : Int) := by omega
      have HT := endN_take L (m + 1) (by omega) he
      obtain ⟨b, off, hao, x0, x1⟩ := hC m (by omega)
      subst hao
      have hk : Hid (L[m + 1 - 1] = L[m]) := rfl
      rw [hk.out] at HT
      have HT : Hid (endN (L.take (m + 1)) = if L[m].1 = 0 then endN (L.take (m + 1 - 1)) else m + 1) := HT
      generalize hg : L[m].1 = k at x0 HT
      by_cases hk0 : k = 0
      · subst hk0
        clear hC x1
        go_wp2_with fail
        go_round
        case rel => exact ⟨m, by omega, by go_num, by show _ = _; rw [← HE.out, HT.out, if_pos rfl]; rfl⟩
        case measure => simp [intOf] <;> omega
      · have hE : Hid (endN L = m + 1) := by show _ = _; rw [← HE.out, HT.out, if_neg hk0]
        have hlast : (k == 0) = false := by rw [beq_eq_false_iff_ne]; exact hk0
        have hec : (m + 1) ≤ cap := by omega
        clear hlast
        go_wp2_with fail
        go_loopw [4, 26] (fun v4 v26 wr => ∃ i : Nat, i ≤ (m + 1) ∧ v26 = .int .i64 i ∧ Hid (VRow wr w.heap.size v4 (keepF none (L.take i)) ∧ Kept No w wr)) (fun _ v26 _ => (m + 1) - (intOf v26).toNat)
        case atStart => exact ⟨0, by omega, rfl, VRow.nil _ _, Kept.refl _ _⟩
        case round =>
          obtain ⟨i, hi, rfl, HR⟩ := hrel
          by_cases hlt : i < (m + 1)

          · obtain ⟨b9, off9, hbo, hx⟩ := hC i (by omega)
            clear hbo
            have HLe : Hid ((keepF none (L.take i)).length + 1 ≤ 1000000) := by
              show _ ≤ _
              have := keepF_le (L.take i) none
              rw [List.length_take] at this; omega
            have HSt : Hid _ := keepF_step L i (by omega)
            have HC : Hid (∀ j (hj : j < L.length), w.cell? ⟨b, off + j * 2, none⟩ = some (.int .i64 L[j].1) ∧ w.cell? ⟨b, off + j * 2 + 1, none⟩ = some (.int .i64 L[j].2)) := fun j hj => by
              obtain ⟨b', off', e1, h1⟩ := hC j hj
              injection e1 with e1
              injection e1 with e1 e2
              subst e1 e2
              exact h1
            have HX : Hid (∀ X, Kept No w X → ∀ o v, w.cell? ⟨b, o, none⟩ = some v → X.cell? ⟨b, o, none⟩ = some v) := fun X hX o v h => by
              have hb : b < w.heap.size := by
                rcases Nat.lt_or_ge b w.heap.size with hb | hb
                · exact hb
                · simp [World.cell?, Array.getElem?_eq_none hb] at h
              rw [World.cell?_of_block (hX.block b hb id)]; exact h
            have k0 := HX.out _ HR.out.2 _ _ (HC.out i (by omega)).1
            have k1 := HX.out _ HR.out.2 _ _ (HC.out i (by omega)).2
            clear hx hC
            have HPr : Hid (∀ m, (hm : m + 1 = i) → L.getD (i - 1) (0, 0) = L[m]'(by omega)) := fun m hm => by
              subst hm
              simp [List.getD, List.getElem?_eq_getElem (show m < L.length by omega)]
            have HCm : Hid (∀ m, (hm : m + 1 = i) → w.cell? ⟨b, off + m * 2, none⟩ = some (.int .i64 (L[m]'(by omega)).1) ∧ w.cell? ⟨b, off + m * 2 + 1, none⟩ = some (.int .i64 (L[m]'(by omega)).2)) := fun m hm => HC.out m (by omega)
            generalize L[i]'(Nat.lt_of_lt_of_le hlt he) = p at k0 k1 HSt
            obtain ⟨p1, p2⟩ := p
            obtain ⟨W, HW⟩ : ∃ W, Hid (W = wr.alloc (.cells #[.int .i64 p1, .int .i64 p2] 45)) := ⟨_, rfl⟩
            have HKW : Hid (Kept No w W) := by show Kept _ _ _; rw [HW.out]; exact HR.out.2.alloc _
            have HBx : Hid (W.heap[wr.heap.size]? = some (.cells #[.int .i64 p1, .int .i64 p2] 45 (0, 0))) := by show _ = _; rw [HW.out]; exact World.alloc_heap_new wr _
            have HVW : Hid (VRow W w.heap.size u4 (keepF none (L.take i))) := by show VRow _ _ _ _; rw [HW.out]; exact World.ownsRow.alloc HR.out.1 _
            have c0 : W.cell? ⟨wr.heap.size, 0, none⟩ = some (.int .i64 p1) := by rw [cell_of HBx.out]; rfl
            have c1 : W.cell? ⟨wr.heap.size, 1, none⟩ = some (.int .i64 p2) := by rw [cell_of HBx.out]; rfl
            have hwz : w.heap.size ≤ W.heap.size := HKW.out.size
            rcases Nat.eq_zero_or_pos i with h0 | h0
            · subst h0
              have k0 : wr.cell? ⟨b, off, none⟩ = some (.int .i64 p1) := by simpa using k0
              have k1 : wr.cell? ⟨b, off + 1, none⟩ = some (.int .i64 p2) := by simpa using k1
              go_wp2_with (first | rw [← HW.out])
              go_quiet (fail)
              obtain ⟨W2, HW2⟩ : ∃ W2, Hid (W2 = W.drewN nq) := ⟨_, rfl⟩
              rw [← HW2.out]
              have HK2 : Hid (Kept No w W2) := by show Kept _ _ _; rw [HW2.out]; exact HKW.out.drewN _
              have HV2 : Hid (VRow W2 w.heap.size u4 (keepF none (L.take 0))) := by show VRow _ _ _ _; rw [HW2.out]; exact HVW.out
              have d0 : W2.cell? ⟨wr.heap.size, 0, none⟩ = some (.int .i64 p1) := by rw [HW2.out]; exact c0
              have d1 : W2.cell? ⟨wr.heap.size, 1, none⟩ = some (.int .i64 p2) := by rw [HW2.out]; exact c1
              clear c0 c1
              go_wp2_with (refine app_val rfl (.tmp 43) (.tmp 45) rfl w.heap.size u4 (keepF none (L.take 0)) rfl (World.ownsRow.alloc (HV2.out) _) W2.heap.size (p1, p2) rfl (World.alloc_heap_new W2 _) (by have := HLe.out; omega) (by have := HK2.out.size; simp; omega) ?_)
              intro v' w5 hv hg
              have HK5 : Hid (Kept No w w5) := by
                refine Kept.grown (HK2.out.alloc _) hg.out (fun k hk => .inr ?_)
                exact (HV2.out.block hk).1
              clear hg
              go_wp2
              go_roundw
              case rel => exact ⟨0 + 1, by omega, by go_num, by rw [HSt.out, if_pos (by simp)]; exact hv.out, HK5.out⟩
              case measure => simp [intOf] <;> omega
            · obtain ⟨m, hm⟩ : ∃ m, m + 1 = i := ⟨i - 1, by omega⟩
              have q0 := HX.out _ HKW.out _ _ (HCm.out m hm).1
              have q1 := HX.out _ HKW.out _ _ (HCm.out m hm).2
              rw [HPr.out m hm] at HSt
              have hml : m < L.length := by omega
              generalize L[m] = pm at q0 q1 HSt
              obtain ⟨m1, m2⟩ := pm
              have hi1 : (i : Int) - 1 = (m : Int) := by omega
              have hwm : IntKind.i64.wrap (m : Int) = (m : Int) := by rw [IntKind.wrap_i64]; omega
              have hi0 : ((i : Int) == 0) = false := by rw [beq_eq_false_iff_ne]; omega
              have hmL : (m : Int) < (L.length : Int) := by omega
              have HX2 : Hid (∀ X, Kept No W X → ∀ o v, W.cell? ⟨b, o, none⟩ = some v → X.cell? ⟨b, o, none⟩ = some v) := fun X hX o v h => by
                have hb : b < W.heap.size := by
                  rcases Nat.lt_or_ge b W.heap.size with hb | hb
                  · exact hb
                  · simp [World.cell?, Array.getElem?_eq_none hb] at h
                rw [World.cell?_of_block (hX.block b hb id)]; exact h
              have HAg : Hid (∀ X, Calls Tryd.prog 35 #[AV (m1, m2), AV (p1, p2)] X fun e w' => e = .returned (.bool (agB m1 p1)) ∧ Kept No X w') := fun X => again_any _ _ X
              cases hag : agB m1 p1
              case false =>
                rw [hag] at HAg HSt
                clear HPr HCm
                have HCw : Hid (∀ X, Kept No W X → (X.cell? ⟨b, off + m * 2, none⟩ = some (.int .i64 m1) ∧ X.cell? ⟨b, off + m * 2 + 1, none⟩ = some (.int .i64 m2)) ∧ X.cell? ⟨wr.heap.size, 0, none⟩ = some (.int .i64 p1) ∧ X.cell? ⟨wr.heap.size, 1, none⟩ = some (.int .i64 p2)) := fun X hX => by
                  have hb : X.heap[wr.heap.size]? = _ := hX.heap HBx.out id
                  exact ⟨⟨HX2.out X hX _ _ q0, HX2.out X hX _ _ q1⟩, by rw [cell_of hb]; rfl, by rw [cell_of hb]; rfl⟩
                clear c0 c1 q0 q1
                go_wp2_with (first | rw [← HW.out])
                go_wp2_with fail
                refine region_quiet_class (C := fun w' => Kept No W w') mixed (by kernel_rfl) (Kept.refl _ _).drew ?_
                refine q_op (.int .i64 i) (by kernel_rfl) (fun W1 hW1 => by simp [go_sem]) ?_
                try simp only [Act.put, List.setIfInBounds_toArray, List.set_cons_zero, List.set_cons_succ]
                refine q_op (.bool false) (by kernel_rfl) (fun W1 hW1 => by simp [go_sem, hi0]) ?_
                try simp only [Act.put, List.setIfInBounds_toArray, List.set_cons_zero, List.set_cons_succ]
                refine q_op (.bool false) (by kernel_rfl) (fun W1 hW1 => by simp [go_sem]) ?_
                try simp only [Act.put, List.setIfInBounds_toArray, List.set_cons_zero, List.set_cons_succ]
                refine q_op (.slice (some ⟨b, off, none⟩) L.length cap) (by kernel_rfl) (fun W1 hW1 => by simp [go_sem]) ?_
                try simp only [Act.put, List.setIfInBounds_toArray, List.set_cons_zero, List.set_cons_succ]
                refine q_op (.int .i64 i) (by kernel_rfl) (fun W1 hW1 => by simp [go_sem]) ?_
                try simp only [Act.put, List.setIfInBounds_toArray, List.set_cons_zero, List.set_cons_succ]
                refine q_op (.int .i64 m) (by kernel_rfl) (fun W1 hW1 => by simp [go_sem, hi1, hwm]) ?_
                try simp only [Act.put, List.setIfInBounds_toArray, List.set_cons_zero, List.set_cons_succ]
                refine q_op (.pointer (some ⟨b, off + m * 2, none⟩)) (by kernel_rfl) (fun W1 hW1 => by simp [go_sem, hmL]) ?_
                try simp only [Act.put, List.setIfInBounds_toArray, List.set_cons_zero, List.set_cons_succ]
                refine q_op (.agg #[.int .i64 m1, .int .i64 m2]) (by kernel_rfl) (fun W1 hW1 => by obtain ⟨⟨z0, z1⟩, z2, z3⟩ := HCw.out W1 hW1; simp [go_sem, z0, z1]) ?_
                try simp only [Act.put, List.setIfInBounds_toArray, List.set_cons_zero, List.set_cons_succ]
                refine q_op (.agg #[.int .i64 p1, .int .i64 p2]) (by kernel_rfl) (fun W1 hW1 => by obtain ⟨⟨z0, z1⟩, z2, z3⟩ := HCw.out W1 hW1; simp [go_sem, z2, z3]) ?_
                try simp only [Act.put, List.setIfInBounds_toArray, List.set_cons_zero, List.set_cons_succ]
                refine q_call 35 #[.agg #[.int .i64 m1, .int .i64 m2], .agg #[.int .i64 p1, .int .i64 p2]] (.bool false) (by kernel_rfl) (fun W1 hW1 => by simp [go_sem]) (fun W1 hW1 => (HAg.out W1).mono (fun e w' hh => ⟨hh.1, Kept.trans hW1 hh.2⟩)) ?_
                try simp only [Act.put, List.setIfInBounds_toArray, List.set_cons_zero, List.set_cons_succ]
                refine q_op (.bool true) (by kernel_rfl) (fun W1 hW1 => by simp [go_sem]) ?_
                try simp only [Act.put, List.setIfInBounds_toArray, List.set_cons_zero, List.set_cons_succ]
                refine q_op (.bool true) (by kernel_rfl) (fun W1 hW1 => by simp [go_sem]) ?_
                try simp only [Act.put, List.setIfInBounds_toArray, List.set_cons_zero, List.set_cons_succ]
                intro w9 hk9
                have HK2 : Hid (Kept No w w9) := HKW.out.trans hk9
                have HV2 : Hid (VRow w9 w.heap.size u4 (keepF none (L.take i))) := HVW.out.turn (fun k hk => hk9.block k (hp_lt (HVW.out.block hk).2.choose_spec) id)
                have d0 : w9.cell? ⟨wr.heap.size, 0, none⟩ = some (.int .i64 p1) := (HCw.out _ hk9).2.1
                have d1 : w9.cell? ⟨wr.heap.size, 1, none⟩ = some (.int .i64 p2) := (HCw.out _ hk9).2.2
                clear hk9
                go_wp2_with (refine app_val rfl (.tmp 43) (.tmp 45) rfl w.heap.size u4 (keepF none (L.take i)) rfl (World.ownsRow.alloc (HV2.out) _) w9.heap.size (p1, p2) rfl (World.alloc_heap_new w9 _) (by have := HLe.out; omega) (by have := HK2.out.size; simp; omega) ?_)
                intro v' w5 hv hg
                have HK5 : Hid (Kept No w w5) := by
                  refine Kept.grown (HK2.out.alloc _) hg.out (fun k hk => .inr ?_)
                  exact (HV2.out.block hk).1
                clear hg
                go_wp2
                go_roundw
                case rel => exact ⟨i + 1, by omega, by go_num, by rw [HSt.out, if_pos (by simp)]; exact hv.out, HK5.out⟩
                case measure => simp [intOf] <;> omega
              case true =>
                rw [hag] at HAg HSt
                clear HPr HCm
                have HCw : Hid (∀ X, Kept No W X → (X.cell? ⟨b, off + m * 2, none⟩ = some (.int .i64 m1) ∧ X.cell? ⟨b, off + m * 2 + 1, none⟩ = some (.int .i64 m2)) ∧ X.cell? ⟨wr.heap.size, 0, none⟩ = some (.int .i64 p1) ∧ X.cell? ⟨wr.heap.size, 1, none⟩ = some (.int .i64 p2)) := fun X hX => by
                  have hb : X.heap[wr.heap.size]? = _ := hX.heap HBx.out id
                  exact ⟨⟨HX2.out X hX _ _ q0, HX2.out X hX _ _ q1⟩, by rw [cell_of hb]; rfl, by rw [cell_of hb]; rfl⟩
                clear c0 c1 q0 q1
                go_wp2_with (first | rw [← HW.out])
                go_wp2_with fail
                refine region_quiet_class (C := fun w' => Kept No W w') mixed (by kernel_rfl) (Kept.refl _ _).drew ?_
                refine q_op (.int .i64 i) (by kernel_rfl) (fun W1 hW1 => by simp [go_sem]) ?_
                try simp only [Act.put, List.setIfInBounds_toArray, List.set_cons_zero, List.set_cons_succ]
                refine q_op (.bool false) (by kernel_rfl) (fun W1 hW1 => by simp [go_sem, hi0]) ?_
                try simp only [Act.put, List.setIfInBounds_toArray, List.set_cons_zero, List.set_cons_succ]
                refine q_op (.bool false) (by kernel_rfl) (fun W1 hW1 => by simp [go_sem]) ?_
                try simp only [Act.put, List.setIfInBounds_toArray, List.set_cons_zero, List.set_cons_succ]
                refine q_op (.slice (some ⟨b, off, none⟩) L.length cap) (by kernel_rfl) (fun W1 hW1 => by simp [go_sem]) ?_
                try simp only [Act.put, List.setIfInBounds_toArray, List.set_cons_zero, List.set_cons_succ]
                refine q_op (.int .i64 i) (by kernel_rfl) (fun W1 hW1 => by simp [go_sem]) ?_
                try simp only [Act.put, List.setIfInBounds_toArray, List.set_cons_zero, List.set_cons_succ]
                refine q_op (.int .i64 m) (by kernel_rfl) (fun W1 hW1 => by simp [go_sem, hi1, hwm]) ?_
                try simp only [Act.put, List.setIfInBounds_toArray, List.set_cons_zero, List.set_cons_succ]
                refine q_op (.pointer (some ⟨b, off + m * 2, none⟩)) (by kernel_rfl) (fun W1 hW1 => by simp [go_sem, hmL]) ?_
                try simp only [Act.put, List.setIfInBounds_toArray, List.set_cons_zero, List.set_cons_succ]
                refine q_op (.agg #[.int .i64 m1, .int .i64 m2]) (by kernel_rfl) (fun W1 hW1 => by obtain ⟨⟨z0, z1⟩, z2, z3⟩ := HCw.out W1 hW1; simp [go_sem, z0, z1]) ?_
                try simp only [Act.put, List.setIfInBounds_toArray, List.set_cons_zero, List.set_cons_succ]
                refine q_op (.agg #[.int .i64 p1, .int .i64 p2]) (by kernel_rfl) (fun W1 hW1 => by obtain ⟨⟨z0, z1⟩, z2, z3⟩ := HCw.out W1 hW1; simp [go_sem, z2, z3]) ?_
                try simp only [Act.put, List.setIfInBounds_toArray, List.set_cons_zero, List.set_cons_succ]
                refine q_call 35 #[.agg #[.int .i64 m1, .int .i64 m2], .agg #[.int .i64 p1, .int .i64 p2]] (.bool true) (by kernel_rfl) (fun W1 hW1 => by simp [go_sem]) (fun W1 hW1 => (HAg.out W1).mono (fun e w' hh => ⟨hh.1, Kept.trans hW1 hh.2⟩)) ?_
                try simp only [Act.put, List.setIfInBounds_toArray, List.set_cons_zero, List.set_cons_succ]
                refine q_op (.bool false) (by kernel_rfl) (fun W1 hW1 => by simp [go_sem]) ?_
                try simp only [Act.put, List.setIfInBounds_toArray, List.set_cons_zero, List.set_cons_succ]
                refine q_op (.bool false) (by kernel_rfl) (fun W1 hW1 => by simp [go_sem]) ?_
                try simp only [Act.put, List.setIfInBounds_toArray, List.set_cons_zero, List.set_cons_succ]
                intro w9 hk9
                have HK2 : Hid (Kept No w w9) := HKW.out.trans hk9
                have HV2 : Hid (VRow w9 w.heap.size u4 (keepF none (L.take i))) := HVW.out.turn (fun k hk => hk9.block k (hp_lt (HVW.out.block hk).2.choose_spec) id)
                clear hk9
                go_wp2
                go_roundw
                case rel => exact ⟨i + 1, by omega, by go_num, by rw [HSt.out, if_neg (by simp; omega), List.append_nil]; exact HV2.out, HK2.out⟩
                case measure => simp [intOf] <;> omega
          · obtain rfl : i = (m + 1) := by omega
            clear hC
            go_wp2
            go_ret
            exact ⟨_, rfl, by unfold shr trimF; rw [hE.out]; exact HR.out.1, HR.out.2⟩
end Go.Proofs.YtbhmgmbgplkkeaaDoor
