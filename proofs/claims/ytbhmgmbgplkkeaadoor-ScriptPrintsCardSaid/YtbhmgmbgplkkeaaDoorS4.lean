/- The document's Shrink. -/
import Derived.Test.YtbhmgmbgplkkeaaDoorS2
namespace Go.Proofs.YtbhmgmbgplkkeaaDoor
open Go.RowKit
set_option linter.unusedSimpArgs false
set_option linter.unusedVariables false

set_option maxRecDepth 20000 in
set_option maxHeartbeats 4000000 in
theorem RShrink_any {w : World} {lv : Value} {L : List V} (hL : RdV w lv L) (hn : L.length ≤ 100000) :
    Calls Tryd.prog 19 #[lv] w fun e w' => ∃ v, e = .returned v ∧ VRow w' w.heap.size v (shr L) ∧ Kept No w w' := by
  obtain ⟨ao, cap, rfl, hcap, hC⟩ := hL
  go_enter Tryd.func19, Tryd.ntmps19
  go_wp2_with fail
  go_loop [3] (fun i => ∃ e : Nat, e ≤ L.length ∧ i = .int .i64 e ∧ Hid (endN (L.take e) = endN L)) (fun i => (intOf i).toNat)
  case atStart => exact ⟨L.length, Nat.le_refl _, rfl, by show _ = _; rw [List.take_length]⟩
  case round =>
    obtain ⟨e, he, rfl, HE⟩ := hrel
    rcases Nat.eq_zero_or_pos e with h0 | h0
    · subst h0
      have hE : Hid (endN L = 0) := HE.out.symm
      have hlast : True := trivial
      have hec : 0 ≤ cap := by omega
      clear hlast
      go_wp2_with fail
      go_loopw [4, 5] (fun v4 v5 wr => ∃ i : Nat, i ≤ 0 ∧ v5 = .int .i64 i ∧ Hid (VRow wr w.heap.size v4 (keepF none (L.take i)) ∧ Kept No w wr)) (fun _ v5 _ => 0 - (intOf v5).toNat)
      case atStart => exact ⟨0, by omega, rfl, VRow.nil _ _, Kept.refl _ _⟩
      case round =>
        obtain ⟨i, hi, rfl, HR⟩ := hrel
        by_cases hlt : i < 0
        · omega
        · obtain rfl : i = 0 := by omega
          clear hC
          go_wp2
          go_ret
          exact ⟨_, rfl, by unfold shr trimF; rw [hE.out]; exact HR.out.1, HR.out.2⟩
    · obtain ⟨q, rfl⟩ : ∃ m, e = m + 1 := ⟨e - 1, by omega⟩
      have hm1 : ((q + 1 : Nat) : Int) - 1 = (q : Int) := by omega
      have hm2 : (q : Int) < (L.length : Int) := by omega
      have hm3 : (0 : Int) < ((q + 1 : Nat) : Int) := by omega
      have HT := endN_take L (q + 1) (by omega) he
      obtain ⟨b, off, hao, x0, x1⟩ := hC q (by omega)
      subst hao
      have hk : Hid (L[q + 1 - 1] = L[q]) := rfl
      rw [hk.out] at HT
      have HT : Hid (endN (L.take (q + 1)) = if L[q].1 = 0 then endN (L.take (q + 1 - 1)) else q + 1) := HT
      generalize hg : L[q].1 = k at x0 HT
      by_cases hk0 : k = 0
      · subst hk0
        clear hC x1
        go_wp2_with fail
        go_round
        case rel => exact ⟨q, by omega, by go_num, by show _ = _; rw [← HE.out, HT.out, if_pos rfl]; rfl⟩
        case measure => simp [intOf] <;> omega
      · have hE : Hid (endN L = q + 1) := by show _ = _; rw [← HE.out, HT.out, if_neg hk0]
        have hlast : (k == 0) = false := by rw [beq_eq_false_iff_ne]; exact hk0
        have hec : (q + 1) ≤ cap := by omega
        clear hlast
        go_wp2_with fail
        go_loopw [4, 5] (fun v4 v5 wr => ∃ i : Nat, i ≤ (q + 1) ∧ v5 = .int .i64 i ∧ Hid (VRow wr w.heap.size v4 (keepF none (L.take i)) ∧ Kept No w wr)) (fun _ v5 _ => (q + 1) - (intOf v5).toNat)
        case atStart => exact ⟨0, by omega, rfl, VRow.nil _ _, Kept.refl _ _⟩
        case round =>
          obtain ⟨i, hi, rfl, HR⟩ := hrel
          by_cases hlt : i < (q + 1)
          · have HLe : Hid ((keepF none (L.take i)).length + 1 ≤ 1000000) := by
              show _ ≤ _
              have := keepF_le (L.take i) none
              rw [List.length_take] at this; omega
            have HSt : Hid _ := keepF_step L i (by omega)
            have HC : Hid (∀ j (hj : j < L.length), w.cell? ⟨b, off + j * 2, none⟩ = some (.int .i64 L[j].1) ∧ w.cell? ⟨b, off + j * 2 + 1, none⟩ = some (.int .i64 L[j].2)) := fun j hj => by
              obtain ⟨b', off', e1, h1⟩ := hC j hj
              injection e1 with e1
              injection e1 with e1 e2
              subst e1 e2
              exact h1
            have HX : Hid (∀ X, Kept No w X → ∀ o v, w.cell? ⟨b, o, none⟩ = some v → X.cell? ⟨b, o, none⟩ = some v) := fun X hX o v h => by
              have hb : b < w.heap.size := by
                rcases Nat.lt_or_ge b w.heap.size with hb | hb
                · exact hb
                · simp [World.cell?, Array.getElem?_eq_none hb] at h
              rw [World.cell?_of_block (hX.block b hb id)]; exact h
            have k0 := HX.out _ HR.out.2 _ _ (HC.out i (by omega)).1
            have k1 := HX.out _ HR.out.2 _ _ (HC.out i (by omega)).2
            clear hC
            have hiL : (i : Int) < (L.length : Int) := by omega
            have HPr : Hid (∀ m, (hm : m + 1 = i) → L.getD (i - 1) (0, 0) = L[m]'(by omega)) := fun m hm => by
              subst hm
              simp [List.getD, List.getElem?_eq_getElem (show m < L.length by omega)]
            have HCm : Hid (∀ m, (hm : m + 1 = i) → w.cell? ⟨b, off + m * 2, none⟩ = some (.int .i64 (L[m]'(by omega)).1) ∧ w.cell? ⟨b, off + m * 2 + 1, none⟩ = some (.int .i64 (L[m]'(by omega)).2)) := fun m hm => HC.out m (by omega)
            generalize L[i]'(Nat.lt_of_lt_of_le hlt he) = p at k0 k1 HSt
            obtain ⟨p1, p2⟩ := p
            rcases Nat.eq_zero_or_pos i with h0 | h0
            · subst h0
              have k0 : wr.cell? ⟨b, off, none⟩ = some (.int .i64 p1) := by simpa using k0
              have k1 : wr.cell? ⟨b, off + 1, none⟩ = some (.int .i64 p2) := by simpa using k1
              go_wp2_with (refine app_val rfl (.tmp 56) (.tmp 61) rfl w.heap.size u4 (keepF none (L.take 0)) rfl (World.ownsRow.alloc (HR.out.1) _) wr.heap.size (p1, p2) rfl (World.alloc_heap_new wr _) (by have := HLe.out; omega) (by have := HR.out.2.size; simp; omega) ?_)
              intro v' w5 hv hg
              have HK5 : Hid (Kept No w w5) := by
                refine Kept.grown (HR.out.2.alloc _) hg.out (fun k hk => .inr ?_)
                exact (HR.out.1.block hk).1
              clear hg
              go_wp2
              go_roundw
              case rel => exact ⟨0 + 1, by omega, by go_num, by rw [HSt.out, if_pos (by simp)]; exact hv.out, HK5.out⟩
              case measure => simp [intOf] <;> omega
            · obtain ⟨m, rfl⟩ : ∃ m, i = m + 1 := ⟨i - 1, by omega⟩
              have q0 := HX.out _ HR.out.2 _ _ (HCm.out m rfl).1
              rw [HPr.out m rfl] at HSt
              have hml : m < L.length := by omega
              generalize L[m] = pm at q0 HSt
              obtain ⟨m1, m2⟩ := pm
              have hi1 : ((m + 1 : Nat) : Int) - 1 = (m : Int) := by omega
              have hmL : (m : Int) < (L.length : Int) := by omega
              clear HPr HCm HX HC
              by_cases h1 : m1 = p1
              · subst h1
                have hag : ∀ q, agB m1 m1 = q ↔ agK m1 = q := fun q => by unfold agB; simp
                by_cases h2 : m1 = 2
                · subst h2
                  have HSt := HSt
                  have hq : agB 2 2 = true := rfl
                  rw [hq] at HSt
                  clear hag hq
                  go_wp2
                  go_roundw
                  case rel => exact ⟨m + 1 + 1, by omega, by go_num, by rw [HSt.out, if_neg (by simp), List.append_nil]; exact HR.out.1, HR.out.2⟩
                  case measure => simp [intOf] <;> omega
                by_cases h3 : m1 = 3
                · subst h3
                  have HSt := HSt
                  have hq : agB 3 3 = true := rfl
                  rw [hq] at HSt
                  clear hag hq
                  go_wp2
                  go_roundw
                  case rel => exact ⟨m + 1 + 1, by omega, by go_num, by rw [HSt.out, if_neg (by simp), List.append_nil]; exact HR.out.1, HR.out.2⟩
                  case measure => simp [intOf] <;> omega
                by_cases h5 : m1 = 5
                · subst h5
                  have HSt := HSt
                  have hq : agB 5 5 = true := rfl
                  rw [hq] at HSt
                  clear hag hq
                  go_wp2
                  go_roundw
                  case rel => exact ⟨m + 1 + 1, by omega, by go_num, by rw [HSt.out, if_neg (by simp), List.append_nil]; exact HR.out.1, HR.out.2⟩
                  case measure => simp [intOf] <;> omega
                have hq : agB m1 m1 = false := by rw [hag]; unfold agK; simp [h2, h3, h5]
                rw [hq] at HSt
                have b2 : (m1 == 2) = false := beq_false_of_ne h2
                have b3 : (m1 == 3) = false := beq_false_of_ne h3
                have b5 : (m1 == 5) = false := beq_false_of_ne h5
                clear hag hq h2 h3 h5
                go_wp2_with (refine app_val rfl (.tmp 56) (.tmp 61) rfl w.heap.size u4 (keepF none (L.take (m + 1))) rfl (World.ownsRow.alloc (HR.out.1) _) wr.heap.size (m1, p2) rfl (World.alloc_heap_new wr _) (by have := HLe.out; omega) (by have := HR.out.2.size; simp; omega) ?_)
                intro v' w5 hv hg
                have HK5 : Hid (Kept No w w5) := by
                  refine Kept.grown (HR.out.2.alloc _) hg.out (fun k hk => .inr ?_)
                  exact (HR.out.1.block hk).1
                clear hg
                go_wp2
                go_roundw
                case rel => exact ⟨m + 1 + 1, by omega, by go_num, by rw [HSt.out, if_pos (by simp)]; exact hv.out, HK5.out⟩
                case measure => simp [intOf] <;> omega
              · have hq : agB m1 p1 = false := by unfold agB; rw [beq_false_of_ne h1, Bool.and_false]
                rw [hq] at HSt
                have b1 : (m1 == p1) = false := beq_false_of_ne h1
                clear hq h1
                go_wp2_with (refine app_val rfl (.tmp 56) (.tmp 61) rfl w.heap.size u4 (keepF none (L.take (m + 1))) rfl (World.ownsRow.alloc (HR.out.1) _) wr.heap.size (p1, p2) rfl (World.alloc_heap_new wr _) (by have := HLe.out; omega) (by have := HR.out.2.size; simp; omega) ?_)
                intro v' w5 hv hg
                have HK5 : Hid (Kept No w w5) := by
                  refine Kept.grown (HR.out.2.alloc _) hg.out (fun k hk => .inr ?_)
                  exact (HR.out.1.block hk).1
                clear hg
                go_wp2
                go_roundw
                case rel => exact ⟨m + 1 + 1, by omega, by go_num, by rw [HSt.out, if_pos (by simp)]; exact hv.out, HK5.out⟩
                case measure => simp [intOf] <;> omega
          · obtain rfl : i = (q + 1) := by omega
            clear hC
            go_wp2
            go_ret
            exact ⟨_, rfl, by unfold shr trimF; rw [hE.out]; exact HR.out.1, HR.out.2⟩
end Go.Proofs.YtbhmgmbgplkkeaaDoor
