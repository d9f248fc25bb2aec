/- Same: are lists of cells the same, and objects? -/
import Derived.Test.YtnmchcanijkggaaP8
import Derived.Deep.QuietTactic
namespace Go.Proofs.Ytnmchcanijkggaa
open Go.RowKit Go.Lib
set_option linter.unusedVariables false

set_option maxHeartbeats 1000000 in
theorem Same_len (a b : Option Addr) (n m c d : Nat) (w : World) (h : n ≠ m) :
    Calls Try.prog 28 #[.slice a n c, .slice b m d] w fun e w' => e = .returned (.bool false) ∧ Below w.heap.size w w' := by
  have h1 : ((n : Int) != (m : Int)) = true := by simp; omega
  have h2 : ¬ ((n : Int) = (m : Int)) := by omega
  go_enter Try.func28, Try.ntmps28
  go_wp2
  go_ret
  exact ⟨rfl, Below.refl _ _⟩

set_option maxHeartbeats 1000000 in
theorem Same_none (a b : Option Addr) (c d : Nat) (w : World) :
    Calls Try.prog 28 #[.slice a 0 c, .slice b 0 d] w fun e w' => e = .returned (.bool true) ∧ Below w.heap.size w w' := by
  go_enter Try.func28, Try.ntmps28
  go_wp2_with fail
  go_loop [5] (fun i => i = .int .i64 0) (fun _ => 0)
  case atStart => rfl
  case round =>
    subst hrel
    go_wp2
    go_ret
    exact ⟨rfl, Below.refl _ _⟩

set_option maxHeartbeats 1000000 in
theorem Same_cells (za zb : List Int) (n b1 o1 b2 o2 c d : Nat) (w : World) (hn : n ≤ 100000) (ha : za.length = n) (hb : zb.length = n)
    (h1 : ∀ i, i < n → w.cell? ⟨b1, o1 + i, none⟩ = some (.int .i64 (za.getD i 0))) (h2 : ∀ i, i < n → w.cell? ⟨b2, o2 + i, none⟩ = some (.int .i64 (zb.getD i 0))) :
    Calls Try.prog 28 #[.slice (some ⟨b1, o1, none⟩) n c, .slice (some ⟨b2, o2, none⟩) n d] w fun e w' => e = .returned (.bool (decide (za = zb))) ∧ Below w.heap.size w w' := by
  have H1 : Hid (∀ i, i < n → w.cell? ⟨b1, o1 + i, none⟩ = some (.int .i64 (za.getD i 0))) := h1
  have H2 : Hid (∀ i, i < n → w.cell? ⟨b2, o2 + i, none⟩ = some (.int .i64 (zb.getD i 0))) := h2
  have HL : Hid (za.length = n ∧ zb.length = n) := ⟨ha, hb⟩
  clear h1 h2 ha hb
  go_enter Try.func28, Try.ntmps28
  go_wp2_with fail
  go_loopw [5] (fun i wr => ∃ k : Nat, k ≤ n ∧ i = .int .i64 k ∧ Hid (za.take k = zb.take k) ∧ Hid (Below w.heap.size w wr) ∧ Hid (∀ p, wr.cell? p = w.cell? p)) (fun i _ => n - (intOf i).toNat)
  case atStart => exact ⟨0, Nat.zero_le _, rfl, rfl, Below.refl _ _, fun _ => rfl⟩
  case round =>
    obtain ⟨k, hk, rfl, HT, HB, HC⟩ := hrel
    by_cases hlt : k < n
    · obtain ⟨x, hx⟩ : ∃ x, x = za.getD k 0 := ⟨_, rfl⟩
      obtain ⟨y, hy⟩ : ∃ y, y = zb.getD k 0 := ⟨_, rfl⟩
      have c1 : wr.cell? ⟨b1, o1 + k, none⟩ = some (.int .i64 x) := by rw [HC.out, hx]; exact H1.out k hlt
      have c2 : wr.cell? ⟨b2, o2 + k, none⟩ = some (.int .i64 y) := by rw [HC.out, hy]; exact H2.out k hlt
      have k1 : (0 : Int) ≤ (k : Int) := by omega
      have k2 : (k : Int) < (n : Int) := by omega
      have HX : Hid (x = za.getD k 0 ∧ y = zb.getD k 0) := ⟨hx, hy⟩
      clear hx hy
      by_cases hxy : x = y
      · have HS : Hid (za.take (k + 1) = zb.take (k + 1)) := by
          have e1 : k < za.length := by rw [HL.out.1]; exact hlt
          have e2 : k < zb.length := by rw [HL.out.2]; exact hlt
          have ex : za[k] = zb[k] := by
            have h := HX.out.1.symm.trans (hxy.trans HX.out.2)
            simpa [List.getD, List.getElem?_eq_getElem e1, List.getElem?_eq_getElem e2] using h
          show _ = _
          rw [List.take_succ_eq_append_getElem e1, List.take_succ_eq_append_getElem e2, HT.out, ex]
        subst hxy
        have hne : (x != x) = false := by simp
        go_wp2
        go_quiet (fail)
        go_wp2
        have HB' : Hid (Below w.heap.size w (wr.drewN nq)) := below_drewN HB.out _
        have HC' : Hid (∀ p, (wr.drewN nq).cell? p = w.cell? p) := fun p => HC.out p
        go_roundw
        case rel => exact ⟨k + 1, by omega, by go_num, HS.out, HB'.out, HC'.out⟩
        case measure => simp [intOf]; omega
      · have HE : Hid (decide (za = zb) = false) := by
          show _ = _
          rw [decide_eq_false]
          intro e
          exact hxy (by rw [HX.out.1, HX.out.2, e])
        have hne : (x != y) = true := by simp [hxy]
        clear HX
        go_wp2
        go_quiet (fail)
        go_wp2
        go_ret
        exact ⟨by rw [HE.out]; rfl, below_drewN HB.out _⟩
    · have he : k = n := by omega
      subst he
      have HE : Hid (decide (za = zb) = true) := by
        show _ = _
        have h := HT.out
        rw [List.take_of_length_le (by rw [HL.out.1]; exact Nat.le_refl _), List.take_of_length_le (by rw [HL.out.2]; exact Nat.le_refl _)] at h
        simp [h]
      clear HT
      go_wp2
      go_ret
      exact ⟨by rw [HE.out]; rfl, HB.out⟩

theorem Same_any (a b : Value) (za zb : List Int) (w : World) (ha : SliceIs w a za) (hb : SliceIs w b zb) (hn : za.length ≤ 100000) :
    Calls Try.prog 28 #[a, b] w fun e w' => e = .returned (.bool (decide (za = zb))) ∧ Below w.heap.size w w' := by
  by_cases hl : za.length = zb.length
  · by_cases h0 : za.length = 0
    · obtain rfl := List.eq_nil_of_length_eq_zero h0
      obtain rfl := List.eq_nil_of_length_eq_zero (hl.symm.trans h0)
      obtain ⟨ao, c, rfl⟩ := ha.form
      obtain ⟨bo, d, rfl⟩ := hb.form
      exact Same_none ao bo c d w
    · rcases ha with ⟨_, _, rfl⟩ | ⟨b1, o1, c, rfl, g1⟩
      · exact absurd rfl h0
      rcases hb with ⟨_, _, rfl⟩ | ⟨b2, o2, d, rfl, g2⟩
      · exact absurd hl h0
      rw [← hl] at g2 ⊢
      exact Same_cells za zb za.length b1 o1 b2 o2 c d w hn rfl hl.symm g1 g2
  · have e : decide (za = zb) = false := by rw [decide_eq_false]; intro h; exact hl (by rw [h])
    rw [e]
    obtain ⟨ao, c, rfl⟩ := ha.form
    obtain ⟨bo, d, rfl⟩ := hb.form
    exact Same_len ao bo _ _ c d w hl
end Go.Proofs.Ytnmchcanijkggaa
