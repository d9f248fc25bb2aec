/- slices.choosePivotCmpFunc. -/
import Derived.Test.YtnfamebihpnjlaaU8
namespace Go.Proofs.Ytnfamebihpnjlaa
open Go.RowKit
set_option linter.unusedSimpArgs false
set_option linter.unusedVariables false

set_option maxRecDepth 20000 in
set_option maxHeartbeats 4000000 in
theorem pivot_any {w0 w : World} {g cap A : Nat} {l0 : List Int} {cf : Int → Int → Int} (X : Ctx w0 g A l0 cf) (S : ∃ l, SR w0 g cap l0 l w) {a b : Nat} (hab : a + 12 < b) (hb : b ≤ l0.length) :
    Calls Try.prog 60 #[.slice (some ⟨g, 0, none⟩) l0.length cap, .int .i64 a, .int .i64 b, cv A] w fun e w' =>
      ∃ m h : Nat, e = .returned (.tuple #[.int .i64 m, .int .i64 h]) ∧ a ≤ m ∧ m < b ∧ h ≤ 2 ∧ ∃ l, SR w0 g cap l0 l w' := by
  have hlen := X.len
  obtain ⟨L, hL⟩ : ∃ L, L = b - a := ⟨_, rfl⟩
  obtain ⟨Q, hQ⟩ : ∃ Q, Q = L / 4 := ⟨_, rfl⟩
  have e0 : (b : Int) - (a : Int) = (L : Int) := by omega
  have e1 : Int.tdiv (L : Int) 4 = (Q : Int) := by rw [hQ]; rfl
  have e1' : (L : Int) / 4 = (Q : Int) := by omega
  have L1 : a + L ≤ b := by omega
  have L2 : b ≤ a + L := by omega
  have Q1 : 4 * Q ≤ L := by omega
  have Q2 : L < 4 * Q + 4 := by omega
  clear hL hQ
  have l8 : (8 : Int) ≤ (L : Int) := by omega
  have HX : Hid (Ctx w0 g A l0 cf) := X
  have HS : Hid (SC w0 g cap l0 w.heap.size 0 (w.alloc (.cells #[.int .i64 0] 3))) := by
    obtain ⟨l, h⟩ := S
    exact ⟨⟨l, h.alloc _⟩, ⟨0, Nat.le_refl _, by simp⟩, by simp, h.size⟩
  clear X S
  go_enter Try.func60, Try.ntmps60
  go_upto_if 34 with fail
  generalize w.alloc (.cells #[.int .i64 0] 3) = W at HS ⊢
  generalize w.heap.size = c at HS ⊢
  go_cut [12, 13, 14] (fun _ v _ wx => ∃ m : Nat, a ≤ m ∧ m < b ∧ v = .int .i64 m ∧ Hid (SC w0 g cap l0 c 100 wx))
  case first =>
    by_cases h50 : 50 ≤ L
    · have h50z : (50 : Int) ≤ (L : Int) := by omega
      obtain ⟨i1, q1, q1', b1, b1'⟩ : ∃ i1 : Nat, (a : Int) + (Q : Int) * 1 = (i1 : Int) ∧ (a : Int) + (Q : Int) = (i1 : Int) ∧ a + Q ≤ i1 ∧ i1 ≤ a + Q := ⟨a + Q, by omega, by omega, Nat.le_refl _, Nat.le_refl _⟩
      obtain ⟨i2, q2, b2, b2'⟩ : ∃ i2 : Nat, (a : Int) + (Q : Int) * 2 = (i2 : Int) ∧ a + Q * 2 ≤ i2 ∧ i2 ≤ a + Q * 2 := ⟨a + Q * 2, by omega, Nat.le_refl _, Nat.le_refl _⟩
      obtain ⟨i3, q3, b3, b3'⟩ : ∃ i3 : Nat, (a : Int) + (Q : Int) * 3 = (i3 : Int) ∧ a + Q * 3 ≤ i3 ∧ i3 ≤ a + Q * 3 := ⟨a + Q * 3, by omega, Nat.le_refl _, Nat.le_refl _⟩
      try rw [q1]
      try rw [q1']
      rw [q2, q3]
      clear q1 q1' q2 q3
      have H1 : Hid _ := adj_any HX.out (by omega) HS.out (a := i1) (by omega) (by omega)
      clear HS
      go_wp2_with fail
      refine Calls.mono H1.out ?_
      rintro e w1 ⟨m1, rfl, hm1, hm1', hs⟩
      have H2 : Hid _ := adj_any HX.out (by omega) hs (a := i2) (by omega) (by omega)
      clear H1 hs
      go_wp2_with fail
      refine Calls.mono H2.out ?_
      rintro e w2 ⟨m2, rfl, hm2, hm2', hs⟩
      have H3 : Hid _ := adj_any HX.out (by omega) hs (a := i3) (by omega) (by omega)
      clear H2 hs
      go_wp2_with fail
      refine Calls.mono H3.out ?_
      rintro e w3 ⟨m3, rfl, hm3, hm3', hs⟩
      have H4 : Hid _ := median_any HX.out (by omega) hs (a := m1) (b := m2) (d := m3) (by omega) (by omega) (by omega)
      clear H3 hs
      go_wp2_with fail
      refine Calls.mono H4.out ?_
      rintro e w4 ⟨m, rfl, hm, hs⟩
      have HS : Hid (SC w0 g cap l0 c 100 w4) := hs.mono (by omega)
      clear H4 hs
      go_wp2
      go_meet
      exact ⟨m, by omega, by omega, rfl, HS.out⟩
    · have h50z : ¬ (50 : Int) ≤ (L : Int) := by omega
      obtain ⟨i1, q1, q1', b1, b1'⟩ : ∃ i1 : Nat, (a : Int) + (Q : Int) * 1 = (i1 : Int) ∧ (a : Int) + (Q : Int) = (i1 : Int) ∧ a + Q ≤ i1 ∧ i1 ≤ a + Q := ⟨a + Q, by omega, by omega, Nat.le_refl _, Nat.le_refl _⟩
      obtain ⟨i2, q2, b2, b2'⟩ : ∃ i2 : Nat, (a : Int) + (Q : Int) * 2 = (i2 : Int) ∧ a + Q * 2 ≤ i2 ∧ i2 ≤ a + Q * 2 := ⟨a + Q * 2, by omega, Nat.le_refl _, Nat.le_refl _⟩
      obtain ⟨i3, q3, b3, b3'⟩ : ∃ i3 : Nat, (a : Int) + (Q : Int) * 3 = (i3 : Int) ∧ a + Q * 3 ≤ i3 ∧ i3 ≤ a + Q * 3 := ⟨a + Q * 3, by omega, Nat.le_refl _, Nat.le_refl _⟩
      try rw [q1]
      try rw [q1']
      rw [q2, q3]
      clear q1 q1' q2 q3
      have H4 : Hid _ := median_any HX.out (by omega) HS.out (a := i1) (b := i2) (d := i3) (by omega) (by omega) (by omega)
      clear HS
      go_wp2_with fail
      refine Calls.mono H4.out ?_
      rintro e w4 ⟨m, rfl, hm, hs⟩
      have HS : Hid (SC w0 g cap l0 c 100 w4) := hs.mono (by omega)
      clear H4 hs
      go_wp2
      go_meet
      exact ⟨m, by omega, by omega, rfl, HS.out⟩
  case rest =>
    clear HS
    obtain ⟨m, hm1, hm2, rfl, HS⟩ := hcut
    obtain ⟨s, hs, hcs⟩ := HS.out.2.1
    have HE : Hid (∃ l, SR w0 g cap l0 l wc) := HS.out.1
    clear HS
    by_cases h0 : s = 0
    · have hz : (s : Int) = 0 := by omega
      have hb0 : ((s : Int) == 0) = true := by simp [hz]
      go_wp2
      go_ret2
      exact ⟨m, 1, rfl, hm1, hm2, by omega, HE.out⟩
    · have hz : ¬ (s : Int) = 0 := by omega
      have hb0 : ((s : Int) == 0) = false := by rw [beq_eq_false_iff_ne]; exact hz
      by_cases h12 : s = 12
      · have hz' : (s : Int) = 12 := by omega
        have hb1 : ((s : Int) == 12) = true := by simp [hz']
        go_wp2
        go_ret2
        exact ⟨m, 2, rfl, hm1, hm2, by omega, HE.out⟩
      · have hz' : ¬ (s : Int) = 12 := by omega
        have hb1 : ((s : Int) == 12) = false := by rw [beq_eq_false_iff_ne]; exact hz'
        go_wp2
        go_ret2
        exact ⟨m, 0, rfl, hm1, hm2, by omega, HE.out⟩
end Go.Proofs.Ytnfamebihpnjlaa
