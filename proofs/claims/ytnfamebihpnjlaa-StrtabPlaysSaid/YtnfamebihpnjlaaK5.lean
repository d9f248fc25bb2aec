/- slices.reverseRangeCmpFunc, slices.breakPatternsCmpFunc keep to their range. -/
import Derived.Test.YtnfamebihpnjlaaK0
import Derived.Test.YtnfamebihpnjlaaV1
namespace Go.Proofs.Ytnfamebihpnjlaa
open Go.RowKit
set_option linter.unusedSimpArgs false
set_option linter.unusedVariables false

set_option maxRecDepth 20000 in
set_option maxHeartbeats 4000000 in
theorem rev_win {w0 w : World} {g cap A : Nat} {l0 : List Int} {cf : Int → Int → Int} {K : Int → Int} {f0 : Nat → Int} (X : CtxK w0 g A l0 cf K) (S : SRP w0 g cap l0 K w (fun f => f = f0)) {a b : Nat} (hab : a < b) (hb : b ≤ l0.length) :
    Calls Try.prog 61 #[.slice (some ⟨g, 0, none⟩) l0.length cap, .int .i64 a, .int .i64 b, cv A] w fun e w' => e = .returned (.tuple #[]) ∧ SRP w0 g cap l0 K w' (fun f => Win a b f0 f) := by
  have mixed : Try.prog.follows .mixedOrders = true := by kernel_rfl
  have hlen := X.len
  have HX : Hid (CtxK w0 g A l0 cf K) := X
  have HS : Hid (SRP w0 g cap l0 K w (fun f => f = f0)) := S
  clear X S
  go_enter Try.func61, Try.ntmps61
  go_wp2_with fail
  go_loopw [8, 9] (fun v v' wx => ∃ i j : Nat, a ≤ i ∧ i ≤ b ∧ j + 1 ≤ b ∧ v = .int .i64 i ∧ v' = .int .i64 j ∧ Hid (SRP w0 g cap l0 K wx (fun f => Win a b f0 f))) (fun v v' _ => (intOf v').toNat + 1 - (intOf v).toNat)
  case atStart => exact ⟨a, b - 1, by omega, by omega, by omega, by first | rfl | go_num | (congr 1; omega), by first | rfl | go_num | (congr 1; omega), HS.out.mono (by rintro f rfl; exact Win.refl _ _ _)⟩
  case round =>
    clear HS
    obtain ⟨i, j, hi0, hi, hj, rfl, rfl, HS⟩ := hrel
    by_cases hij : i < j
    · obtain ⟨q, rfl⟩ : ∃ q, j = q + 1 := ⟨j - 1, by omega⟩
      have hijz : (i : Int) < (q : Int) + 1 := by omega
      go_wp2_with fail
      obtain ⟨x', y', u, d1, d2, f1, f2, d3, HE⟩ := HS.out.swaps (i := i) (j := (q + 1)) (by omega) (by omega)
      clear HS
      go_wp2_with fail
      go_big_region_o
      generalize ((wr.setCell ⟨g, i, none⟩ (.int .i64 y')).setCell ⟨g, (q + 1), none⟩ (.int .i64 x')).drew = W1 at HE ⊢
      have HS := HE
      clear HE d1 d2 d3 f1 f2
      go_wp2
      go_round
      case rel => exact ⟨i + 1, q, by omega, by omega, by omega, by first | rfl | go_num | (congr 1; omega), by first | rfl | go_num | (congr 1; omega), HS.out.mono (by rintro f ⟨f', h1, rfl⟩; exact h1.sw (by omega) (by omega) (by omega) (by omega))⟩
      case measure => simp [intOf] <;> omega
    · have hijz : ¬ (i : Int) < (j : Int) := by omega
      go_wp2
      first | (go_end0; exact ⟨rfl, HS.out.mono (fun f h => h)⟩) | (refine bodyPost_ret (results_none rfl _ _ _) rfl ?_; exact ⟨rfl, HS.out.mono (fun f h => h)⟩)

/-- A world of the sort's with a random number in block c. -/
def SXK (w0 : World) (g cap : Nat) (l0 : List Int) (K : Int → Int) (c : Nat) (w : World) (P : (Nat → Int) → Prop) : Prop :=
  SRP w0 g cap l0 K w P ∧ (∃ r : Int, w.cell? ⟨c, 0, none⟩ = some (.int .u64 r)) ∧ w.frozen? ⟨c, 0, none⟩ = false ∧ w0.heap.size ≤ c
/-- What an exchange leaves of it. -/
theorem SXK.swaps {w0 w : World} {g cap c : Nat} {l0 : List Int} {K : Int → Int} {P : (Nat → Int) → Prop} (h : SXK w0 g cap l0 K c w P) (hg : g < w0.heap.size) {i j : Nat} (hi : i < l0.length) (hj : j < l0.length) : ∃ x y u, w.cell? ⟨g, i, none⟩ = some (.int .i64 x) ∧ w.cell? ⟨g, j, none⟩ = some (.int .i64 y) ∧ w.frozen? ⟨g, i, none⟩ = false ∧ w.frozen? ⟨g, j, none⟩ = false ∧
    (w.setCell ⟨g, i, none⟩ (.int .i64 y)).cell? ⟨g, j, none⟩ = some u ∧ Hid (SXK w0 g cap l0 K c ((w.setCell ⟨g, i, none⟩ (.int .i64 y)).setCell ⟨g, j, none⟩ (.int .i64 x)).drew (fun f => ∃ f', P f' ∧ f = sw f' i j)) := by
  obtain ⟨h1, ⟨r, h2⟩, h3, h4⟩ := h
  obtain ⟨x, y, u, d1, d2, f1, f2, d3, HS⟩ := h1.swaps hi hj
  refine ⟨x, y, u, d1, d2, f1, f2, d3, HS.out, ⟨r, ?_⟩, ?_, h4⟩
  · show ((w.setCell ⟨g, i, none⟩ (.int .i64 y)).setCell ⟨g, j, none⟩ (.int .i64 x)).cell? _ = _
    rw [World.cell?_setCell_other _ _ _ _ (by intro e; simp only [Addr.mk.injEq] at e; omega), World.cell?_setCell_other _ _ _ _ (by intro e; simp only [Addr.mk.injEq] at e; omega)]; exact h2
  · show ((w.setCell ⟨g, i, none⟩ (.int .i64 y)).setCell ⟨g, j, none⟩ (.int .i64 x)).frozen? _ = _
    rw [World.frozen?_setCell, World.frozen?_setCell]; exact h3

set_option maxRecDepth 20000 in
set_option maxHeartbeats 4000000 in
theorem brk_win {w0 w : World} {g cap A : Nat} {l0 : List Int} {cf : Int → Int → Int} {K : Int → Int} {f0 : Nat → Int} (X : CtxK w0 g A l0 cf K) (S : SRP w0 g cap l0 K w (fun f => f = f0)) (hsm : l0.length ≤ 60000) {a b : Nat} (hab : a + 12 < b) (hb : b ≤ l0.length) :
    Calls Try.prog 59 #[.slice (some ⟨g, 0, none⟩) l0.length cap, .int .i64 a, .int .i64 b, cv A] w fun e w' => e = .returned (.tuple #[]) ∧ SRP w0 g cap l0 K w' (fun f => Win a b f0 f) := by
  have mixed : Try.prog.follows .mixedOrders = true := by kernel_rfl
  have hlen := X.len
  obtain ⟨L, hL⟩ : ∃ L, L = b - a := ⟨_, rfl⟩
  obtain ⟨Q, hQ⟩ : ∃ Q, Q = L / 4 := ⟨_, rfl⟩
  have e0 : (b : Int) - (a : Int) = (L : Int) := by omega
  have e1 : Int.tdiv (L : Int) 4 = (Q : Int) := by rw [hQ]; rfl
  have e1' : (L : Int) / 4 = (Q : Int) := by omega
  have L1 : a + L ≤ b := by omega
  have L2 : b ≤ a + L := by omega
  have Q1 : 4 * Q ≤ L := by omega
  have Q2 : L < 4 * Q + 4 := by omega
  have l8 : (8 : Int) ≤ (L : Int) := by omega
  have HNP : Hid _ := npow_any L (by omega) (by omega)
  have HX : Hid (CtxK w0 g A l0 cf K) := X
  have HS : Hid (SXK w0 g cap l0 K w.heap.size (w.alloc (.cells #[.int .u64 (L : Int)] 96)) (fun f => Win a b f0 f)) := by
    obtain ⟨l, h, he⟩ := S
    exact ⟨⟨l, h.alloc _, he ▸ Win.refl _ _ _⟩, ⟨(L : Int), by simp⟩, by simp, h.size⟩
  clear X S hL hQ
  go_enter Try.func59, Try.ntmps59
  go_wp2_with fail
  generalize w.alloc (.cells #[.int .u64 (L : Int)] 96) = W at HS ⊢
  generalize w.heap.size = c at HS ⊢
  refine Calls.mono (HNP.out _) ?_
  rintro e w' ⟨M, rfl, hM1, hM2, rfl⟩
  clear HNP
  go_wp2_with fail
  obtain ⟨I, hI, b1, b2⟩ : ∃ I : Nat, (a : Int) + (Q : Int) * 2 - 1 = (I : Int) ∧ I + 1 ≤ a + Q * 2 ∧ a + Q * 2 ≤ I + 1 := ⟨a + Q * 2 - 1, by omega, by omega, by omega⟩
  rw [hI]
  go_loopw [11, 12] (fun v _ wx => ∃ i : Nat, I ≤ i ∧ i ≤ I + 3 ∧ v = .int .i64 i ∧ Hid (SXK w0 g cap l0 K c wx (fun f => Win a b f0 f))) (fun v _ _ => I + 3 - (intOf v).toNat)
  case atStart => exact ⟨I, by omega, by omega, rfl, HS.out⟩
  case round =>
    clear HS
    obtain ⟨i, hi1, hi2, rfl, HS⟩ := hrel
    by_cases hg : i ≤ I + 2
    · have hgz : (i : Int) ≤ (a : Int) + (Q : Int) * 2 + 1 := by omega
      obtain ⟨r, hr⟩ := HS.out.2.1
      have hfr := HS.out.2.2.1
      have HN : Hid _ := Next_any hr hfr
      go_wp2_with fail
      refine Calls.mono HN.out ?_
      rintro e w1 ⟨r', rfl, hr0, hr1, hr2, hr3, hk⟩
      have HS1 : Hid (SXK w0 g cap l0 K c w1 (fun f => Win a b f0 f)) := by
        obtain ⟨⟨l, h1, he⟩, h2, h3, h4⟩ := HS.out
        exact ⟨⟨l, h1.keptc HX.out.lt h4 hk, he⟩, ⟨r', hr2⟩, hr3, h4⟩
      clear HS HN hr hfr hr2 hr3 hk
      obtain ⟨o, ho, ho2⟩ : ∃ o : Nat, bits .and .u64 r' ((M : Int) - 1) = (o : Int) ∧ o < M := by
        refine ⟨r'.toNat &&& ((M : Int) - 1).toNat, u64_and _ _ (by omega) (by omega) (by omega) (by omega), ?_⟩
        have := Nat.and_le_right (n := r'.toNat) (m := ((M : Int) - 1).toNat)
        omega
      go_upto_if 45 with fail
      go_cut [12] (fun v wx => ∃ o : Nat, o < L ∧ v = .int .i64 o ∧ Hid (SXK w0 g cap l0 K c wx (fun f => Win a b f0 f)))
      case first =>
        by_cases hoL : L ≤ o
        · have hoz : (L : Int) ≤ (o : Int) := by omega
          go_wp2
          go_meet
          exact ⟨o - L, by omega, by first | rfl | go_num | (congr 1; omega), HS1.out⟩
        · have hoz : ¬ (L : Int) ≤ (o : Int) := by omega
          go_wp2
          go_meet
          exact ⟨o, by omega, rfl, HS1.out⟩
      case rest =>
        clear HS1 ho ho2
        obtain ⟨o, ho, rfl, HS⟩ := hcut
        obtain ⟨x', y', u, d1, d2, f1, f2, d3, HE⟩ := HS.out.swaps HX.out.lt (i := i) (j := a + o) (by omega) (by omega)
        clear HS
        go_wp2_with fail
        go_big_region_o
        generalize ((wc.setCell ⟨g, i, none⟩ (.int .i64 y')).setCell ⟨g, a + o, none⟩ (.int .i64 x')).drew = W3 at HE ⊢
        clear d1 d2 d3 f1 f2
        go_wp2
        go_round
        case rel => exact ⟨i + 1, by omega, by omega, by first | rfl | go_num | (congr 1; omega), ⟨HE.out.1.mono (by rintro f ⟨f', h1, rfl⟩; exact h1.sw (by omega) (by omega) (by omega) (by omega)), HE.out.2⟩⟩
        case measure => simp [intOf] <;> omega
    · have hgz : ¬ (i : Int) ≤ (a : Int) + (Q : Int) * 2 + 1 := by omega
      go_wp2
      first | (go_end0; exact ⟨rfl, HS.out.1⟩) | (refine bodyPost_ret (results_none rfl _ _ _) rfl ?_; exact ⟨rfl, HS.out.1⟩)
end Go.Proofs.Ytnfamebihpnjlaa
