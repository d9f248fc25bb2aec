/- slices.breakPatternsCmpFunc. -/
import Derived.Test.YtnfamebihpnjlaaV0
import Derived.Laws.BitsAllLaws
namespace Go.Proofs.Ytnfamebihpnjlaa
open Go.RowKit
set_option linter.unusedSimpArgs false
set_option linter.unusedVariables false

/-- A world of the sort's with a random number in block c. -/
def SX (w0 : World) (g cap : Nat) (l0 : List Int) (c : Nat) (w : World) : Prop :=
  (∃ l, SR w0 g cap l0 l w) ∧ (∃ r : Int, w.cell? ⟨c, 0, none⟩ = some (.int .u64 r)) ∧ w.frozen? ⟨c, 0, none⟩ = false ∧ w0.heap.size ≤ c
theorem SR.keptc {w0 w w' : World} {g cap c : Nat} {l0 l : List Int} (h : SR w0 g cap l0 l w) (hg : g < w0.heap.size) (hc : w0.heap.size ≤ c) (hk : Kept (fun k => k = c) w w') : SR w0 g cap l0 l w' :=
  ⟨h.row.kept hk (by omega), h.kept.trans' hk (fun i e => .inr (by omega)), h.perm⟩
/-- What an exchange leaves of it. -/
theorem SX.swaps {w0 w : World} {g cap c : Nat} {l0 : List Int} (h : SX w0 g cap l0 c w) (hg : g < w0.heap.size) {i j : Nat} (hi : i < l0.length) (hj : j < l0.length) : ∃ x y u, w.cell? ⟨g, i, none⟩ = some (.int .i64 x) ∧ w.cell? ⟨g, j, none⟩ = some (.int .i64 y) ∧ w.frozen? ⟨g, i, none⟩ = false ∧ w.frozen? ⟨g, j, none⟩ = false ∧
    (w.setCell ⟨g, i, none⟩ (.int .i64 y)).cell? ⟨g, j, none⟩ = some u ∧ Hid (SX w0 g cap l0 c ((w.setCell ⟨g, i, none⟩ (.int .i64 y)).setCell ⟨g, j, none⟩ (.int .i64 x)).drew) := by
  obtain ⟨⟨l, h1⟩, ⟨r, h2⟩, h3, h4⟩ := h
  obtain ⟨x, y, u, d1, d2, f1, f2, d3, HS⟩ := h1.swaps hi hj
  refine ⟨x, y, u, d1, d2, f1, f2, d3, HS.out, ⟨r, ?_⟩, ?_, h4⟩
  · show ((w.setCell ⟨g, i, none⟩ (.int .i64 y)).setCell ⟨g, j, none⟩ (.int .i64 x)).cell? _ = _
    rw [World.cell?_setCell_other _ _ _ _ (by intro e; simp only [Addr.mk.injEq] at e; omega), World.cell?_setCell_other _ _ _ _ (by intro e; simp only [Addr.mk.injEq] at e; omega)]; exact h2
  · show ((w.setCell ⟨g, i, none⟩ (.int .i64 y)).setCell ⟨g, j, none⟩ (.int .i64 x)).frozen? _ = _
    rw [World.frozen?_setCell, World.frozen?_setCell]; exact h3

set_option maxRecDepth 20000 in
set_option maxHeartbeats 4000000 in
theorem brk_any {w0 w : World} {g cap A : Nat} {l0 : List Int} {cf : Int → Int → Int} (X : Ctx w0 g A l0 cf) (S : ∃ l, SR w0 g cap l0 l w) (hsm : l0.length ≤ 60000) {a b : Nat} (hab : a + 12 < b) (hb : b ≤ l0.length) :
    Calls Try.prog 59 #[.slice (some ⟨g, 0, none⟩) l0.length cap, .int .i64 a, .int .i64 b, cv A] w fun e w' => e = .returned (.tuple #[]) ∧ ∃ l, SR w0 g cap l0 l w' := by
  have mixed : Try.prog.follows .mixedOrders = true := by kernel_rfl
  have hlen := X.len
  obtain ⟨L, hL⟩ : ∃ L, L = b - a := ⟨_, rfl⟩
  obtain ⟨Q, hQ⟩ : ∃ Q, Q = L / 4 := ⟨_, rfl⟩
  have e0 : (b : Int) - (a : Int) = (L : Int) := by omega
  have e1 : Int.tdiv (L : Int) 4 = (Q : Int) := by rw [hQ]; rfl
  have e1' : (L : Int) / 4 = (Q : Int) := by omega
  have L1 : a + L ≤ b := by omega
  have L2 : b ≤ a + L := by omega
  have Q1 : 4 * Q ≤ L := by omega
  have Q2 : L < 4 * Q + 4 := by omega
  have l8 : (8 : Int) ≤ (L : Int) := by omega
  have HNP : Hid _ := npow_any L (by omega) (by omega)
  have HX : Hid (Ctx w0 g A l0 cf) := X
  have HS : Hid (SX w0 g cap l0 w.heap.size (w.alloc (.cells #[.int .u64 (L : Int)] 96))) := by
    obtain ⟨l, h⟩ := S
    exact ⟨⟨l, h.alloc _⟩, ⟨(L : Int), by simp⟩, by simp, h.size⟩
  clear X S hL hQ
  go_enter Try.func59, Try.ntmps59
  go_wp2_with fail
  generalize w.alloc (.cells #[.int .u64 (L : Int)] 96) = W at HS ⊢
  generalize w.heap.size = c at HS ⊢
  refine Calls.mono (HNP.out _) ?_
  rintro e w' ⟨M, rfl, hM1, hM2, rfl⟩
  clear HNP
  go_wp2_with fail
  obtain ⟨I, hI, b1, b2⟩ : ∃ I : Nat, (a : Int) + (Q : Int) * 2 - 1 = (I : Int) ∧ I + 1 ≤ a + Q * 2 ∧ a + Q * 2 ≤ I + 1 := ⟨a + Q * 2 - 1, by omega, by omega, by omega⟩
  rw [hI]
  go_loopw [11, 12] (fun v _ wx => ∃ i : Nat, I ≤ i ∧ i ≤ I + 3 ∧ v = .int .i64 i ∧ Hid (SX w0 g cap l0 c wx)) (fun v _ _ => I + 3 - (intOf v).toNat)
  case atStart => exact ⟨I, by omega, by omega, rfl, HS.out⟩
  case round =>
    clear HS
    obtain ⟨i, hi1, hi2, rfl, HS⟩ := hrel
    by_cases hg : i ≤ I + 2
    · have hgz : (i : Int) ≤ (a : Int) + (Q : Int) * 2 + 1 := by omega
      obtain ⟨r, hr⟩ := HS.out.2.1
      have hfr := HS.out.2.2.1
      have HN : Hid _ := Next_any hr hfr
      go_wp2_with fail
      refine Calls.mono HN.out ?_
      rintro e w1 ⟨r', rfl, hr0, hr1, hr2, hr3, hk⟩
      have HS1 : Hid (SX w0 g cap l0 c w1) := by
        obtain ⟨⟨l, h1⟩, h2, h3, h4⟩ := HS.out
        exact ⟨⟨l, h1.keptc HX.out.lt h4 hk⟩, ⟨r', hr2⟩, hr3, h4⟩
      clear HS HN hr hfr hr2 hr3 hk
      obtain ⟨o, ho, ho2⟩ : ∃ o : Nat, bits .and .u64 r' ((M : Int) - 1) = (o : Int) ∧ o < M := by
        refine ⟨r'.toNat &&& ((M : Int) - 1).toNat, u64_and _ _ (by omega) (by omega) (by omega) (by omega), ?_⟩
        have := Nat.and_le_right (n := r'.toNat) (m := ((M : Int) - 1).toNat)
        omega
      go_upto_if 45 with fail
      go_cut [12] (fun v wx => ∃ o : Nat, o < L ∧ v = .int .i64 o ∧ Hid (SX w0 g cap l0 c wx))
      case first =>
        by_cases hoL : L ≤ o
        · have hoz : (L : Int) ≤ (o : Int) := by omega
          go_wp2
          go_meet
          exact ⟨o - L, by omega, by first | rfl | go_num | (congr 1; omega), HS1.out⟩
        · have hoz : ¬ (L : Int) ≤ (o : Int) := by omega
          go_wp2
          go_meet
          exact ⟨o, by omega, rfl, HS1.out⟩
      case rest =>
        clear HS1 ho ho2
        obtain ⟨o, ho, rfl, HS⟩ := hcut
        obtain ⟨x', y', u, d1, d2, f1, f2, d3, HE⟩ := HS.out.swaps HX.out.lt (i := i) (j := a + o) (by omega) (by omega)
        clear HS
        go_wp2_with fail
        go_big_region_o
        generalize ((wc.setCell ⟨g, i, none⟩ (.int .i64 y')).setCell ⟨g, a + o, none⟩ (.int .i64 x')).drew = W3 at HE ⊢
        clear d1 d2 d3 f1 f2
        go_wp2
        go_round
        case rel => exact ⟨i + 1, by omega, by omega, by first | rfl | go_num | (congr 1; omega), HE.out⟩
        case measure => simp [intOf] <;> omega
    · have hgz : ¬ (i : Int) ≤ (a : Int) + (Q : Int) * 2 + 1 := by omega
      go_wp2
      first | (go_end0; exact ⟨rfl, HS.out.1⟩) | (refine bodyPost_ret (results_none rfl _ _ _) rfl ?_; exact ⟨rfl, HS.out.1⟩)
end Go.Proofs.Ytnfamebihpnjlaa
