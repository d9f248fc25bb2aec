/- slices.siftDownCmpFunc, slices.heapSortCmpFunc. -/
import Derived.Test.YtnfamebihpnjlaaU2
namespace Go.Proofs.Ytnfamebihpnjlaa
open Go.RowKit
set_option linter.unusedSimpArgs false
set_option linter.unusedVariables false

set_option maxRecDepth 20000 in
set_option maxHeartbeats 4000000 in
theorem sift_any {w0 w : World} {g cap A : Nat} {l0 : List Int} {cf : Int → Int → Int} (X : Ctx w0 g A l0 cf) (S : ∃ l, SR w0 g cap l0 l w) {lo hi f : Nat} (hf : f + hi ≤ l0.length) (hlo : lo ≤ 100000) :
    Calls Try.prog 67 #[.slice (some ⟨g, 0, none⟩) l0.length cap, .int .i64 lo, .int .i64 hi, .int .i64 f, cv A] w fun e w' => e = .returned (.tuple #[]) ∧ ∃ l, SR w0 g cap l0 l w' := by
  have mixed : Try.prog.follows .mixedOrders = true := by kernel_rfl
  have hlen := X.len
  have HX : Hid (Ctx w0 g A l0 cf) := X
  have HS : Hid (∃ l, SR w0 g cap l0 l w) := S
  clear X S
  go_enter Try.func67, Try.ntmps67
  go_wp2_with fail
  go_loopw [10, 11] (fun vr _ wr => ∃ r : Nat, r ≤ 200000 ∧ (r < hi ∨ r = lo) ∧ vr = .int .i64 r ∧ Hid (∃ l, SR w0 g cap l0 l wr)) (fun vr _ _ => hi - (intOf vr).toNat)
  case atStart => exact ⟨lo, by omega, Or.inr rfl, rfl, HS.out⟩
  case round =>
    clear HS
    obtain ⟨r, hr, hrl, rfl, HS⟩ := hrel
    by_cases h1 : 2 * r + 1 < hi
    · have h1z : ¬ (2 * (r : Int) + 1 ≥ (hi : Int)) := by omega
      have h1y : ¬ ((hi : Int) ≤ 2 * (r : Int) + 1) := by omega
      have k1 : (f : Int) + (r : Int) < (l0.length : Int) := by omega
      have k2 : (f : Int) + (2 * (r : Int) + 1) < (l0.length : Int) := by omega
      by_cases h2 : 2 * r + 1 + 1 < hi
      · have h2z : 2 * (r : Int) + 1 + 1 < (hi : Int) := by omega
        have k3 : (f : Int) + (2 * (r : Int) + 1) + 1 < (l0.length : Int) := by omega
        obtain ⟨l, HL⟩ : ∃ l, Hid (SR w0 g cap l0 l wr) := HS.out
        clear HS
        have c1 := HL.out.cell (i := f + (2 * r + 1)) (by omega)
        have c2 := HL.out.cell (i := f + (2 * r + 1) + 1) (by omega)
        have HC : Hid _ := HL.out.cmp HX.out (i := f + (2 * r + 1)) (j := f + (2 * r + 1) + 1) (by omega) (by omega)
        generalize at' l (f + (2 * r + 1)) = x at c1 HC
        generalize at' l (f + (2 * r + 1) + 1) = y at c2 HC
        by_cases hc : cf x y < 0
        · have hd : decide (cf x y < 0) = true := decide_eq_true hc
          go_wp2_with fail
          go_quiet (first | (go_at_call 48; exact HC.out _))
          have HS : Hid (∃ l, SR w0 g cap l0 l (wr.drewN nq)) := ⟨_, HL.out.drewN nq⟩
          clear HL HC c1 c2 hc hd
          generalize wr.drewN nq = W1 at HS ⊢
          have k4 : (f : Int) + (2 * (r : Int) + 1 + 1) < (l0.length : Int) := by omega
          obtain ⟨l, HL⟩ : ∃ l, Hid (SR w0 g cap l0 l W1) := HS.out
          clear HS
          have c1 := HL.out.cell (i := f + r) (by omega)
          have c2 := HL.out.cell (i := f + (2 * r + 1 + 1)) (by omega)
          have HC : Hid _ := HL.out.cmp HX.out (i := f + r) (j := f + (2 * r + 1 + 1)) (by omega) (by omega)
          generalize at' l (f + r) = x at c1 HC
          generalize at' l (f + (2 * r + 1 + 1)) = y at c2 HC
          by_cases hc : cf x y < 0
          · have hd : decide (cf x y < 0) = true := decide_eq_true hc
            go_wp2_with fail
            go_quiet (first | (go_at_call 48; exact HC.out _))
            have HS : Hid (∃ l, SR w0 g cap l0 l (W1.drewN nq)) := ⟨_, HL.out.drewN nq⟩
            clear HL HC c1 c2 hc hd
            generalize W1.drewN nq = W2 at HS ⊢
            obtain ⟨l, HL⟩ : ∃ l, Hid (SR w0 g cap l0 l W2) := HS.out
            clear HS
            obtain ⟨x', y', u, d1, d2, f1, f2, d3, HS⟩ := HL.out.swaps (i := f + r) (j := f + (2 * r + 1 + 1)) (by omega) (by omega)
            clear HL
            go_wp2_with fail
            go_big_region_o
            generalize ((W2.setCell ⟨g, f + r, none⟩ (.int .i64 y')).setCell ⟨g, f + (2 * r + 1 + 1), none⟩ (.int .i64 x')).drew = W3 at HS ⊢
            clear d1 d2 d3 f1 f2
            go_wp2
            go_round
            case rel => exact ⟨(2 * r + 1 + 1), by omega, by omega, by go_num, HS.out⟩
            case measure => simp [intOf] <;> omega
          · have hd : decide (cf x y < 0) = false := decide_eq_false hc
            go_wp2_with fail
            go_quiet (first | (go_at_call 48; exact HC.out _))
            have HS : Hid (∃ l, SR w0 g cap l0 l (W1.drewN nq)) := ⟨_, HL.out.drewN nq⟩
            clear HL HC c1 c2 hc hd
            generalize W1.drewN nq = W2 at HS ⊢
            go_wp2
            first | (go_end0; exact ⟨rfl, HS.out⟩) | (refine bodyPost_ret (results_none rfl _ _ _) rfl ?_; exact ⟨rfl, HS.out⟩)
        · have hd : decide (cf x y < 0) = false := decide_eq_false hc
          go_wp2_with fail
          go_quiet (first | (go_at_call 48; exact HC.out _))
          have HS : Hid (∃ l, SR w0 g cap l0 l (wr.drewN nq)) := ⟨_, HL.out.drewN nq⟩
          clear HL HC c1 c2 hc hd
          generalize wr.drewN nq = W1 at HS ⊢
          obtain ⟨l, HL⟩ : ∃ l, Hid (SR w0 g cap l0 l W1) := HS.out
          clear HS
          have c1 := HL.out.cell (i := f + r) (by omega)
          have c2 := HL.out.cell (i := f + (2 * r + 1)) (by omega)
          have HC : Hid _ := HL.out.cmp HX.out (i := f + r) (j := f + (2 * r + 1)) (by omega) (by omega)
          generalize at' l (f + r) = x at c1 HC
          generalize at' l (f + (2 * r + 1)) = y at c2 HC
          by_cases hc : cf x y < 0
          · have hd : decide (cf x y < 0) = true := decide_eq_true hc
            go_wp2_with fail
            go_quiet (first | (go_at_call 48; exact HC.out _))
            have HS : Hid (∃ l, SR w0 g cap l0 l (W1.drewN nq)) := ⟨_, HL.out.drewN nq⟩
            clear HL HC c1 c2 hc hd
            generalize W1.drewN nq = W2 at HS ⊢
            obtain ⟨l, HL⟩ : ∃ l, Hid (SR w0 g cap l0 l W2) := HS.out
            clear HS
            obtain ⟨x', y', u, d1, d2, f1, f2, d3, HS⟩ := HL.out.swaps (i := f + r) (j := f + (2 * r + 1)) (by omega) (by omega)
            clear HL
            go_wp2_with fail
            go_big_region_o
            generalize ((W2.setCell ⟨g, f + r, none⟩ (.int .i64 y')).setCell ⟨g, f + (2 * r + 1), none⟩ (.int .i64 x')).drew = W3 at HS ⊢
            clear d1 d2 d3 f1 f2
            go_wp2
            go_round
            case rel => exact ⟨(2 * r + 1), by omega, by omega, by go_num, HS.out⟩
            case measure => simp [intOf] <;> omega
          · have hd : decide (cf x y < 0) = false := decide_eq_false hc
            go_wp2_with fail
            go_quiet (first | (go_at_call 48; exact HC.out _))
            have HS : Hid (∃ l, SR w0 g cap l0 l (W1.drewN nq)) := ⟨_, HL.out.drewN nq⟩
            clear HL HC c1 c2 hc hd
            generalize W1.drewN nq = W2 at HS ⊢
            go_wp2
            first | (go_end0; exact ⟨rfl, HS.out⟩) | (refine bodyPost_ret (results_none rfl _ _ _) rfl ?_; exact ⟨rfl, HS.out⟩)
      · have h2z : ¬ 2 * (r : Int) + 1 + 1 < (hi : Int) := by omega
        have hz : decide (2 * (r : Int) + 1 + 1 < (hi : Int)) = false := decide_eq_false (by omega)
        have HS1 : Hid (∃ l, SR w0 g cap l0 l wr.drew) := HS.out.imp fun _ h => h.drew
        clear HS
        rename Hid (∃ l, SR w0 g cap l0 l wr.drew) => HS
        go_wp2_with fail
        go_big_region_o
        generalize wr.drew = W1 at HS ⊢
        obtain ⟨l, HL⟩ : ∃ l, Hid (SR w0 g cap l0 l W1) := HS.out
        clear HS
        have c1 := HL.out.cell (i := f + r) (by omega)
        have c2 := HL.out.cell (i := f + (2 * r + 1)) (by omega)
        have HC : Hid _ := HL.out.cmp HX.out (i := f + r) (j := f + (2 * r + 1)) (by omega) (by omega)
        generalize at' l (f + r) = x at c1 HC
        generalize at' l (f + (2 * r + 1)) = y at c2 HC
        by_cases hc : cf x y < 0
        · have hd : decide (cf x y < 0) = true := decide_eq_true hc
          go_wp2_with fail
          go_quiet (first | (go_at_call 48; exact HC.out _))
          have HS : Hid (∃ l, SR w0 g cap l0 l (W1.drewN nq)) := ⟨_, HL.out.drewN nq⟩
          clear HL HC c1 c2 hc hd
          generalize W1.drewN nq = W2 at HS ⊢
          obtain ⟨l, HL⟩ : ∃ l, Hid (SR w0 g cap l0 l W2) := HS.out
          clear HS
          obtain ⟨x', y', u, d1, d2, f1, f2, d3, HS⟩ := HL.out.swaps (i := f + r) (j := f + (2 * r + 1)) (by omega) (by omega)
          clear HL
          go_wp2_with fail
          go_big_region_o
          generalize ((W2.setCell ⟨g, f + r, none⟩ (.int .i64 y')).setCell ⟨g, f + (2 * r + 1), none⟩ (.int .i64 x')).drew = W3 at HS ⊢
          clear d1 d2 d3 f1 f2
          go_wp2
          go_round
          case rel => exact ⟨(2 * r + 1), by omega, by omega, by go_num, HS.out⟩
          case measure => simp [intOf] <;> omega
        · have hd : decide (cf x y < 0) = false := decide_eq_false hc
          go_wp2_with fail
          go_quiet (first | (go_at_call 48; exact HC.out _))
          have HS : Hid (∃ l, SR w0 g cap l0 l (W1.drewN nq)) := ⟨_, HL.out.drewN nq⟩
          clear HL HC c1 c2 hc hd
          generalize W1.drewN nq = W2 at HS ⊢
          go_wp2
          first | (go_end0; exact ⟨rfl, HS.out⟩) | (refine bodyPost_ret (results_none rfl _ _ _) rfl ?_; exact ⟨rfl, HS.out⟩)
    · have h1z : (2 * (r : Int) + 1 ≥ (hi : Int)) := by omega
      have h1y : ((hi : Int) ≤ 2 * (r : Int) + 1) := by omega
      go_wp2
      first | (go_end0; exact ⟨rfl, HS.out⟩) | (refine bodyPost_ret (results_none rfl _ _ _) rfl ?_; exact ⟨rfl, HS.out⟩)
end Go.Proofs.Ytnfamebihpnjlaa
