/- slices.partitionEqualCmpFunc, slices.reverseRangeCmpFunc. -/
import Derived.Test.YtnfamebihpnjlaaU5
namespace Go.Proofs.Ytnfamebihpnjlaa
open Go.RowKit
set_option linter.unusedSimpArgs false
set_option linter.unusedVariables false

set_option maxRecDepth 20000 in
set_option maxHeartbeats 4000000 in
theorem peq_any {w0 w : World} {g cap A : Nat} {l0 : List Int} {cf : Int → Int → Int} (X : Ctx w0 g A l0 cf) (S : ∃ l, SR w0 g cap l0 l w) {a b p : Nat} (hap : a ≤ p) (hpb : p < b) (hb : b ≤ l0.length) :
    Calls Try.prog 63 #[.slice (some ⟨g, 0, none⟩) l0.length cap, .int .i64 a, .int .i64 b, .int .i64 p, cv A] w fun e w' => ∃ m : Nat, e = .returned (.int .i64 m) ∧ a < m ∧ m ≤ b ∧ ∃ l, SR w0 g cap l0 l w' := by
  have mixed : Try.prog.follows .mixedOrders = true := by kernel_rfl
  have hlen := X.len
  have HX : Hid (Ctx w0 g A l0 cf) := X
  have HS : Hid (∃ l, SR w0 g cap l0 l w) := S
  clear X S
  go_enter Try.func63, Try.ntmps63
  go_wp2_with fail
  obtain ⟨l, HL⟩ : ∃ l, Hid (SR w0 g cap l0 l w) := HS.out
  clear HS
  obtain ⟨x', y', u, d1, d2, f1, f2, d3, HS⟩ := HL.out.swaps (i := a) (j := p) (by omega) (by omega)
  clear HL
  go_wp2_with fail
  go_big_region_o
  generalize ((w.setCell ⟨g, a, none⟩ (.int .i64 y')).setCell ⟨g, p, none⟩ (.int .i64 x')).drew = W0 at HS ⊢
  clear d1 d2 d3 f1 f2
  go_wp2_with fail
  go_loopw [11, 12] (fun v v' wx => ∃ i j : Nat, a + 1 ≤ i ∧ i ≤ b ∧ a ≤ j ∧ j + 1 ≤ b ∧ v = .int .i64 i ∧ v' = .int .i64 j ∧ Hid (∃ l, SR w0 g cap l0 l wx)) (fun v v' _ => b + 1 - (intOf v).toNat + (intOf v').toNat)
  case atStart => exact ⟨a + 1, b - 1, by omega, by omega, by omega, by omega, by first | rfl | go_num | (congr 1; omega), by first | rfl | go_num | (congr 1; omega), HS.out⟩
  case round =>
    clear HS
    obtain ⟨i0, j0, hi01, hi02, hj01, hj02, rfl, rfl, HS⟩ := hrel
    go_upto_block 2 with fail
    go_cut [11] (fun v wx => ∃ i : Nat, i0 ≤ i ∧ i ≤ b ∧ v = .int .i64 i ∧ Hid (∃ l, SR w0 g cap l0 l wx))
    case first =>
      go_wp2_with fail
      go_loopw [11] (fun v wx => ∃ i : Nat, i0 ≤ i ∧ i ≤ b ∧ v = .int .i64 i ∧ Hid (∃ l, SR w0 g cap l0 l wx)) (fun v _ => b + 1 - (intOf v).toNat)
      case atStart => exact ⟨i0, by omega, by omega, by first | rfl | go_num | (congr 1; omega), HS.out⟩
      case round =>
        clear HS
        obtain ⟨i, hi1, hi2, rfl, HS⟩ := hrel
        by_cases hg : i ≤ j0
        · have hgz : (i : Int) ≤ (j0 : Int) := by omega
          obtain ⟨l, HL⟩ : ∃ l, Hid (SR w0 g cap l0 l wr) := HS.out
          clear HS
          have c1 := HL.out.cell (i := a) (by omega)
          have c2 := HL.out.cell (i := i) (by omega)
          have HC : Hid _ := HL.out.cmp HX.out (i := a) (j := i) (by omega) (by omega)
          generalize at' l (a) = x at c1 HC
          generalize at' l (i) = y at c2 HC
          by_cases hc : cf x y < 0
          · have hd : decide (cf x y < 0) = true := decide_eq_true hc
            go_wp2_with fail
            go_quiet (first | (go_at_call 48; exact HC.out _))
            have HS : Hid (∃ l, SR w0 g cap l0 l (wr.drewN nq)) := ⟨_, HL.out.drewN nq⟩
            clear HL HC c1 c2 hc hd
            generalize wr.drewN nq = W1 at HS ⊢
            go_wp2
            go_meet
            exact ⟨i, by omega, by omega, rfl, HS.out⟩
          · have hd : decide (cf x y < 0) = false := decide_eq_false hc
            go_wp2_with fail
            go_quiet (first | (go_at_call 48; exact HC.out _))
            have HS : Hid (∃ l, SR w0 g cap l0 l (wr.drewN nq)) := ⟨_, HL.out.drewN nq⟩
            clear HL HC c1 c2 hc hd
            generalize wr.drewN nq = W1 at HS ⊢
            go_wp2
            go_round
            case rel => exact ⟨i + 1, by omega, by omega, by first | rfl | go_num | (congr 1; omega), HS.out⟩
            case measure => simp [intOf] <;> omega
        · have hz : decide ((i : Int) ≤ (j0 : Int)) = false := decide_eq_false (by omega)
          have hgz : ¬ (i : Int) ≤ (j0 : Int) := by omega
          have HS1 : Hid (∃ l, SR w0 g cap l0 l wr.drew) := HS.out.imp fun _ h => h.drew
          clear HS
          rename Hid (∃ l, SR w0 g cap l0 l wr.drew) => HS
          go_wp2_with fail
          go_big_region_o
          generalize wr.drew = W1 at HS ⊢
          go_wp2
          go_meet
          exact ⟨i, by omega, by omega, rfl, HS.out⟩
    case rest =>
      clear HS
      obtain ⟨i, hi1, hi2, rfl, HS⟩ := hcut
      go_upto_block 4 with fail
      go_cut [12] (fun v wx => ∃ j : Nat, a ≤ j ∧ j + 1 ≤ j0 + 1 ∧ v = .int .i64 j ∧ Hid (∃ l, SR w0 g cap l0 l wx))
      case first =>
        go_wp2_with fail
        go_loopw [12] (fun v wx => ∃ j : Nat, a ≤ j ∧ j + 1 ≤ j0 + 1 ∧ v = .int .i64 j ∧ Hid (∃ l, SR w0 g cap l0 l wx)) (fun v _ => (intOf v).toNat)
        case atStart => exact ⟨j0, by omega, by omega, by first | rfl | go_num | (congr 1; omega), HS.out⟩
        case round =>
          clear HS
          obtain ⟨j, hj1, hj2, rfl, HS⟩ := hrel
          by_cases hg : i ≤ j
          · obtain ⟨q, rfl⟩ : ∃ q, j = q + 1 := ⟨j - 1, by omega⟩
            have hgz : (i : Int) ≤ (q : Int) + 1 := by omega
            obtain ⟨l, HL⟩ : ∃ l, Hid (SR w0 g cap l0 l wr) := HS.out
            clear HS
            have c1 := HL.out.cell (i := a) (by omega)
            have c2 := HL.out.cell (i := (q + 1)) (by omega)
            have HC : Hid _ := HL.out.cmp HX.out (i := a) (j := (q + 1)) (by omega) (by omega)
            generalize at' l (a) = x at c1 HC
            generalize at' l ((q + 1)) = y at c2 HC
            by_cases hc : cf x y < 0
            · have hd : decide (cf x y < 0) = true := decide_eq_true hc
              go_wp2_with fail
              go_quiet (first | (go_at_call 48; exact HC.out _))
              have HS : Hid (∃ l, SR w0 g cap l0 l (wr.drewN nq)) := ⟨_, HL.out.drewN nq⟩
              clear HL HC c1 c2 hc hd
              generalize wr.drewN nq = W1 at HS ⊢
              go_wp2
              go_round
              case rel => exact ⟨q, by omega, by omega, by first | rfl | go_num | (congr 1; omega), HS.out⟩
              case measure => simp [intOf] <;> omega
            · have hd : decide (cf x y < 0) = false := decide_eq_false hc
              go_wp2_with fail
              go_quiet (first | (go_at_call 48; exact HC.out _))
              have HS : Hid (∃ l, SR w0 g cap l0 l (wr.drewN nq)) := ⟨_, HL.out.drewN nq⟩
              clear HL HC c1 c2 hc hd
              generalize wr.drewN nq = W1 at HS ⊢
              go_wp2
              go_meet
              exact ⟨q + 1, by omega, by omega, by first | rfl | go_num | (congr 1; omega), HS.out⟩
          · have hz : decide ((i : Int) ≤ (j : Int)) = false := decide_eq_false (by omega)
            have hgz : ¬ (i : Int) ≤ (j : Int) := by omega
            have HS1 : Hid (∃ l, SR w0 g cap l0 l wr.drew) := HS.out.imp fun _ h => h.drew
            clear HS
            rename Hid (∃ l, SR w0 g cap l0 l wr.drew) => HS
            go_wp2_with fail
            go_big_region_o
            generalize wr.drew = W1 at HS ⊢
            go_wp2
            go_meet
            exact ⟨j, by omega, by omega, rfl, HS.out⟩
      case rest =>
        clear HS
        obtain ⟨j, hj1, hj2, rfl, HS⟩ := hcut
        by_cases hij : j < i
        · have hijz : (j : Int) < (i : Int) := by omega
          have hz : decide ((i : Int) > (j : Int)) = true := decide_eq_true (by omega)
          go_wp2
          go_ret
          exact ⟨i, rfl, by omega, by omega, HS.out⟩
        · have hijz : ¬ (j : Int) < (i : Int) := by omega
          obtain ⟨q, rfl⟩ : ∃ q, j = q + 1 := ⟨j - 1, by omega⟩
          have hz : decide ((i : Int) > (q : Int) + 1) = false := decide_eq_false (by omega)
          go_wp2_with fail
          obtain ⟨l, HL⟩ : ∃ l, Hid (SR w0 g cap l0 l wc) := HS.out
          clear HS
          obtain ⟨x', y', u, d1, d2, f1, f2, d3, HS⟩ := HL.out.swaps (i := i) (j := (q + 1)) (by omega) (by omega)
          clear HL
          go_wp2_with fail
          go_big_region_o
          generalize ((wc.setCell ⟨g, i, none⟩ (.int .i64 y')).setCell ⟨g, (q + 1), none⟩ (.int .i64 x')).drew = W5 at HS ⊢
          clear d1 d2 d3 f1 f2
          go_wp2
          go_round
          case rel => exact ⟨i + 1, q, by omega, by omega, by omega, by omega, by first | rfl | go_num | (congr 1; omega), by first | rfl | go_num | (congr 1; omega), HS.out⟩
          case measure => simp [intOf] <;> omega

set_option maxRecDepth 20000 in
set_option maxHeartbeats 4000000 in
theorem rev_any {w0 w : World} {g cap A : Nat} {l0 : List Int} {cf : Int → Int → Int} (X : Ctx w0 g A l0 cf) (S : ∃ l, SR w0 g cap l0 l w) {a b : Nat} (hab : a < b) (hb : b ≤ l0.length) :
    Calls Try.prog 61 #[.slice (some ⟨g, 0, none⟩) l0.length cap, .int .i64 a, .int .i64 b, cv A] w fun e w' => e = .returned (.tuple #[]) ∧ ∃ l, SR w0 g cap l0 l w' := by
  have mixed : Try.prog.follows .mixedOrders = true := by kernel_rfl
  have hlen := X.len
  have HX : Hid (Ctx w0 g A l0 cf) := X
  have HS : Hid (∃ l, SR w0 g cap l0 l w) := S
  clear X S
  go_enter Try.func61, Try.ntmps61
  go_wp2_with fail
  go_loopw [8, 9] (fun v v' wx => ∃ i j : Nat, i ≤ b ∧ j + 1 ≤ b ∧ v = .int .i64 i ∧ v' = .int .i64 j ∧ Hid (∃ l, SR w0 g cap l0 l wx)) (fun v v' _ => (intOf v').toNat + 1 - (intOf v).toNat)
  case atStart => exact ⟨a, b - 1, by omega, by omega, by first | rfl | go_num | (congr 1; omega), by first | rfl | go_num | (congr 1; omega), HS.out⟩
  case round =>
    clear HS
    obtain ⟨i, j, hi, hj, rfl, rfl, HS⟩ := hrel
    by_cases hij : i < j
    · obtain ⟨q, rfl⟩ : ∃ q, j = q + 1 := ⟨j - 1, by omega⟩
      have hijz : (i : Int) < (q : Int) + 1 := by omega
      go_wp2_with fail
      obtain ⟨l, HL⟩ : ∃ l, Hid (SR w0 g cap l0 l wr) := HS.out
      clear HS
      obtain ⟨x', y', u, d1, d2, f1, f2, d3, HS⟩ := HL.out.swaps (i := i) (j := (q + 1)) (by omega) (by omega)
      clear HL
      go_wp2_with fail
      go_big_region_o
      generalize ((wr.setCell ⟨g, i, none⟩ (.int .i64 y')).setCell ⟨g, (q + 1), none⟩ (.int .i64 x')).drew = W1 at HS ⊢
      clear d1 d2 d3 f1 f2
      go_wp2
      go_round
      case rel => exact ⟨i + 1, q, by omega, by omega, by first | rfl | go_num | (congr 1; omega), by first | rfl | go_num | (congr 1; omega), HS.out⟩
      case measure => simp [intOf] <;> omega
    · have hijz : ¬ (i : Int) < (j : Int) := by omega
      go_wp2
      first | (go_end0; exact ⟨rfl, HS.out⟩) | (refine bodyPost_ret (results_none rfl _ _ _) rfl ?_; exact ⟨rfl, HS.out⟩)
end Go.Proofs.Ytnfamebihpnjlaa
