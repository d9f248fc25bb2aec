/- slices.partialInsertionSortCmpFunc. -/
import Derived.Test.YtnfamebihpnjlaaU6
namespace Go.Proofs.Ytnfamebihpnjlaa
open Go.RowKit
set_option linter.unusedSimpArgs false
set_option linter.unusedVariables false

set_option maxRecDepth 20000 in
set_option maxHeartbeats 4000000 in
theorem pins_any {w0 w : World} {g cap A : Nat} {l0 : List Int} {cf : Int → Int → Int} (X : Ctx w0 g A l0 cf) (S : ∃ l, SR w0 g cap l0 l w) {a b : Nat} (hab : a < b) (hb : b ≤ l0.length) :
    Calls Try.prog 62 #[.slice (some ⟨g, 0, none⟩) l0.length cap, .int .i64 a, .int .i64 b, cv A] w fun e w' => ∃ t : Bool, e = .returned (.bool t) ∧ ∃ l, SR w0 g cap l0 l w' := by
  have mixed : Try.prog.follows .mixedOrders = true := by kernel_rfl
  have hlen := X.len
  have HX : Hid (Ctx w0 g A l0 cf) := X
  have HS : Hid (∃ l, SR w0 g cap l0 l w) := S
  clear X S
  go_enter Try.func62, Try.ntmps62
  go_wp2_with fail
  go_loopw [9, 10, 11, 12] (fun v v' _ _ wx => ∃ i k : Nat, a + 1 ≤ i ∧ i ≤ b ∧ k ≤ 5 ∧ v = .int .i64 i ∧ v' = .int .i64 k ∧ Hid (∃ l, SR w0 g cap l0 l wx)) (fun _ v' _ _ _ => 5 - (intOf v').toNat)
  case atStart => exact ⟨a + 1, 0, by omega, by omega, by omega, by first | rfl | go_num | (congr 1; omega), by first | rfl | go_num | (congr 1; omega), HS.out⟩
  case round =>
    clear HS
    obtain ⟨i0, k, hi01, hi02, hk, rfl, rfl, HS⟩ := hrel
    by_cases hk5 : k < 5
    · have hkz : (k : Int) < 5 := by omega
      go_upto_block 2 with fail
      go_cut [9] (fun v wx => ∃ i : Nat, a + 1 ≤ i ∧ i ≤ b ∧ v = .int .i64 i ∧ Hid (∃ l, SR w0 g cap l0 l wx))
      case first =>
        go_wp2_with fail
        go_loopw [9] (fun v wx => ∃ i : Nat, a + 1 ≤ i ∧ i ≤ b ∧ v = .int .i64 i ∧ Hid (∃ l, SR w0 g cap l0 l wx)) (fun v _ => b - (intOf v).toNat)
        case atStart => exact ⟨i0, by omega, by omega, by first | rfl | go_num | (congr 1; omega), HS.out⟩
        case round =>
          clear HS
          obtain ⟨i, hi1, hi2, rfl, HS⟩ := hrel
          by_cases hg : i < b
          · obtain ⟨q, rfl⟩ : ∃ q, i = q + 1 := ⟨i - 1, by omega⟩
            have hgz : (q : Int) + 1 < (b : Int) := by omega
            obtain ⟨l, HL⟩ : ∃ l, Hid (SR w0 g cap l0 l wr) := HS.out
            clear HS
            have c1 := HL.out.cell (i := (q + 1)) (by omega)
            have c2 := HL.out.cell (i := q) (by omega)
            have HC : Hid _ := HL.out.cmp HX.out (i := (q + 1)) (j := q) (by omega) (by omega)
            generalize at' l ((q + 1)) = x at c1 HC
            generalize at' l (q) = y at c2 HC
            by_cases hc : cf x y < 0
            · have hd : decide (cf x y < 0) = true := decide_eq_true hc
              go_wp2_with fail
              go_quiet (first | (go_at_call 48; exact HC.out _))
              have HS : Hid (∃ l, SR w0 g cap l0 l (wr.drewN nq)) := ⟨_, HL.out.drewN nq⟩
              clear HL HC c1 c2 hc hd
              generalize wr.drewN nq = W1 at HS ⊢
              go_wp2
              go_meet
              exact ⟨q + 1, by omega, by omega, by first | rfl | go_num | (congr 1; omega), HS.out⟩
            · have hd : decide (cf x y < 0) = false := decide_eq_false hc
              go_wp2_with fail
              go_quiet (first | (go_at_call 48; exact HC.out _))
              have HS : Hid (∃ l, SR w0 g cap l0 l (wr.drewN nq)) := ⟨_, HL.out.drewN nq⟩
              clear HL HC c1 c2 hc hd
              generalize wr.drewN nq = W1 at HS ⊢
              go_wp2
              go_round
              case rel => exact ⟨q + 1 + 1, by omega, by omega, by first | rfl | go_num | (congr 1; omega), HS.out⟩
              case measure => simp [intOf] <;> omega
          · have hz : decide ((i : Int) < (b : Int)) = false := decide_eq_false (by omega)
            have hgz : ¬ (i : Int) < (b : Int) := by omega
            have HS1 : Hid (∃ l, SR w0 g cap l0 l wr.drew) := HS.out.imp fun _ h => h.drew
            clear HS
            rename Hid (∃ l, SR w0 g cap l0 l wr.drew) => HS
            go_wp2_with fail
            go_big_region_o
            generalize wr.drew = W1 at HS ⊢
            go_wp2
            go_meet
            exact ⟨i, by omega, by omega, rfl, HS.out⟩
      case rest =>
        clear HS
        obtain ⟨i, hi1, hi2, rfl, HS⟩ := hcut
        by_cases hib : i = b
        · have hibz : (i : Int) = (b : Int) := by omega
          have hibb : ((i : Int) == (b : Int)) = true := by simp [hibz]
          go_wp2
          go_ret
          first | exact ⟨_, rfl, HS.out⟩ | exact ⟨Or.inl rfl, HS.out⟩ | exact ⟨Or.inr rfl, HS.out⟩
        · have hibz : ¬ (i : Int) = (b : Int) := by omega
          have hibb : ((i : Int) == (b : Int)) = false := by simp [hibz]
          by_cases h50 : b - a < 50
          · have h50z : (b : Int) - (a : Int) < 50 := by omega
            go_wp2
            go_ret
            first | exact ⟨_, rfl, HS.out⟩ | exact ⟨Or.inl rfl, HS.out⟩ | exact ⟨Or.inr rfl, HS.out⟩
          · have h50z : ¬ (b : Int) - (a : Int) < 50 := by omega
            have em : ((i - 1 : Nat) : Int) = (i : Int) - 1 := by omega
            have en : ((i : Int) - 1).toNat = i - 1 := by omega
            obtain ⟨l, HL⟩ : ∃ l, Hid (SR w0 g cap l0 l wc) := HS.out
            clear HS
            obtain ⟨x', y', u, d1, d2, f1, f2, d3, HS⟩ := HL.out.swaps (i := i) (j := (i - 1)) (by omega) (by omega)
            clear HL
            go_wp2_with fail
            go_big_region_o
            generalize ((wc.setCell ⟨g, i, none⟩ (.int .i64 y')).setCell ⟨g, (i - 1), none⟩ (.int .i64 x')).drew = W5 at HS ⊢
            clear d1 d2 d3 f1 f2
            go_upto_if 65 with fail
            go_cut [11] (fun _ wx => Hid (∃ l, SR w0 g cap l0 l wx))
            case first =>
              by_cases hq : 2 ≤ i - a
              · have hqz : (2 : Int) ≤ (i : Int) - (a : Int) := by omega
                go_wp2_with fail
                go_loopw [11] (fun v wx => ∃ j : Nat, j + 1 ≤ i ∧ v = .int .i64 j ∧ Hid (∃ l, SR w0 g cap l0 l wx)) (fun v _ => (intOf v).toNat)
                case atStart => exact ⟨i - 1, by omega, by first | rfl | go_num | (congr 1; omega), HS.out⟩
                case round =>
                  clear HS
                  obtain ⟨j, hj1, rfl, HS⟩ := hrel
                  by_cases hg : 1 ≤ j
                  · obtain ⟨q, rfl⟩ : ∃ q, j = q + 1 := ⟨j - 1, by omega⟩
                    have hgz : (1 : Int) ≤ (q : Int) + 1 := by omega
                    obtain ⟨l, HL⟩ : ∃ l, Hid (SR w0 g cap l0 l wr) := HS.out
                    clear HS
                    have c1 := HL.out.cell (i := (q + 1)) (by omega)
                    have c2 := HL.out.cell (i := q) (by omega)
                    have HC : Hid _ := HL.out.cmp HX.out (i := (q + 1)) (j := q) (by omega) (by omega)
                    generalize at' l ((q + 1)) = x at c1 HC
                    generalize at' l (q) = y at c2 HC
                    by_cases hc : cf x y < 0
                    · have hd : decide (cf x y < 0) = true := decide_eq_true hc
                      go_wp2_with fail
                      go_quiet (first | (go_at_call 48; exact HC.out _))
                      have HS : Hid (∃ l, SR w0 g cap l0 l (wr.drewN nq)) := ⟨_, HL.out.drewN nq⟩
                      clear HL HC c1 c2 hc hd
                      generalize wr.drewN nq = W1 at HS ⊢
                      obtain ⟨l, HL⟩ : ∃ l, Hid (SR w0 g cap l0 l W1) := HS.out
                      clear HS
                      obtain ⟨x', y', u, d1, d2, f1, f2, d3, HS⟩ := HL.out.swaps (i := (q + 1)) (j := q) (by omega) (by omega)
                      clear HL
                      go_wp2_with fail
                      go_big_region_o
                      generalize ((W1.setCell ⟨g, (q + 1), none⟩ (.int .i64 y')).setCell ⟨g, q, none⟩ (.int .i64 x')).drew = W2 at HS ⊢
                      clear d1 d2 d3 f1 f2
                      go_wp2
                      go_round
                      case rel => exact ⟨q, by omega, by first | rfl | go_num | (congr 1; omega), HS.out⟩
                      case measure => simp [intOf] <;> omega
                    · have hd : decide (cf x y < 0) = false := decide_eq_false hc
                      go_wp2_with fail
                      go_quiet (first | (go_at_call 48; exact HC.out _))
                      have HS : Hid (∃ l, SR w0 g cap l0 l (wr.drewN nq)) := ⟨_, HL.out.drewN nq⟩
                      clear HL HC c1 c2 hc hd
                      generalize wr.drewN nq = W1 at HS ⊢
                      go_wp2
                      go_meet
                      exact HS.out
                  · have hgz : ¬ (1 : Int) ≤ (j : Int) := by omega
                    go_wp2
                    go_meet
                    exact HS.out
              · have hqz : ¬ (2 : Int) ≤ (i : Int) - (a : Int) := by omega
                go_wp2
                go_meet
                exact HS.out
            case rest =>
              clear HS
              have HS := hcut
              clear hcut
              by_cases hq : 2 ≤ b - i
              · have hqz : (2 : Int) ≤ (b : Int) - (i : Int) := by omega
                go_wp2_with fail
                go_loopw [12] (fun v wx => ∃ j : Nat, i + 1 ≤ j ∧ j ≤ b ∧ v = .int .i64 j ∧ Hid (∃ l, SR w0 g cap l0 l wx)) (fun v _ => b - (intOf v).toNat)
                case atStart => exact ⟨i + 1, by omega, by omega, by first | rfl | go_num | (congr 1; omega), HS.out⟩
                case round =>
                  clear HS
                  obtain ⟨j, hj1, hj2, rfl, HS⟩ := hrel
                  by_cases hg : j < b
                  · obtain ⟨q, rfl⟩ : ∃ q, j = q + 1 := ⟨j - 1, by omega⟩
                    have hgz : (q : Int) + 1 < (b : Int) := by omega
                    obtain ⟨l, HL⟩ : ∃ l, Hid (SR w0 g cap l0 l wr) := HS.out
                    clear HS
                    have c1 := HL.out.cell (i := (q + 1)) (by omega)
                    have c2 := HL.out.cell (i := q) (by omega)
                    have HC : Hid _ := HL.out.cmp HX.out (i := (q + 1)) (j := q) (by omega) (by omega)
                    generalize at' l ((q + 1)) = x at c1 HC
                    generalize at' l (q) = y at c2 HC
                    by_cases hc : cf x y < 0
                    · have hd : decide (cf x y < 0) = true := decide_eq_true hc
                      go_wp2_with fail
                      go_quiet (first | (go_at_call 48; exact HC.out _))
                      have HS : Hid (∃ l, SR w0 g cap l0 l (wr.drewN nq)) := ⟨_, HL.out.drewN nq⟩
                      clear HL HC c1 c2 hc hd
                      generalize wr.drewN nq = W1 at HS ⊢
                      obtain ⟨l, HL⟩ : ∃ l, Hid (SR w0 g cap l0 l W1) := HS.out
                      clear HS
                      obtain ⟨x', y', u, d1, d2, f1, f2, d3, HS⟩ := HL.out.swaps (i := (q + 1)) (j := q) (by omega) (by omega)
                      clear HL
                      go_wp2_with fail
                      go_big_region_o
                      generalize ((W1.setCell ⟨g, (q + 1), none⟩ (.int .i64 y')).setCell ⟨g, q, none⟩ (.int .i64 x')).drew = W2 at HS ⊢
                      clear d1 d2 d3 f1 f2
                      go_wp2
                      go_round
                      case rel => exact ⟨q + 1 + 1, by omega, by omega, by first | rfl | go_num | (congr 1; omega), HS.out⟩
                      case measure => simp [intOf] <;> omega
                    · have hd : decide (cf x y < 0) = false := decide_eq_false hc
                      go_wp2_with fail
                      go_quiet (first | (go_at_call 48; exact HC.out _))
                      have HS : Hid (∃ l, SR w0 g cap l0 l (wr.drewN nq)) := ⟨_, HL.out.drewN nq⟩
                      clear HL HC c1 c2 hc hd
                      generalize wr.drewN nq = W1 at HS ⊢
                      go_wp2
                      go_round
                      case rel => exact ⟨i, k + 1, by omega, by omega, by omega, rfl, by first | rfl | go_num | (congr 1; omega), HS.out⟩
                      case measure => simp [intOf] <;> omega
                  · have hgz : ¬ (j : Int) < (b : Int) := by omega
                    go_wp2
                    go_round
                    case rel => exact ⟨i, k + 1, by omega, by omega, by omega, rfl, by first | rfl | go_num | (congr 1; omega), HS.out⟩
                    case measure => simp [intOf] <;> omega
              · have hqz : ¬ (2 : Int) ≤ (b : Int) - (i : Int) := by omega
                go_wp2
                go_round
                case rel => exact ⟨i, k + 1, by omega, by omega, by omega, rfl, by first | rfl | go_num | (congr 1; omega), HS.out⟩
                case measure => simp [intOf] <;> omega
    · have hkz : ¬ (k : Int) < 5 := by omega
      go_wp2
      go_ret
      first | exact ⟨_, rfl, HS.out⟩ | exact ⟨Or.inl rfl, HS.out⟩ | exact ⟨Or.inr rfl, HS.out⟩
end Go.Proofs.Ytnfamebihpnjlaa
