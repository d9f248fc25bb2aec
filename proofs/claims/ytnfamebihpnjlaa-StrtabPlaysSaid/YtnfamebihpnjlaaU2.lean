/- slices.insertionSortCmpFunc. -/
import Derived.Test.YtnfamebihpnjlaaU1
namespace Go.Proofs.Ytnfamebihpnjlaa
open Go.RowKit
set_option linter.unusedSimpArgs false
set_option linter.unusedVariables false

set_option maxRecDepth 20000 in
set_option maxHeartbeats 2000000 in
theorem ins_any {w0 w : World} {g cap A : Nat} {l0 : List Int} {cf : Int → Int → Int} (X : Ctx w0 g A l0 cf) (S : ∃ l, SR w0 g cap l0 l w) {a b : Nat} (hab : a ≤ b) (hb : b ≤ l0.length) :
    Calls Try.prog 57 #[.slice (some ⟨g, 0, none⟩) l0.length cap, .int .i64 a, .int .i64 b, cv A] w fun e w' => e = .returned (.tuple #[]) ∧ ∃ l, SR w0 g cap l0 l w' := by
  have mixed : Try.prog.follows .mixedOrders = true := by kernel_rfl
  have hlen := X.len
  have HX : Hid (Ctx w0 g A l0 cf) := X
  have HS : Hid (∃ l, SR w0 g cap l0 l w) := S
  clear X S
  go_enter Try.func57, Try.ntmps57
  go_wp2_with fail
  go_loopw [8] (fun vi wr => ∃ i : Nat, a < i ∧ i ≤ b + 1 ∧ vi = .int .i64 i ∧ Hid (∃ l, SR w0 g cap l0 l wr)) (fun vi _ => b + 1 - (intOf vi).toNat)
  case atStart => exact ⟨a + 1, by omega, by omega, by go_num, HS.out⟩
  case round =>
    clear HS
    obtain ⟨i, hai, hib, rfl, HS⟩ := hrel
    by_cases hlt : i < b
    · have hltz : (i : Int) < (b : Int) := by omega
      go_wp2_with fail
      go_loopw [9] (fun vj wr2 => ∃ j : Nat, a ≤ j ∧ j ≤ i ∧ vj = .int .i64 j ∧ Hid (∃ l, SR w0 g cap l0 l wr2)) (fun vj _ => (intOf vj).toNat)
      case atStart => exact ⟨i, by omega, by omega, rfl, HS.out⟩
      case round =>
        clear HS
        obtain ⟨j, haj, hji, rfl, HS⟩ := hrel
        by_cases hja : a < j
        · obtain ⟨q, rfl⟩ : ∃ q, j = q + 1 := ⟨j - 1, by omega⟩
          obtain ⟨l, HL⟩ : ∃ l, Hid (SR w0 g cap l0 l wr) := HS.out
          clear HS
          have c1 := HL.out.cell (i := q + 1) (by omega)
          have c2 := HL.out.cell (i := q) (by omega)
          have HC : Hid _ := HL.out.cmp HX.out (i := q + 1) (j := q) (by omega) (by omega)
          generalize at' l (q + 1) = x at c1 HC
          generalize at' l q = y at c2 HC
          have hjz : (a : Int) < (q : Int) + 1 := by omega
          have k1 : (q : Int) + 1 < (l0.length : Int) := by omega
          have k2 : (q : Int) < (l0.length : Int) := by omega
          by_cases hc : cf x y < 0
          · go_wp2_with fail
            go_quiet (first | (go_at_call 48; exact HC.out _))
            have HL' : Hid (SR w0 g cap l0 l (wr.drewN nq)) := HL.out.drewN nq
            clear HL HC c1 c2
            generalize wr.drewN nq = W at HL' ⊢
            obtain ⟨x', y', u, d1, d2, f1, f2, d3, HE⟩ := HL'.out.swaps (i := q + 1) (j := q) (by omega) (by omega)
            clear HL'
            go_wp2_with fail
            go_big_region_o
            generalize ((W.setCell ⟨g, q + 1, none⟩ (.int .i64 y')).setCell ⟨g, q, none⟩ (.int .i64 x')).drew = W3 at HE ⊢
            clear d1 d2 d3 f1 f2
            go_wp2
            go_round
            case rel => exact ⟨q, by omega, by omega, by go_num, HE.out⟩
            case measure => simp [intOf] <;> omega
          · go_wp2_with fail
            go_quiet (first | (go_at_call 48; exact HC.out _))
            have HE : Hid (∃ l, SR w0 g cap l0 l (wr.drewN nq)) := ⟨_, HL.out.drewN nq⟩
            clear HL HC c1 c2
            generalize wr.drewN nq = W at HE ⊢
            go_wp2
            go_round
            case rel => exact ⟨i + 1, by omega, by omega, by go_num, HE.out⟩
            case measure => simp [intOf] <;> omega
        · have hjz : ¬ (a : Int) < (j : Int) := by omega
          have HE : Hid (∃ l, SR w0 g cap l0 l wr.drew) := HS.out.imp fun _ h => h.drew
          clear HS
          go_wp2_with fail
          go_big_region_o
          generalize wr.drew = W at HE ⊢
          go_wp2
          go_round
          case rel => exact ⟨i + 1, by omega, by omega, by go_num, HE.out⟩
          case measure => simp [intOf] <;> omega
    · have hltz : ¬ (i : Int) < (b : Int) := by omega
      go_wp2
      go_end0
      exact ⟨rfl, HS.out⟩
end Go.Proofs.Ytnfamebihpnjlaa
