/- slices.heapSortCmpFunc. -/
import Derived.Test.YtnfamebihpnjlaaU3
namespace Go.Proofs.Ytnfamebihpnjlaa
open Go.RowKit
set_option linter.unusedSimpArgs false
set_option linter.unusedVariables false

set_option maxRecDepth 20000 in
set_option maxHeartbeats 4000000 in
theorem heap_any {w0 w : World} {g cap A : Nat} {l0 : List Int} {cf : Int → Int → Int} (X : Ctx w0 g A l0 cf) (S : ∃ l, SR w0 g cap l0 l w) {a b : Nat} (hab : a < b) (hb : b ≤ l0.length) :
    Calls Try.prog 58 #[.slice (some ⟨g, 0, none⟩) l0.length cap, .int .i64 a, .int .i64 b, cv A] w fun e w' => e = .returned (.tuple #[]) ∧ ∃ l, SR w0 g cap l0 l w' := by
  obtain ⟨m, rfl⟩ : ∃ m, b = a + m := ⟨b - a, by omega⟩
  have e0 : ((a + m : Nat) : Int) - (a : Int) = (m : Int) := by omega
  have e1 : Int.tdiv ((m : Int) - 1) 2 = (((m - 1) / 2 : Nat) : Int) := by
    have e : (m : Int) - 1 = ((m - 1 : Nat) : Int) := by omega
    rw [e]; rfl
  obtain ⟨mh, hmh⟩ : ∃ mh, mh = (m - 1) / 2 := ⟨_, rfl⟩
  rw [← hmh] at e1
  obtain ⟨B, hB, HB⟩ : ∃ B : Int, ((a + m : Nat) : Int) = B ∧ Hid (B = (a : Int) + (m : Int)) := ⟨_, rfl, by show _ = _; omega⟩
  rw [hB] at e0 ⊢
  have mixed : Try.prog.follows .mixedOrders = true := by kernel_rfl
  have hlen := X.len
  have HX : Hid (Ctx w0 g A l0 cf) := X
  have HS : Hid (∃ l, SR w0 g cap l0 l w) := S
  clear X S
  go_enter Try.func58, Try.ntmps58
  go_wp2_with fail
  go_loopw [11] (fun vi wr => ∃ k : Nat, k ≤ m + 1 ∧ vi = .int .i64 ((k : Int) - 1) ∧ Hid (∃ l, SR w0 g cap l0 l wr)) (fun vi _ => (intOf vi + 1).toNat)
  case atStart => exact ⟨mh + 1, by omega, by go_num, HS.out⟩
  case round =>
    clear HS
    obtain ⟨k, hk, rfl, HS⟩ := hrel
    by_cases hk1 : 1 ≤ k
    · obtain ⟨i, rfl⟩ : ∃ i, k = i + 1 := ⟨k - 1, by omega⟩
      have e2 : ((i + 1 : Nat) : Int) - 1 = (i : Int) := by omega
      rw [e2]
      have HCL : Hid _ := sift_any HX.out HS.out (lo := i) (hi := m) (f := a) (by omega) (by omega)
      clear HS
      go_wp2_with fail
      refine Calls.mono HCL.out ?_
      rintro e W1 ⟨rfl, hs⟩
      have HS : Hid (∃ l, SR w0 g cap l0 l W1) := hs
      clear hs HCL
      go_wp2
      go_round
      case rel => exact ⟨i, by omega, by go_num, HS.out⟩
      case measure => simp [intOf] <;> omega
    · obtain rfl : k = 0 := by omega
      rw [show ((0 : Nat) : Int) - 1 = -1 from rfl]
      go_wp2_with fail
      go_loopw [12] (fun vi wr => ∃ k : Nat, k ≤ m ∧ vi = .int .i64 ((k : Int) - 1) ∧ Hid (∃ l, SR w0 g cap l0 l wr)) (fun vi _ => (intOf vi + 1).toNat)
      case atStart => exact ⟨m, by omega, by go_num, HS.out⟩
      case round =>
        clear HS
        obtain ⟨k, hk, rfl, HS⟩ := hrel
        by_cases hk1 : 1 ≤ k
        · obtain ⟨i, rfl⟩ : ∃ i, k = i + 1 := ⟨k - 1, by omega⟩
          have e2 : ((i + 1 : Nat) : Int) - 1 = (i : Int) := by omega
          rw [e2]
          have k1 : (a : Int) + (i : Int) < (l0.length : Int) := by omega
          have k2 : (a : Int) < (l0.length : Int) := by omega
          obtain ⟨l, HL⟩ : ∃ l, Hid (SR w0 g cap l0 l wr) := HS.out
          clear HS
          obtain ⟨x', y', u, d1, d2, f1, f2, d3, HS⟩ := HL.out.swaps (i := a) (j := a + i) (by omega) (by omega)
          clear HL
          go_wp2_with fail
          go_big_region_o
          generalize ((wr.setCell ⟨g, a, none⟩ (.int .i64 y')).setCell ⟨g, a + i, none⟩ (.int .i64 x')).drew = W1 at HS ⊢
          clear d1 d2 d3 f1 f2
          have HCL : Hid _ := sift_any HX.out HS.out (lo := 0) (hi := i) (f := a) (by omega) (by omega)
          clear HS
          go_wp2_with fail
          refine Calls.mono HCL.out ?_
          rintro e W2 ⟨rfl, hs⟩
          have HS : Hid (∃ l, SR w0 g cap l0 l W2) := hs
          clear hs HCL
          go_wp2
          go_round
          case rel => exact ⟨i, by omega, by go_num, HS.out⟩
          case measure => simp [intOf] <;> omega
        · obtain rfl : k = 0 := by omega
          go_wp2
          first | (go_end0; exact ⟨rfl, HS.out⟩) | (refine bodyPost_ret (results_none rfl _ _ _) rfl ?_; exact ⟨rfl, HS.out⟩)
end Go.Proofs.Ytnfamebihpnjlaa
