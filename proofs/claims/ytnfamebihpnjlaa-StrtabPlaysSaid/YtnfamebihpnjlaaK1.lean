/- slices.insertionSortCmpFunc sorts. -/
import Derived.Test.YtnfamebihpnjlaaK0
namespace Go.Proofs.Ytnfamebihpnjlaa
open Go.RowKit
set_option linter.unusedSimpArgs false
set_option linter.unusedVariables false

set_option maxRecDepth 20000 in
set_option maxHeartbeats 4000000 in
theorem ins_srt {w0 w : World} {g cap A : Nat} {l0 : List Int} {cf : Int → Int → Int} {K : Int → Int} {f0 : Nat → Int} (X : CtxK w0 g A l0 cf K) (S : SRP w0 g cap l0 K w (fun f => f = f0)) {a b : Nat} (hab : a ≤ b) (hb : b ≤ l0.length) :
    Calls Try.prog 57 #[.slice (some ⟨g, 0, none⟩) l0.length cap, .int .i64 a, .int .i64 b, cv A] w fun e w' => e = .returned (.tuple #[]) ∧ SRP w0 g cap l0 K w' (fun f => Win a b f0 f ∧ Srt a b f) := by
  have mixed : Try.prog.follows .mixedOrders = true := by kernel_rfl
  have hlen := X.len
  have HX : Hid (CtxK w0 g A l0 cf K) := X
  have HS : Hid (SRP w0 g cap l0 K w (fun f => f = f0)) := S
  clear X S
  go_enter Try.func57, Try.ntmps57
  go_wp2_with fail
  go_loopw [8] (fun vi wr => ∃ i : Nat, a < i ∧ i ≤ b + 1 ∧ vi = .int .i64 i ∧ Hid (SRP w0 g cap l0 K wr (fun f => Win a b f0 f ∧ Srt a i f))) (fun vi _ => b + 1 - (intOf vi).toNat)
  case atStart => exact ⟨a + 1, by omega, by omega, by go_num, HS.out.mono (by rintro f rfl; exact ⟨Win.refl _ _ _, srt_small (by omega)⟩)⟩
  case round =>
    clear HS
    obtain ⟨i, hai, hib, rfl, HS⟩ := hrel
    by_cases hlt : i < b
    · have hltz : (i : Int) < (b : Int) := by omega
      go_wp2_with fail
      go_loopw [9] (fun vj wr2 => ∃ j : Nat, a ≤ j ∧ j ≤ i ∧ vj = .int .i64 j ∧ Hid (SRP w0 g cap l0 K wr2 (fun f => Win a b f0 f ∧ InsJ a i j f))) (fun vj _ => (intOf vj).toNat)
      case atStart => exact ⟨i, by omega, by omega, rfl, HS.out.mono (by rintro f ⟨h1, h2⟩; exact ⟨h1, insJ_start h2⟩)⟩
      case round =>
        clear HS
        obtain ⟨j, haj, hji, rfl, HS⟩ := hrel
        by_cases hja : a < j
        · obtain ⟨q, rfl⟩ : ∃ q, j = q + 1 := ⟨j - 1, by omega⟩
          have hjz : (a : Int) < (q : Int) + 1 := by omega
          have k1 : (q : Int) + 1 < (l0.length : Int) := by omega
          have k2 : (q : Int) < (l0.length : Int) := by omega
          obtain ⟨x, y, c1, c2, HC, HT⟩ := HS.out.test HX.out (i := q + 1) (j := q) (by omega) (by omega) (by omega)
          clear HS
          by_cases hc : cf x y < 0
          · have hd : decide (cf x y < 0) = true := decide_eq_true hc
            go_wp2_with fail
            go_quiet (first | (go_at_call 48; exact HC.out _))
            have HS := hid (HT.out.1 hc nq)
            clear HT HC c1 c2 hc hd
            generalize wr.drewN nq = W1 at HS ⊢
            obtain ⟨x', y', u, d1, d2, f1, f2, d3, HE⟩ := HS.out.swaps (i := q + 1) (j := q) (by omega) (by omega)
            clear HS
            go_wp2_with fail
            go_big_region_o
            generalize ((W1.setCell ⟨g, q + 1, none⟩ (.int .i64 y')).setCell ⟨g, q, none⟩ (.int .i64 x')).drew = W2 at HE ⊢
            have HS := HE
            clear HE d1 d2 d3 f1 f2
            go_wp2
            go_round
            case rel => exact ⟨q, by omega, by omega, by go_num, HS.out.mono (by rintro f ⟨f', ⟨⟨h1, h2⟩, h3⟩, rfl⟩; exact ⟨h1.sw (by omega) (by omega) (by omega) (by omega), insJ_step h2 (by omega) (by omega) h3⟩)⟩
            case measure => simp [intOf] <;> omega
          · have hd : decide (cf x y < 0) = false := decide_eq_false hc
            go_wp2_with fail
            go_quiet (first | (go_at_call 48; exact HC.out _))
            have HS := hid (HT.out.2 hc nq)
            clear HT HC c1 c2 hc hd
            generalize wr.drewN nq = W1 at HS ⊢
            go_wp2
            go_round
            case rel => exact ⟨i + 1, by omega, by omega, by go_num, HS.out.mono (by rintro f ⟨⟨h1, h2⟩, h3⟩; exact ⟨h1, insJ_stop h2 (by omega) (by omega) (Or.inr h3)⟩)⟩
            case measure => simp [intOf] <;> omega
        · have hjz : ¬ (a : Int) < (j : Int) := by omega
          have HS1 := hid HS.out.drew
          clear HS
          go_wp2_with fail
          go_big_region_o
          generalize wr.drew = W1 at HS1 ⊢
          have HS := HS1
          clear HS1
          go_wp2
          go_round
          case rel => exact ⟨i + 1, by omega, by omega, by go_num, HS.out.mono (by rintro f ⟨h1, h2⟩; exact ⟨h1, insJ_stop h2 (by omega) (by omega) (Or.inl (by omega))⟩)⟩
          case measure => simp [intOf] <;> omega
    · have hltz : ¬ (i : Int) < (b : Int) := by omega
      go_wp2
      first | (go_end0; exact ⟨rfl, HS.out.mono (by rintro f ⟨h1, h2⟩; exact ⟨h1, h2.sub (by omega)⟩)⟩) | (refine bodyPost_ret (results_none rfl _ _ _) rfl ?_; exact ⟨rfl, HS.out.mono (by rintro f ⟨h1, h2⟩; exact ⟨h1, h2.sub (by omega)⟩)⟩)
end Go.Proofs.Ytnfamebihpnjlaa
