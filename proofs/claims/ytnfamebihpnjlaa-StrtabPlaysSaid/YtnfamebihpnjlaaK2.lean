/- slices.siftDownCmpFunc mends a heap. -/
import Derived.Test.YtnfamebihpnjlaaK0
namespace Go.Proofs.Ytnfamebihpnjlaa
open Go.RowKit
set_option linter.unusedSimpArgs false
set_option linter.unusedVariables false

set_option maxRecDepth 20000 in
set_option maxHeartbeats 4000000 in
theorem sift_srt {w0 w : World} {g cap A : Nat} {l0 : List Int} {cf : Int → Int → Int} {K : Int → Int} {f0 : Nat → Int} (X : CtxK w0 g A l0 cf K) (S : SRP w0 g cap l0 K w (fun f => f = f0)) {lo hi a : Nat} (hf : a + hi ≤ l0.length) (hlo : lo ≤ 100000) (hp : HpX a lo hi lo f0) :
    Calls Try.prog 67 #[.slice (some ⟨g, 0, none⟩) l0.length cap, .int .i64 lo, .int .i64 hi, .int .i64 a, cv A] w fun e w' => e = .returned (.tuple #[]) ∧ SRP w0 g cap l0 K w' (fun f => Win a (a + hi) f0 f ∧ Hp a lo hi f) := by
  have mixed : Try.prog.follows .mixedOrders = true := by kernel_rfl
  have hlen := X.len
  have HX : Hid (CtxK w0 g A l0 cf K) := X
  have HS : Hid (SRP w0 g cap l0 K w (fun f => f = f0)) := S
  clear X S
  have HP : Hid (HpX a lo hi lo f0) := hp
  clear hp
  go_enter Try.func67, Try.ntmps67
  go_wp2_with fail
  go_loopw [10, 11] (fun vr _ wr => ∃ r : Nat, r ≤ 200000 ∧ (r < hi ∨ r = lo) ∧ lo ≤ r ∧ vr = .int .i64 r ∧ Hid (SRP w0 g cap l0 K wr (fun f => Win a (a + hi) f0 f ∧ HpX a lo hi r f))) (fun vr _ _ => hi - (intOf vr).toNat)
  case atStart => exact ⟨lo, by omega, Or.inr rfl, by omega, rfl, HS.out.mono (by rintro f rfl; exact ⟨Win.refl _ _ _, HP.out⟩)⟩
  case round =>
    clear HS
    obtain ⟨r, hr, hrl, hlr, rfl, HS⟩ := hrel
    by_cases h1 : 2 * r + 1 < hi
    · have h1z : ¬ (2 * (r : Int) + 1 ≥ (hi : Int)) := by omega
      have h1y : ¬ ((hi : Int) ≤ 2 * (r : Int) + 1) := by omega
      have k1 : (a : Int) + (r : Int) < (l0.length : Int) := by omega
      have k2 : (a : Int) + (2 * (r : Int) + 1) < (l0.length : Int) := by omega
      by_cases h2 : 2 * r + 1 + 1 < hi
      · have h2z : 2 * (r : Int) + 1 + 1 < (hi : Int) := by omega
        have k3 : (a : Int) + (2 * (r : Int) + 1) + 1 < (l0.length : Int) := by omega
        obtain ⟨x, y, c1, c2, HC, HT⟩ := HS.out.test HX.out (i := a + (2 * r + 1)) (j := a + (2 * r + 1) + 1) (by omega) (by omega) (by omega)
        clear HS
        by_cases hc : cf x y < 0
        · have hd : decide (cf x y < 0) = true := decide_eq_true hc
          go_wp2_with fail
          go_quiet (first | (go_at_call 48; exact HC.out _))
          have HS := hid (HT.out.1 hc nq)
          clear HT HC c1 c2 hc hd
          generalize wr.drewN nq = W1 at HS ⊢
          have k4 : (a : Int) + (2 * (r : Int) + 1 + 1) < (l0.length : Int) := by omega
          obtain ⟨x, y, c1, c2, HC, HT⟩ := HS.out.test HX.out (i := a + r) (j := a + (2 * r + 1 + 1)) (by omega) (by omega) (by omega)
          clear HS
          by_cases hc : cf x y < 0
          · have hd : decide (cf x y < 0) = true := decide_eq_true hc
            go_wp2_with fail
            go_quiet (first | (go_at_call 48; exact HC.out _))
            have HS := hid (HT.out.1 hc nq)
            clear HT HC c1 c2 hc hd
            generalize W1.drewN nq = W2 at HS ⊢
            obtain ⟨x', y', u, d1, d2, f1, f2, d3, HE⟩ := HS.out.swaps (i := a + r) (j := a + (2 * r + 1 + 1)) (by omega) (by omega)
            clear HS
            go_wp2_with fail
            go_big_region_o
            generalize ((W2.setCell ⟨g, a + r, none⟩ (.int .i64 y')).setCell ⟨g, a + (2 * r + 1 + 1), none⟩ (.int .i64 x')).drew = W3 at HE ⊢
            have HS := HE
            clear HE d1 d2 d3 f1 f2
            go_wp2
            go_round
            case rel => exact ⟨(2 * r + 1 + 1), by omega, by omega, by omega, by go_num, HS.out.mono (by rintro f ⟨f', ⟨⟨⟨h1, h2⟩, h4⟩, h5⟩, rfl⟩; exact ⟨h1.sw (by omega) (by omega) (by omega) (by omega), h2.step (by omega) (by omega) (by omega) h5 (by intro k hk hh hne; obtain rfl : k = 2 * r + 1 := (by omega); rw [Nat.add_assoc a (2 * r + 1) 1] at h4; exact h4)⟩)⟩
            case measure => simp [intOf] <;> omega
          · have hd : decide (cf x y < 0) = false := decide_eq_false hc
            go_wp2_with fail
            go_quiet (first | (go_at_call 48; exact HC.out _))
            have HS := hid (HT.out.2 hc nq)
            clear HT HC c1 c2 hc hd
            generalize W1.drewN nq = W2 at HS ⊢
            go_wp2
            first | (go_end0; exact ⟨rfl, HS.out.mono (by rintro f ⟨⟨⟨h1, h2⟩, h4⟩, h5⟩; exact ⟨h1, h2.stop (by intro k hk hh; rw [Nat.add_assoc a (2 * r + 1) 1] at h4; rcases hk with rfl | rfl; (exact Int.lt_trans h4 h5); (exact h5))⟩)⟩) | (refine bodyPost_ret (results_none rfl _ _ _) rfl ?_; exact ⟨rfl, HS.out.mono (by rintro f ⟨⟨⟨h1, h2⟩, h4⟩, h5⟩; exact ⟨h1, h2.stop (by intro k hk hh; rw [Nat.add_assoc a (2 * r + 1) 1] at h4; rcases hk with rfl | rfl; (exact Int.lt_trans h4 h5); (exact h5))⟩)⟩)
        · have hd : decide (cf x y < 0) = false := decide_eq_false hc
          go_wp2_with fail
          go_quiet (first | (go_at_call 48; exact HC.out _))
          have HS := hid (HT.out.2 hc nq)
          clear HT HC c1 c2 hc hd
          generalize wr.drewN nq = W1 at HS ⊢
          obtain ⟨x, y, c1, c2, HC, HT⟩ := HS.out.test HX.out (i := a + r) (j := a + (2 * r + 1)) (by omega) (by omega) (by omega)
          clear HS
          by_cases hc : cf x y < 0
          · have hd : decide (cf x y < 0) = true := decide_eq_true hc
            go_wp2_with fail
            go_quiet (first | (go_at_call 48; exact HC.out _))
            have HS := hid (HT.out.1 hc nq)
            clear HT HC c1 c2 hc hd
            generalize W1.drewN nq = W2 at HS ⊢
            obtain ⟨x', y', u, d1, d2, f1, f2, d3, HE⟩ := HS.out.swaps (i := a + r) (j := a + (2 * r + 1)) (by omega) (by omega)
            clear HS
            go_wp2_with fail
            go_big_region_o
            generalize ((W2.setCell ⟨g, a + r, none⟩ (.int .i64 y')).setCell ⟨g, a + (2 * r + 1), none⟩ (.int .i64 x')).drew = W3 at HE ⊢
            have HS := HE
            clear HE d1 d2 d3 f1 f2
            go_wp2
            go_round
            case rel => exact ⟨(2 * r + 1), by omega, by omega, by omega, by go_num, HS.out.mono (by rintro f ⟨f', ⟨⟨⟨h1, h2⟩, h4⟩, h5⟩, rfl⟩; exact ⟨h1.sw (by omega) (by omega) (by omega) (by omega), h2.step (by omega) (by omega) (by omega) h5 (by intro k hk hh hne; obtain rfl : k = 2 * r + 1 + 1 := (by omega); rw [Nat.add_assoc a (2 * r + 1) 1] at h4; exact h4)⟩)⟩
            case measure => simp [intOf] <;> omega
          · have hd : decide (cf x y < 0) = false := decide_eq_false hc
            go_wp2_with fail
            go_quiet (first | (go_at_call 48; exact HC.out _))
            have HS := hid (HT.out.2 hc nq)
            clear HT HC c1 c2 hc hd
            generalize W1.drewN nq = W2 at HS ⊢
            go_wp2
            first | (go_end0; exact ⟨rfl, HS.out.mono (by rintro f ⟨⟨⟨h1, h2⟩, h4⟩, h5⟩; exact ⟨h1, h2.stop (by intro k hk hh; rw [Nat.add_assoc a (2 * r + 1) 1] at h4; rcases hk with rfl | rfl; (exact h5); (exact Int.lt_trans h4 h5))⟩)⟩) | (refine bodyPost_ret (results_none rfl _ _ _) rfl ?_; exact ⟨rfl, HS.out.mono (by rintro f ⟨⟨⟨h1, h2⟩, h4⟩, h5⟩; exact ⟨h1, h2.stop (by intro k hk hh; rw [Nat.add_assoc a (2 * r + 1) 1] at h4; rcases hk with rfl | rfl; (exact h5); (exact Int.lt_trans h4 h5))⟩)⟩)
      · have h2z : ¬ 2 * (r : Int) + 1 + 1 < (hi : Int) := by omega
        have hz : decide (2 * (r : Int) + 1 + 1 < (hi : Int)) = false := decide_eq_false (by omega)
        have HS1 := hid HS.out.drew
        clear HS
        go_wp2_with fail
        go_big_region_o
        generalize wr.drew = W1 at HS1 ⊢
        have HS := HS1
        clear HS1
        obtain ⟨x, y, c1, c2, HC, HT⟩ := HS.out.test HX.out (i := a + r) (j := a + (2 * r + 1)) (by omega) (by omega) (by omega)
        clear HS
        by_cases hc : cf x y < 0
        · have hd : decide (cf x y < 0) = true := decide_eq_true hc
          go_wp2_with fail
          go_quiet (first | (go_at_call 48; exact HC.out _))
          have HS := hid (HT.out.1 hc nq)
          clear HT HC c1 c2 hc hd
          generalize W1.drewN nq = W2 at HS ⊢
          obtain ⟨x', y', u, d1, d2, f1, f2, d3, HE⟩ := HS.out.swaps (i := a + r) (j := a + (2 * r + 1)) (by omega) (by omega)
          clear HS
          go_wp2_with fail
          go_big_region_o
          generalize ((W2.setCell ⟨g, a + r, none⟩ (.int .i64 y')).setCell ⟨g, a + (2 * r + 1), none⟩ (.int .i64 x')).drew = W3 at HE ⊢
          have HS := HE
          clear HE d1 d2 d3 f1 f2
          go_wp2
          go_round
          case rel => exact ⟨(2 * r + 1), by omega, by omega, by omega, by go_num, HS.out.mono (by rintro f ⟨f', ⟨⟨h1, h2⟩, h5⟩, rfl⟩; exact ⟨h1.sw (by omega) (by omega) (by omega) (by omega), h2.step (by omega) (by omega) (by omega) h5 (by intro k hk hh hne; omega)⟩)⟩
          case measure => simp [intOf] <;> omega
        · have hd : decide (cf x y < 0) = false := decide_eq_false hc
          go_wp2_with fail
          go_quiet (first | (go_at_call 48; exact HC.out _))
          have HS := hid (HT.out.2 hc nq)
          clear HT HC c1 c2 hc hd
          generalize W1.drewN nq = W2 at HS ⊢
          go_wp2
          first | (go_end0; exact ⟨rfl, HS.out.mono (by rintro f ⟨⟨h1, h2⟩, h5⟩; exact ⟨h1, h2.stop (by intro k hk hh; obtain rfl : k = 2 * r + 1 := (by omega); exact h5)⟩)⟩) | (refine bodyPost_ret (results_none rfl _ _ _) rfl ?_; exact ⟨rfl, HS.out.mono (by rintro f ⟨⟨h1, h2⟩, h5⟩; exact ⟨h1, h2.stop (by intro k hk hh; obtain rfl : k = 2 * r + 1 := (by omega); exact h5)⟩)⟩)
    · have h1z : (2 * (r : Int) + 1 ≥ (hi : Int)) := by omega
      have h1y : ((hi : Int) ≤ 2 * (r : Int) + 1) := by omega
      go_wp2
      first | (go_end0; exact ⟨rfl, HS.out.mono (by rintro f ⟨h1, h2⟩; exact ⟨h1, h2.stop (by intro k hk hh; omega)⟩)⟩) | (refine bodyPost_ret (results_none rfl _ _ _) rfl ?_; exact ⟨rfl, HS.out.mono (by rintro f ⟨h1, h2⟩; exact ⟨h1, h2.stop (by intro k hk hh; omega)⟩)⟩)
end Go.Proofs.Ytnfamebihpnjlaa
