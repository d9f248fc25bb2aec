/- The document's quotient rounded down, and its rest. -/
import Derived.Test.YtakpmefkddplhaaGreatDoorR0
namespace Go.Proofs.YtakpmefkddplhaaGreatDoor
open Go.RowKit

theorem rest_wrap (a b : Int) (hb : ¬ b = 0) (h1 : -9223372036854775808 ≤ b) (h2 : b ≤ 9223372036854775807) : wrap64 (a - wrap64 (wrap64 (a.tdiv b) * b)) = a.tmod b := by
  obtain ⟨h0, _, _, h3, h4⟩ := tmod_facts a b hb
  obtain ⟨j, hj⟩ := wrap_ex (a.tdiv b)
  obtain ⟨k, hk⟩ := wrap_ex (wrap64 (a.tdiv b) * b)
  refine wrap_of (k := -(j * b) - k) ?_ (by omega) (by omega)
  rw [hk, hj, Int.add_mul, Int.mul_comm (a.tdiv b) b, Int.mul_assoc, Int.mul_sub, Int.mul_neg]
  omega

theorem neg_one (a : Int) : qd a (-1) = wrap64 (-a) ∧ rd a (-1) = 0 := by
  have e1 : a.tdiv (-1) = -a := by rw [Int.tdiv_neg, Int.tdiv_one]
  have e2 : a.tmod (-1) = 0 := by rw [Int.tmod_neg, Int.tmod_one]
  have e3 : btw a (-1) = false := by unfold btw; rw [e2]; rfl
  unfold qd rd
  rw [e3, e1, e2]
  exact ⟨rfl, rfl⟩

set_option maxHeartbeats 1000000 in
theorem down_any (a b : Int) (w : World) (hb : ¬ b = 0) (h1 : -9223372036854775808 ≤ b) (h2 : b ≤ 9223372036854775807) :
    Calls Tryz.prog 47 #[.int .i64 a, .int .i64 b] w fun e w' => e = .returned (.tuple #[.int .i64 (qd a b), .int .i64 (rd a b)]) ∧ w' = w := by
  by_cases hm : b = -1
  · subst hm
    have HN : Hid (qd a (-1) = wrap64 (-a) ∧ rd a (-1) = 0) := neg_one a
    go_enter Tryz.func47, Tryz.ntmps47
    go_wp2
    go_ret2
    exact ⟨by rw [HN.out.1, HN.out.2]; rfl, rfl⟩
  · have hm' : (b == -1) = false := by simp [hm]
    have HR : Hid (wrap64 (a - wrap64 (wrap64 (a.tdiv b) * b)) = a.tmod b) := rest_wrap a b hb h1 h2
    clear h1 h2
    go_enter Tryz.func47, Tryz.ntmps47
    go_wp2
    · rename_i h
      rw [HR.out] at h
      have e : btw a b = false := by unfold btw; rw [h]; rfl
      go_ret2
      exact ⟨by unfold qd rd; rw [e, h]; rfl, rfl⟩
    · rename_i h h'
      rw [HR.out] at h'
      have e : btw a b = true := by unfold btw; rw [h'.1]; simpa [bne] using h'.2
      go_ret2
      exact ⟨by unfold qd rd; rw [e, ← HR.out]; rfl, rfl⟩
    · rename_i h h'
      rw [HR.out] at h h'
      have e : btw a b = false := by
        unfold btw
        rcases h' with h' | h'
        · rw [h']; rfl
        · have : (decide (a < 0) != decide (b < 0)) = false := by simpa [bne] using h'
          rw [this, Bool.and_false]
      go_ret2
      exact ⟨by unfold qd rd; rw [e, ← HR.out]; rfl, rfl⟩
end Go.Proofs.YtakpmefkddplhaaGreatDoor
