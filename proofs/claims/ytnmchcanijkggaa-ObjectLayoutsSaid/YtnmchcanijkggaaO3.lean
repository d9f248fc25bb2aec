/- Heads: the document's Right, sizes, the two cells of a head. -/
import Derived.Test.YtnmchcanijkggaaO1
namespace Go.Proofs.Ytnmchcanijkggaa
open Go.RowKit

theorem bcell' {W w1 : World} (hb : Below W.heap.size W w1) : (∀ b o, b < W.heap.size → w1.cell? ⟨b, o, none⟩ = W.cell? ⟨b, o, none⟩) ∧ (∀ b o, b < W.heap.size → w1.frozen? ⟨b, o, none⟩ = W.frozen? ⟨b, o, none⟩) :=
  ⟨fun b o h => hb.cell (p := ⟨b, o, none⟩) h, fun b o h => hb.frozen (p := ⟨b, o, none⟩) h⟩

theorem plain_sum {h : Hd} (hw : up h.w 3 = true) (hf : up h.f 2147483647 = true) : (decide (h.k = 5) || !(wrap64 (h.w + h.f) != 0)) = plainB h := by
  simp only [up, Bool.and_eq_true, decide_eq_true_eq] at hw hf
  have e : wrap64 (h.w + h.f) = h.w + h.f := by unfold wrap64; omega
  unfold plainB; rw [e]
  by_cases h5 : h.k = 5
  · simp [h5]
  · by_cases h0 : h.w = 0 <;> by_cases h1 : h.f = 0 <;> simp [h5, h0, h1] <;> omega

set_option maxHeartbeats 4000000 in
theorem RRight_any (h : Hd) (w : World) :
    Calls Try.prog 13 #[AH h] w fun e w' => e = .returned (.int .i64 (rightE h)) ∧ Below w.heap.size w w' := by
  by_cases ha : h.k < 4
  · rw [show rightE h = 10 by simp [rightE, isObj, show ¬ 4 ≤ h.k by omega]]
    go_enter Try.func13, Try.ntmps13
    go_wp2
    go_ret
    exact ⟨rfl, (Below.refl _ _).alloc (Nat.le_refl _) _⟩
  by_cases hb : 9 < h.k
  · rw [show rightE h = 10 by simp [rightE, isObj, show ¬ h.k ≤ 9 by omega]]
    go_enter Try.func13, Try.ntmps13
    go_wp2
    go_ret
    exact ⟨rfl, (Below.refl _ _).alloc (Nat.le_refl _) _⟩
  have h1 : isObj h.k = true := by simp [isObj]; omega
  cases h2 : up h.c 3
  · rw [show rightE h = 1 by simp [rightE, h1, fineB, h2]]
    go_enter Try.func13, Try.ntmps13
    go_wp2_with (first | (go_at_call 38; refine (in_any _ _ _).mono ?_; rintro e w' ⟨rfl, rfl⟩))
    go_ret
    exact ⟨rfl, (Below.refl _ _).alloc (Nat.le_refl _) _⟩
  cases h3 : up h.a 6
  · rw [show rightE h = 1 by simp [rightE, h1, fineB, h3]]
    go_enter Try.func13, Try.ntmps13
    go_wp2_with (first | (go_at_call 38; refine (in_any _ _ _).mono ?_; rintro e w' ⟨rfl, rfl⟩))
    go_ret
    exact ⟨rfl, (Below.refl _ _).alloc (Nat.le_refl _) _⟩
  cases h4 : up h.w 3
  · rw [show rightE h = 1 by simp [rightE, h1, fineB, h4]]
    go_enter Try.func13, Try.ntmps13
    go_wp2_with (first | (go_at_call 38; refine (in_any _ _ _).mono ?_; rintro e w' ⟨rfl, rfl⟩))
    go_ret
    exact ⟨rfl, (Below.refl _ _).alloc (Nat.le_refl _) _⟩
  cases h5 : up h.s 2147483647
  · rw [show rightE h = 1 by simp [rightE, h1, fineB, h5]]
    go_enter Try.func13, Try.ntmps13
    go_wp2_with (first | (go_at_call 38; refine (in_any _ _ _).mono ?_; rintro e w' ⟨rfl, rfl⟩))
    go_ret
    exact ⟨rfl, (Below.refl _ _).alloc (Nat.le_refl _) _⟩
  cases h6 : up h.f 2147483647
  · rw [show rightE h = 1 by simp [rightE, h1, fineB, h6]]
    go_enter Try.func13, Try.ntmps13
    go_wp2_with (first | (go_at_call 38; refine (in_any _ _ _).mono ?_; rintro e w' ⟨rfl, rfl⟩))
    go_ret
    exact ⟨rfl, (Below.refl _ _).alloc (Nat.le_refl _) _⟩
  cases h8 : up h.x 4096
  · rw [show rightE h = 1 by simp [rightE, h1, fineB, h8]]
    go_enter Try.func13, Try.ntmps13
    go_wp2_with (first | (go_at_call 38; refine (in_any _ _ _).mono ?_; rintro e w' ⟨rfl, rfl⟩))
    go_ret
    exact ⟨rfl, (Below.refl _ _).alloc (Nat.le_refl _) _⟩
  cases h9 : up h.l 4096
  · rw [show rightE h = 1 by simp [rightE, h1, fineB, h9]]
    go_enter Try.func13, Try.ntmps13
    go_wp2_with (first | (go_at_call 38; refine (in_any _ _ _).mono ?_; rintro e w' ⟨rfl, rfl⟩))
    go_ret
    exact ⟨rfl, (Below.refl _ _).alloc (Nat.le_refl _) _⟩
  have hp := plain_sum h4 h6
  by_cases hc : h.k = 5
  · have hpl : plainB h = true := by simp [plainB, hc]
    rw [show rightE h = 0 by simp [rightE, h1, fineB, h2, h3, h4, h5, h6, hpl, h8, h9]]
    have hc' : (h.k != 5) = false := by simp [hc]
    go_enter Try.func13, Try.ntmps13
    go_wp2_with (first | (go_at_call 38; refine (in_any _ _ _).mono ?_; rintro e w' ⟨rfl, rfl⟩))
    go_ret
    exact ⟨rfl, (Below.refl _ _).alloc (Nat.le_refl _) _⟩
  have hc' : (h.k != 5) = true := by simp [hc]
  cases hd : (wrap64 (h.w + h.f) != 0)
  · rw [show rightE h = 0 by simp [rightE, h1, fineB, h2, h3, h4, h5, h6, ← hp, hd, h8, h9]]
    clear hp
    go_enter Try.func13, Try.ntmps13
    go_wp2_with (first | (go_at_call 38; refine (in_any _ _ _).mono ?_; rintro e w' ⟨rfl, rfl⟩))
    go_ret
    exact ⟨rfl, (Below.refl _ _).alloc (Nat.le_refl _) _⟩
  · rw [show rightE h = 1 by simp [rightE, h1, fineB, ← hp, hd, hc]]
    clear hp
    go_enter Try.func13, Try.ntmps13
    go_wp2_with (first | (go_at_call 38; refine (in_any _ _ _).mono ?_; rintro e w' ⟨rfl, rfl⟩))
    go_ret
    exact ⟨rfl, (Below.refl _ _).alloc (Nat.le_refl _) _⟩
end Go.Proofs.Ytnmchcanijkggaa
