/- Plain facts: two numbers are alike just if they are one key; a key is its own key. -/
import Derived.Test.YtakpmefkddplhaaGreatDoorW7
import Derived.Test.YtakpmefkddplhaaGreatDoorFm6
namespace Go.Proofs.YtakpmefkddplhaaGreatDoor
open Go.RowKit

/-- What is told of a number with a place: whole, and then its value is that int's; or a float that is not. -/
theorem place_cases {t n : Int} (h : plc t n = true) (h1 : -9223372036854775808 ≤ n) (h2 : n ≤ 9223372036854775807) :
    (whE t n = 0 ∧ vv t n = Fm.ival (whN t n) ∧ -9223372036854775808 ≤ whN t n ∧ whN t n ≤ 9223372036854775807) ∨
    (¬ whE t n = 0 ∧ t = 3 ∧ Fm.nanB (B n) = false ∧ vv t n = Fm.val (B n) ∧ ∀ k : Int, -9223372036854775808 ≤ k → k ≤ 9223372036854775807 → ¬ Fm.val (B n) = Fm.ival k) := by
  have hi : isNum t n = true := by unfold plc at h; simp at h; exact h.1
  rcases plc_cases h with rfl | ⟨rfl, hn⟩
  · left
    exact ⟨by simp [whE, hi], by simp [vv, whN, hi], by simp [whN, hi]; exact h1, by simp [whN, hi]; exact h2⟩
  · have e1 : whE 3 n = if whB (B n) then 0 else 12 := by simp [whE, hi]
    have e2 : whN 3 n = if whB (B n) then tr (B n) else 0 := by simp [whN, hi]
    have e3 : vv 3 n = Fm.val (B n) := by simp [vv]
    rw [e1, e2, e3]
    generalize B n = x at *
    cases hw : whB x
    · right
      refine ⟨by simp, rfl, hn, rfl, fun k k1 k2 hk => ?_⟩
      have hin : withinB x = true := (withinB_iff x).2 ⟨hn, by rw [hk]; exact Fm.ival_le.2 k1, by rw [hk]; exact Fm.ival_lt.2 (by omega)⟩
      have ht : Fm.trunc x = some k := Fm.trunc_of_val hn k1 (by omega) hk
      have : whB x = true := by
        unfold whB
        rw [hin]
        have : tr x = k := by unfold tr; rw [ht]; rfl
        rw [this, decide_eq_true hk]; rfl
      rw [this] at hw; cases hw
    · left
      have hin : withinB x = true := by unfold whB at hw; simp at hw; exact hw.1
      have hv : Fm.val x = Fm.ival (tr x) := by unfold whB at hw; simp at hw; exact hw.2
      have f := within_facts hin
      exact ⟨by simp, by simp [hv], by simp; exact f.2.1, by simp; exact f.2.2.1⟩

theorem keys_alike {s m t n : Int} (p : plc s m = true) (q : plc t n = true) (g1 : -9223372036854775808 ≤ m) (g2 : m ≤ 9223372036854775807) (h1 : -9223372036854775808 ≤ n) (h2 : n ≤ 9223372036854775807) :
    vv s m = vv t n ↔ (kyT s m = kyT t n ∧ kyN s m = kyN t n) := by
  unfold kyT kyN
  rcases place_cases p g1 g2 with ⟨a1, a2, a3, a4⟩ | ⟨a1, a2, a3, a4, a5⟩ <;> rcases place_cases q h1 h2 with ⟨b1, b2, b3, b4⟩ | ⟨b1, b2, b3, b4, b5⟩
  · rw [if_pos a1, if_pos a1, if_pos b1, if_pos b1, a2, b2, Fm.ival_inj]
    exact ⟨fun h => ⟨rfl, h⟩, fun h => h.2⟩
  · rw [if_pos a1, if_pos a1, if_neg b1, if_neg b1, a2, b4]
    constructor
    · intro h; exact absurd h.symm (b5 _ a3 a4)
    · intro h; omega
  · rw [if_neg a1, if_neg a1, if_pos b1, if_pos b1, a4, b2]
    constructor
    · intro h; exact absurd h (a5 _ b3 b4)
    · intro h; omega
  · rw [if_neg a1, if_neg a1, if_neg b1, if_neg b1, a4, b4]
    constructor
    · intro h
      have h0 : Fm.val (B m) ≠ 0 := fun h0 => a5 0 (by omega) (by omega) (by rw [h0]; unfold Fm.ival; simp)
      have he := Fm.val_inj (B_lt m) (B_lt n) a3 b3 h h0
      refine ⟨by rw [a2, b2], ?_⟩
      rw [← bi_B g1 g2, ← bi_B h1 h2, he]
    · intro h; rw [h.2]

theorem key_key (t n : Int) : kyT (kyT t n) (kyN t n) = kyT t n ∧ kyN (kyT t n) (kyN t n) = kyN t n := by
  by_cases h : whE t n = 0
  · have e1 : kyT t n = 2 := by unfold kyT; rw [if_pos h]
    have e2 : kyN t n = whN t n := by unfold kyN; rw [if_pos h]
    rw [e1, e2]
    have e3 : whE 2 (whN t n) = 0 := rfl
    have e4 : whN 2 (whN t n) = whN t n := rfl
    unfold kyT kyN
    rw [if_pos e3, if_pos e3, e4]
    exact ⟨rfl, rfl⟩
  · have e1 : kyT t n = t := by unfold kyT; rw [if_neg h]
    have e2 : kyN t n = n := by unfold kyN; rw [if_neg h]
    rw [e1, e2, e1, e2]
    exact ⟨rfl, rfl⟩

theorem ky_bounds {t n : Int} (h1 : -9223372036854775808 ≤ n) (h2 : n ≤ 9223372036854775807) : -9223372036854775808 ≤ kyN t n ∧ kyN t n ≤ 9223372036854775807 := by
  unfold kyN
  split
  · rename_i h
    unfold whE at h
    unfold whN
    split at h
    · rename_i hi
      rw [if_pos hi]
      split
      · exact ⟨h1, h2⟩
      · rename_i ht
        rw [if_neg ht] at h
        split at h
        · rename_i hw
          rw [if_pos hw]
          have hin : withinB (B n) = true := by unfold whB at hw; simp at hw; exact hw.1
          have f := within_facts hin
          exact ⟨f.2.1, f.2.2.1⟩
        · omega
    · omega
  · exact ⟨h1, h2⟩
end Go.Proofs.YtakpmefkddplhaaGreatDoor
