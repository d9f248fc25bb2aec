/- Numbers as ints, as floats, as keys, and their negatives, in the program and in the document's answer. -/
import Derived.Test.YthefmfjlinpepaaW2
namespace Go.Proofs.Ythefmfjlinpepaa
open Go.RowKit

theorem num_cases {t n : Int} (h : isNum t n = true) (ht : ¬ t = 2) : t = 3 := by
  unfold isNum at h; simp [ht] at h; exact h.1

/-- The ends of a walk with one box and one callee. -/
theorem end1 {w w1 : World} {o : Obj} (hb : Below (w.alloc o).heap.size (w.alloc o) w1) : Below w.heap.size w w1 :=
  ((Below.refl _ _).alloc (Nat.le_refl _) _).trans (hb.mono (by simp))

theorem size1 {w w1 : World} {o : Obj} (hb : Below (w.alloc o).heap.size (w.alloc o) w1) : w.heap.size < w1.heap.size := by
  have := hb.size; simp at this; omega

set_option maxHeartbeats 1000000 in
theorem Whole_any (t n : Int) (w : World) (h1 : -9223372036854775808 ≤ n) (h2 : n ≤ 9223372036854775807) :
    Calls Try.prog 29 #[AV t n] w fun e w' => e = .returned (.tuple #[.int .i64 (whN t n), .int .i64 (whE t n)]) ∧ Below w.heap.size w w' := by
  cases hi : isNum t n
  · have HN : Hid (whN t n = 0 ∧ whE t n = 10) := ⟨by simp [whN, hi], by simp [whE, hi]⟩
    go_enter Try.func29, Try.ntmps29
    go_wp2_with fail
    refine (Is_any _ _ _ h1 h2).mono ?_
    rintro e w1 ⟨rfl, hb⟩
    obtain ⟨hc, hf⟩ := bcell hb
    have hz := size1 hb
    go_wp2
    go_ret2
    exact ⟨by rw [HN.out.1, HN.out.2]; rfl, end1 hb⟩
  · by_cases ht : t = 2
    · subst ht
      have HN : Hid (whN 2 n = n ∧ whE 2 n = 0) := ⟨by simp [whN, hi], by simp [whE, hi]⟩
      go_enter Try.func29, Try.ntmps29
      go_wp2_with fail
      refine (Is_any _ _ _ h1 h2).mono ?_
      rintro e w1 ⟨rfl, hb⟩
      obtain ⟨hc, hf⟩ := bcell hb
      have hz := size1 hb
      go_wp2
      go_ret2
      exact ⟨by rw [HN.out.1, HN.out.2]; rfl, end1 hb⟩
    · obtain rfl := num_cases hi ht
      have HN : Hid (whN 3 n = (if whB (B n) then tr (B n) else 0) ∧ whE 3 n = (if whB (B n) then 0 else 12)) := by unfold whN whE; simp only [hi]; exact ⟨rfl, rfl⟩
      clear ht
      generalize hx : B n = x at HN
      have HX : Hid (B n = x) := hx
      clear hx
      cases hw : withinB x
      · have HB : Hid (whB x = false) := by show whB x = false; unfold whB; rw [hw]; rfl
        go_enter Try.func29, Try.ntmps29
        go_wp2_with fail
        refine (Is_any _ _ _ h1 h2).mono ?_
        rintro e w1 ⟨rfl, hb⟩
        obtain ⟨hc, hf⟩ := bcell hb
        have hz := size1 hb
        go_wp2_with fail
        refine (pointed_any _ _ _).mono ?_
        rintro e w2 ⟨rfl, hb2⟩
        rw [HX.out]
        go_wp2_with (first | (go_at_call 56; refine (within_any _ _).mono ?_; rintro e w' ⟨rfl, rfl⟩))
        go_ret2
        exact ⟨by rw [HN.out.1, HN.out.2, HB.out]; rfl, (end1 hb).trans (hb2.mono (by have := hz; omega))⟩
      · have HF : Hid ((FloatKind.f64.format.order x (Fm.floorW x) != some .eq) = !decide (Fm.val x = Fm.ival (tr x))) := (within_facts hw).2.2.2.1
        have hnn := within_not_nan hw
        have hcv := conv_i64 hw
        by_cases hd : Fm.val x = Fm.ival (tr x)
        · have HB : Hid (whB x = true) := by show whB x = true; unfold whB; rw [hw, decide_eq_true hd]; rfl
          have hq : (FloatKind.f64.format.order x (Fm.floorW x) != some .eq) = false := by rw [HF.out, decide_eq_true hd]; rfl
          clear hd HF
          go_enter Try.func29, Try.ntmps29
          go_wp2_with fail
          refine (Is_any _ _ _ h1 h2).mono ?_
          rintro e w1 ⟨rfl, hb⟩
          obtain ⟨hc, hf⟩ := bcell hb
          have hz := size1 hb
          go_wp2_with fail
          refine (pointed_any _ _ _).mono ?_
          rintro e w2 ⟨rfl, hb2⟩
          rw [HX.out]
          go_wp2_with (first | (go_at_call 56; refine (within_any _ _).mono ?_; rintro e w' ⟨rfl, rfl⟩) | (go_at_call 57; refine (Floor_any _ _ hnn).mono ?_; rintro e w' ⟨rfl, rfl⟩))
          go_ret2
          exact ⟨by rw [HN.out.1, HN.out.2, HB.out]; rfl, (end1 hb).trans (hb2.mono (by have := hz; omega))⟩
        · have HB : Hid (whB x = false) := by show whB x = false; unfold whB; rw [hw, decide_eq_false hd]; rfl
          have hq : (FloatKind.f64.format.order x (Fm.floorW x) != some .eq) = true := by rw [HF.out, decide_eq_false hd]; rfl
          clear hd HF
          go_enter Try.func29, Try.ntmps29
          go_wp2_with fail
          refine (Is_any _ _ _ h1 h2).mono ?_
          rintro e w1 ⟨rfl, hb⟩
          obtain ⟨hc, hf⟩ := bcell hb
          have hz := size1 hb
          go_wp2_with fail
          refine (pointed_any _ _ _).mono ?_
          rintro e w2 ⟨rfl, hb2⟩
          rw [HX.out]
          go_wp2_with (first | (go_at_call 56; refine (within_any _ _).mono ?_; rintro e w' ⟨rfl, rfl⟩) | (go_at_call 57; refine (Floor_any _ _ hnn).mono ?_; rintro e w' ⟨rfl, rfl⟩))
          go_ret2
          exact ⟨by rw [HN.out.1, HN.out.2, HB.out]; rfl, (end1 hb).trans (hb2.mono (by have := hz; omega))⟩
end Go.Proofs.Ythefmfjlinpepaa
