/- Numbers as ints and their negatives in the document's answer; keys in both. -/
import Derived.Test.YthefmfjlinpepaaW4
namespace Go.Proofs.Ythefmfjlinpepaa
open Go.RowKit

set_option maxHeartbeats 1000000 in
theorem RWhole_any (t n : Int) (w : World) :
    Calls Try.prog 70 #[AV t n] w fun e w' => e = .returned (.tuple #[.int .i64 (whN t n), .int .i64 (whE t n)]) ∧ Below w.heap.size w w' := by
  cases hi : isNum t n
  · have HN : Hid (whN t n = 0 ∧ whE t n = 10) := ⟨by simp [whN, hi], by simp [whE, hi]⟩
    go_enter Try.func70, Try.ntmps70
    go_wp2_with fail
    refine (RIs_any _ _ _).mono ?_
    rintro e w1 ⟨rfl, hb⟩
    obtain ⟨hc, hf⟩ := bcell hb
    have hz := size1 hb
    go_wp2
    go_ret2
    exact ⟨by rw [HN.out.1, HN.out.2]; rfl, end1 hb⟩
  · by_cases ht : t = 2
    · subst ht
      have HN : Hid (whN 2 n = n ∧ whE 2 n = 0) := ⟨by simp [whN, hi], by simp [whE, hi]⟩
      go_enter Try.func70, Try.ntmps70
      go_wp2_with fail
      refine (RIs_any _ _ _).mono ?_
      rintro e w1 ⟨rfl, hb⟩
      obtain ⟨hc, hf⟩ := bcell hb
      have hz := size1 hb
      go_wp2
      go_ret2
      exact ⟨by rw [HN.out.1, HN.out.2]; rfl, end1 hb⟩
    · obtain rfl := num_cases hi ht
      have HN : Hid (whN 3 n = (if whB (B n) then tr (B n) else 0) ∧ whE 3 n = (if whB (B n) then 0 else 12)) := by unfold whN whE; simp only [hi]; exact ⟨rfl, rfl⟩
      clear ht
      generalize hx : B n = x at HN
      have HX : Hid (B n = x) := hx
      clear hx
      cases h3 : (FloatKind.f64.format.order x 14114281232179134464 == some .gt || FloatKind.f64.format.order x 14114281232179134464 == some .eq)
      · have HB : Hid (whB x = false) := by show whB x = false; unfold whB withinB; rw [h3]; rfl
        go_enter Try.func70, Try.ntmps70
        go_wp2_with fail
        refine (RIs_any _ _ _).mono ?_
        rintro e w1 ⟨rfl, hb⟩
        obtain ⟨hc, hf⟩ := bcell hb
        have hz := size1 hb
        go_wp2_with fail
        refine (Real_any _ _ _).mono ?_
        rintro e w2 ⟨rfl, hb2⟩
        rw [HX.out]
        go_wp2
        go_ret2
        exact ⟨by rw [HN.out.1, HN.out.2, HB.out]; rfl, (end1 hb).trans (hb2.mono (by have := hz; omega))⟩
      · cases h4 : (FloatKind.f64.format.order x 4890909195324358656 == some .lt)
        · have HB : Hid (whB x = false) := by show whB x = false; unfold whB withinB; rw [h3, h4]; rfl
          go_enter Try.func70, Try.ntmps70
          go_wp2_with fail
          refine (RIs_any _ _ _).mono ?_
          rintro e w1 ⟨rfl, hb⟩
          obtain ⟨hc, hf⟩ := bcell hb
          have hz := size1 hb
          go_wp2_with fail
          refine (Real_any _ _ _).mono ?_
          rintro e w2 ⟨rfl, hb2⟩
          rw [HX.out]
          go_wp2
          go_ret2
          exact ⟨by rw [HN.out.1, HN.out.2, HB.out]; rfl, (end1 hb).trans (hb2.mono (by have := hz; omega))⟩
        · have hw : withinB x = true := by unfold withinB; rw [h3, h4]; rfl
          have HF : Hid ((FloatKind.f64.format.order (Fm.ofInt (tr x)) x == some .eq) = decide (Fm.val x = Fm.ival (tr x))) := (within_facts hw).2.2.2.2
          have hcv := conv_i64 hw
          have HB : Hid (whB x = decide (Fm.val x = Fm.ival (tr x))) := by show whB x = _; unfold whB; rw [hw]; rfl
          clear hw
          generalize hD : decide (Fm.val x = Fm.ival (tr x)) = D at HF HB
          clear hD
          have hq : (FloatKind.f64.format.order (floatOfInt .f64 (tr x)) x == some .eq) = D := HF.out
          clear HF
          cases D
          · go_enter Try.func70, Try.ntmps70
            go_wp2_with fail
            refine (RIs_any _ _ _).mono ?_
            rintro e w1 ⟨rfl, hb⟩
            obtain ⟨hc, hf⟩ := bcell hb
            have hz := size1 hb
            go_wp2_with fail
            refine (Real_any _ _ _).mono ?_
            rintro e w2 ⟨rfl, hb2⟩
            rw [HX.out]
            go_wp2
            go_ret2
            exact ⟨by rw [HN.out.1, HN.out.2, HB.out]; rfl, (end1 hb).trans (hb2.mono (by have := hz; omega))⟩
          · go_enter Try.func70, Try.ntmps70
            go_wp2_with fail
            refine (RIs_any _ _ _).mono ?_
            rintro e w1 ⟨rfl, hb⟩
            obtain ⟨hc, hf⟩ := bcell hb
            have hz := size1 hb
            go_wp2_with fail
            refine (Real_any _ _ _).mono ?_
            rintro e w2 ⟨rfl, hb2⟩
            rw [HX.out]
            go_wp2
            go_ret2
            exact ⟨by rw [HN.out.1, HN.out.2, HB.out]; rfl, (end1 hb).trans (hb2.mono (by have := hz; omega))⟩

/-- A value as a key. -/
def kyT (t n : Int) : Int := if whE t n = 0 then 2 else t
def kyN (t n : Int) : Int := if whE t n = 0 then whN t n else n

set_option maxHeartbeats 1000000 in
theorem Key_any (t n : Int) (w : World) (h1 : -9223372036854775808 ≤ n) (h2 : n ≤ 9223372036854775807) :
    Calls Try.prog 44 #[AV t n] w fun e w' => e = .returned (AV (kyT t n) (kyN t n)) ∧ Below w.heap.size w w' := by
  by_cases he : whE t n = 0
  · have HN : Hid (kyT t n = 2 ∧ kyN t n = whN t n) := ⟨by simp [kyT, he], by simp [kyN, he]⟩
    have hne : (whE t n != 0) = false := by simp [he]
    clear he
    go_enter Try.func44, Try.ntmps44
    go_wp2_with fail
    refine (Whole_any _ _ _ h1 h2).mono ?_
    rintro e w1 ⟨rfl, hb⟩
    obtain ⟨hc, hf⟩ := bcell hb
    have hz := size2 hb
    go_wp2_with fail
    refine (Int_any _ _).mono ?_
    rintro e w2 ⟨rfl, hb2⟩
    obtain ⟨hc2, hf2⟩ := bcell hb2
    have hz2 := hb2.size
    go_wp2
    refine bodyPost_ret (v := AV 2 (whN t n)) (by simp [results, Try.results44, go_sem, hc, hc2, hz]) rfl ⟨by rw [HN.out.1, HN.out.2], ?_⟩
    exact (((end2 hb).trans (hb2.mono (by omega))).setCell (by simp) _).setCell (by simp) _
  · have HN : Hid (kyT t n = t ∧ kyN t n = n) := ⟨by simp [kyT, he], by simp [kyN, he]⟩
    have hne : (whE t n != 0) = true := by simp [he]
    clear he
    go_enter Try.func44, Try.ntmps44
    go_wp2_with fail
    refine (Whole_any _ _ _ h1 h2).mono ?_
    rintro e w1 ⟨rfl, hb⟩
    obtain ⟨hc, hf⟩ := bcell hb
    have hz := size2 hb
    go_wp2
    refine bodyPost_ret (v := AV t n) (by simp [results, Try.results44, go_sem, hc]) rfl ⟨by rw [HN.out.1, HN.out.2], ?_⟩
    exact ((end2 hb).setCell (by simp) _).setCell (by simp) _

set_option maxHeartbeats 1000000 in
theorem RKey_any (t n : Int) (w : World) :
    Calls Try.prog 41 #[AV t n] w fun e w' => e = .returned (AV (kyT t n) (kyN t n)) ∧ Below w.heap.size w w' := by
  by_cases he : whE t n = 0
  · have HN : Hid (kyT t n = 2 ∧ kyN t n = whN t n) := ⟨by simp [kyT, he], by simp [kyN, he]⟩
    have hne : (whE t n == 0) = true := by simp [he]
    clear he
    go_enter Try.func41, Try.ntmps41
    go_wp2_with fail
    refine (RWhole_any _ _ _).mono ?_
    rintro e w1 ⟨rfl, hb⟩
    obtain ⟨hc, hf⟩ := bcell hb
    have hz := size2 hb
    go_wp2_with fail
    refine (RInt_any _ _).mono ?_
    rintro e w2 ⟨rfl, hb2⟩
    obtain ⟨hc2, hf2⟩ := bcell hb2
    have hz2 := hb2.size
    go_wp2
    refine bodyPost_ret (v := AV 2 (whN t n)) (by simp [results, Try.results41, go_sem, hc, hc2, hz]) rfl ⟨by rw [HN.out.1, HN.out.2], ?_⟩
    exact (((end2 hb).trans (hb2.mono (by omega))).setCell (by simp) _).setCell (by simp) _
  · have HN : Hid (kyT t n = t ∧ kyN t n = n) := ⟨by simp [kyT, he], by simp [kyN, he]⟩
    have hne : (whE t n == 0) = false := by simp [he]
    clear he
    go_enter Try.func41, Try.ntmps41
    go_wp2_with fail
    refine (RWhole_any _ _ _).mono ?_
    rintro e w1 ⟨rfl, hb⟩
    obtain ⟨hc, hf⟩ := bcell hb
    have hz := size2 hb
    go_wp2
    refine bodyPost_ret (v := AV t n) (by simp [results, Try.results41, go_sem, hc]) rfl ⟨by rw [HN.out.1, HN.out.2], ?_⟩
    exact ((end2 hb).setCell (by simp) _).setCell (by simp) _
end Go.Proofs.Ythefmfjlinpepaa
