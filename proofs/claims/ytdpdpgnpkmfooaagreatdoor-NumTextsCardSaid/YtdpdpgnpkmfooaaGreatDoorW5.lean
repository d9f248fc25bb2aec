/- Numbers as ints and their negatives in the document's answer; keys in both. -/
import Derived.Test.YtdpdpgnpkmfooaaGreatDoorW4
namespace Go.Proofs.YtdpdpgnpkmfooaaGreatDoor
open Go.RowKit

set_option maxHeartbeats 1000000 in
theorem RNeg_any (t n : Int) (w : World) :
    Calls Tryz.prog 29 #[AV t n] w fun e w' => e = .returned (.tuple #[AV (ngT t n) (ngN t n), .int .i64 (ngE t n)]) ∧ Below w.heap.size w w' := by
  cases hi : isNum t n
  · have HN : Hid (ngT t n = 0 ∧ ngN t n = 0 ∧ ngE t n = 10) := ⟨by simp [ngT, hi], by simp [ngN, hi], by simp [ngE, hi]⟩
    go_enter Tryz.func29, Tryz.ntmps29
    go_wp2_with fail
    refine (RIs_any _ _ _).mono ?_
    rintro e w1 ⟨rfl, hb⟩
    obtain ⟨hc, hf⟩ := bcell hb
    have hz := size2 hb
    go_wp2
    refine bodyPost_ret (v := .tuple #[AV 0 0, .int .i64 10]) (by simp [results, Tryz.results29, go_sem, hc]) rfl ⟨by rw [HN.out.1, HN.out.2.1, HN.out.2.2], ?_⟩
    exact ((end2 hb).setCell (by simp) _).setCell (by simp) _
  · by_cases ht : t = 2
    · subst ht
      have HN : Hid (ngT 2 n = 2 ∧ ngN 2 n = wrap64 (-n) ∧ ngE 2 n = 0) := ⟨by simp [ngT, hi], by simp [ngN, hi], by simp [ngE, hi]⟩
      go_enter Tryz.func29, Tryz.ntmps29
      go_wp2_with fail
      refine (RIs_any _ _ _).mono ?_
      rintro e w1 ⟨rfl, hb⟩
      obtain ⟨hc, hf⟩ := bcell hb
      have hz := size2 hb
      go_wp2_with fail
      refine (RInt_any _ _).mono ?_
      rintro e w2 ⟨rfl, hb2⟩
      obtain ⟨hc2, hf2⟩ := bcell hb2
      have hz2 := hb2.size
      go_wp2
      refine bodyPost_ret (v := .tuple #[AV 2 (wrap64 (-n)), .int .i64 0]) (by simp [results, Tryz.results29, go_sem, hc, hc2, hz]) rfl ⟨by rw [HN.out.1, HN.out.2.1, HN.out.2.2], ?_⟩
      exact (((end2 hb).trans (hb2.mono (by omega))).setCell (by simp) _).setCell (by simp) _
    · obtain rfl := num_cases hi ht
      clear ht
      have hneg : ∀ w, (Op.unary .neg (.float .f64 (B n))).run Tryz.prog w = .ok (.float .f64 (Fm.neg (B n))) w := fun _ => rfl
      have HN : Hid (ngT 3 n = 3 ∧ ngN 3 n = flt (Fm.neg (B n)) ∧ ngE 3 n = 0) := ⟨by simp [ngT, hi], by simp [ngN, hi], by simp [ngE, hi]⟩
      go_enter Tryz.func29, Tryz.ntmps29
      go_wp2_with fail
      refine (RIs_any _ _ _).mono ?_
      rintro e w1 ⟨rfl, hb⟩
      obtain ⟨hc, hf⟩ := bcell hb
      have hz := size2 hb
      go_wp2_with fail
      refine (Real_any _ _ _).mono ?_
      rintro e w2 ⟨rfl, hb2⟩
      obtain ⟨hc2, hf2⟩ := bcell hb2
      have hz2 := hb2.size
      have hz' : w.heap.size + 1 < w2.heap.size := by omega
      go_wp2_with fail
      refine (RFloat_any (Fm.neg (B n)) _).mono ?_
      rintro e w3 ⟨rfl, hb3⟩
      obtain ⟨hc3, hf3⟩ := bcell hb3
      have hz3 := hb3.size
      go_wp2
      refine bodyPost_ret (v := .tuple #[AV 3 (flt (Fm.neg (B n))), .int .i64 0]) (by simp [results, Tryz.results29, go_sem, hc, hc2, hc3, hz, hz']) rfl ⟨by rw [HN.out.1, HN.out.2.1, HN.out.2.2], ?_⟩
      exact ((((end2 hb).trans (hb2.mono (by omega))).trans (hb3.mono (by omega))).setCell (by simp) _).setCell (by simp) _

set_option maxHeartbeats 1000000 in
theorem RWhole_any (t n : Int) (w : World) :
    Calls Tryz.prog 22 #[AV t n] w fun e w' => e = .returned (.tuple #[.int .i64 (whN t n), .int .i64 (whE t n)]) ∧ Below w.heap.size w w' := by
  cases hi : isNum t n
  · have HN : Hid (whN t n = 0 ∧ whE t n = 10) := ⟨by simp [whN, hi], by simp [whE, hi]⟩
    go_enter Tryz.func22, Tryz.ntmps22
    go_wp2_with fail
    refine (RIs_any _ _ _).mono ?_
    rintro e w1 ⟨rfl, hb⟩
    obtain ⟨hc, hf⟩ := bcell hb
    have hz := size1 hb
    go_wp2
    go_ret2
    exact ⟨by rw [HN.out.1, HN.out.2]; rfl, end1 hb⟩
  · by_cases ht : t = 2
    · subst ht
      have HN : Hid (whN 2 n = n ∧ whE 2 n = 0) := ⟨by simp [whN, hi], by simp [whE, hi]⟩
      go_enter Tryz.func22, Tryz.ntmps22
      go_wp2_with fail
      refine (RIs_any _ _ _).mono ?_
      rintro e w1 ⟨rfl, hb⟩
      obtain ⟨hc, hf⟩ := bcell hb
      have hz := size1 hb
      go_wp2
      go_ret2
      exact ⟨by rw [HN.out.1, HN.out.2]; rfl, end1 hb⟩
    · obtain rfl := num_cases hi ht
      have HN : Hid (whN 3 n = (if whB (B n) then tr (B n) else 0) ∧ whE 3 n = (if whB (B n) then 0 else 12)) := by unfold whN whE; simp only [hi]; exact ⟨rfl, rfl⟩
      clear ht
      generalize hx : B n = x at HN
      have HX : Hid (B n = x) := hx
      clear hx
      cases h3 : (FloatKind.f64.format.order x 14114281232179134464 == some .gt || FloatKind.f64.format.order x 14114281232179134464 == some .eq)
      · have HB : Hid (whB x = false) := by show whB x = false; unfold whB withinB; rw [h3]; rfl
        go_enter Tryz.func22, Tryz.ntmps22
        go_wp2_with fail
        refine (RIs_any _ _ _).mono ?_
        rintro e w1 ⟨rfl, hb⟩
        obtain ⟨hc, hf⟩ := bcell hb
        have hz := size1 hb
        go_wp2_with fail
        refine (Real_any _ _ _).mono ?_
        rintro e w2 ⟨rfl, hb2⟩
        rw [HX.out]
        go_wp2
        go_ret2
        exact ⟨by rw [HN.out.1, HN.out.2, HB.out]; rfl, (end1 hb).trans (hb2.mono (by have := hz; omega))⟩
      · cases h4 : (FloatKind.f64.format.order x 4890909195324358656 == some .lt)
        · have HB : Hid (whB x = false) := by show whB x = false; unfold whB withinB; rw [h3, h4]; rfl
          go_enter Tryz.func22, Tryz.ntmps22
          go_wp2_with fail
          refine (RIs_any _ _ _).mono ?_
          rintro e w1 ⟨rfl, hb⟩
          obtain ⟨hc, hf⟩ := bcell hb
          have hz := size1 hb
          go_wp2_with fail
          refine (Real_any _ _ _).mono ?_
          rintro e w2 ⟨rfl, hb2⟩
          rw [HX.out]
          go_wp2
          go_ret2
          exact ⟨by rw [HN.out.1, HN.out.2, HB.out]; rfl, (end1 hb).trans (hb2.mono (by have := hz; omega))⟩
        · have hw : withinB x = true := by unfold withinB; rw [h3, h4]; rfl
          have HF : Hid ((FloatKind.f64.format.order (Fm.ofInt (tr x)) x == some .eq) = decide (Fm.val x = Fm.ival (tr x))) := (within_facts hw).2.2.2.2
          have hcv := conv_i64 hw
          have HB : Hid (whB x = decide (Fm.val x = Fm.ival (tr x))) := by show whB x = _; unfold whB; rw [hw]; rfl
          clear hw
          generalize hD : decide (Fm.val x = Fm.ival (tr x)) = D at HF HB
          clear hD
          have hq : (FloatKind.f64.format.order (floatOfInt .f64 (tr x)) x == some .eq) = D := HF.out
          clear HF
          cases D
          · go_enter Tryz.func22, Tryz.ntmps22
            go_wp2_with fail
            refine (RIs_any _ _ _).mono ?_
            rintro e w1 ⟨rfl, hb⟩
            obtain ⟨hc, hf⟩ := bcell hb
            have hz := size1 hb
            go_wp2_with fail
            refine (Real_any _ _ _).mono ?_
            rintro e w2 ⟨rfl, hb2⟩
            rw [HX.out]
            go_wp2
            go_ret2
            exact ⟨by rw [HN.out.1, HN.out.2, HB.out]; rfl, (end1 hb).trans (hb2.mono (by have := hz; omega))⟩
          · go_enter Tryz.func22, Tryz.ntmps22
            go_wp2_with fail
            refine (RIs_any _ _ _).mono ?_
            rintro e w1 ⟨rfl, hb⟩
            obtain ⟨hc, hf⟩ := bcell hb
            have hz := size1 hb
            go_wp2_with fail
            refine (Real_any _ _ _).mono ?_
            rintro e w2 ⟨rfl, hb2⟩
            rw [HX.out]
            go_wp2
            go_ret2
            exact ⟨by rw [HN.out.1, HN.out.2, HB.out]; rfl, (end1 hb).trans (hb2.mono (by have := hz; omega))⟩

/-- A value as a key. -/
def kyT (t n : Int) : Int := if whE t n = 0 then 2 else t
def kyN (t n : Int) : Int := if whE t n = 0 then whN t n else n

set_option maxHeartbeats 1000000 in
theorem Key_any (t n : Int) (w : World) (h1 : -9223372036854775808 ≤ n) (h2 : n ≤ 9223372036854775807) :
    Calls Tryz.prog 30 #[AV t n] w fun e w' => e = .returned (AV (kyT t n) (kyN t n)) ∧ Below w.heap.size w w' := by
  by_cases he : whE t n = 0
  · have HN : Hid (kyT t n = 2 ∧ kyN t n = whN t n) := ⟨by simp [kyT, he], by simp [kyN, he]⟩
    have hne : (whE t n != 0) = false := by simp [he]
    clear he
    go_enter Tryz.func30, Tryz.ntmps30
    go_wp2_with fail
    refine (Whole_any _ _ _ h1 h2).mono ?_
    rintro e w1 ⟨rfl, hb⟩
    obtain ⟨hc, hf⟩ := bcell hb
    have hz := size2 hb
    go_wp2_with fail
    refine (Int_any _ _).mono ?_
    rintro e w2 ⟨rfl, hb2⟩
    obtain ⟨hc2, hf2⟩ := bcell hb2
    have hz2 := hb2.size
    go_wp2
    refine bodyPost_ret (v := AV 2 (whN t n)) (by simp [results, Tryz.results30, go_sem, hc, hc2, hz]) rfl ⟨by rw [HN.out.1, HN.out.2], ?_⟩
    exact (((end2 hb).trans (hb2.mono (by omega))).setCell (by simp) _).setCell (by simp) _
  · have HN : Hid (kyT t n = t ∧ kyN t n = n) := ⟨by simp [kyT, he], by simp [kyN, he]⟩
    have hne : (whE t n != 0) = true := by simp [he]
    clear he
    go_enter Tryz.func30, Tryz.ntmps30
    go_wp2_with fail
    refine (Whole_any _ _ _ h1 h2).mono ?_
    rintro e w1 ⟨rfl, hb⟩
    obtain ⟨hc, hf⟩ := bcell hb
    have hz := size2 hb
    go_wp2
    refine bodyPost_ret (v := AV t n) (by simp [results, Tryz.results30, go_sem, hc]) rfl ⟨by rw [HN.out.1, HN.out.2], ?_⟩
    exact ((end2 hb).setCell (by simp) _).setCell (by simp) _

set_option maxHeartbeats 1000000 in
theorem RKey_any (t n : Int) (w : World) :
    Calls Tryz.prog 31 #[AV t n] w fun e w' => e = .returned (AV (kyT t n) (kyN t n)) ∧ Below w.heap.size w w' := by
  by_cases he : whE t n = 0
  · have HN : Hid (kyT t n = 2 ∧ kyN t n = whN t n) := ⟨by simp [kyT, he], by simp [kyN, he]⟩
    have hne : (whE t n == 0) = true := by simp [he]
    clear he
    go_enter Tryz.func31, Tryz.ntmps31
    go_wp2_with fail
    refine (RWhole_any _ _ _).mono ?_
    rintro e w1 ⟨rfl, hb⟩
    obtain ⟨hc, hf⟩ := bcell hb
    have hz := size2 hb
    go_wp2_with fail
    refine (RInt_any _ _).mono ?_
    rintro e w2 ⟨rfl, hb2⟩
    obtain ⟨hc2, hf2⟩ := bcell hb2
    have hz2 := hb2.size
    go_wp2
    refine bodyPost_ret (v := AV 2 (whN t n)) (by simp [results, Tryz.results31, go_sem, hc, hc2, hz]) rfl ⟨by rw [HN.out.1, HN.out.2], ?_⟩
    exact (((end2 hb).trans (hb2.mono (by omega))).setCell (by simp) _).setCell (by simp) _
  · have HN : Hid (kyT t n = t ∧ kyN t n = n) := ⟨by simp [kyT, he], by simp [kyN, he]⟩
    have hne : (whE t n == 0) = false := by simp [he]
    clear he
    go_enter Tryz.func31, Tryz.ntmps31
    go_wp2_with fail
    refine (RWhole_any _ _ _).mono ?_
    rintro e w1 ⟨rfl, hb⟩
    obtain ⟨hc, hf⟩ := bcell hb
    have hz := size2 hb
    go_wp2
    refine bodyPost_ret (v := AV t n) (by simp [results, Tryz.results31, go_sem, hc]) rfl ⟨by rw [HN.out.1, HN.out.2], ?_⟩
    exact ((end2 hb).setCell (by simp) _).setCell (by simp) _
end Go.Proofs.YtdpdpgnpkmfooaaGreatDoor
