/- How two numbers stand to each other, whole, in the program and in the document's answer. -/
import Derived.Test.YtdpdpgnpkmfooaaGreatDoorW6
import Derived.Deep.RegionWith
namespace Go.Proofs.YtdpdpgnpkmfooaaGreatDoor
open Go.RowKit

/-- A number's scaled value. -/
def vv (t n : Int) : Int := if t = 2 then Fm.ival n else Fm.val (B n)

theorem ge_f {x y : Nat} (hx : Fm.nanB x = false) (hy : Fm.nanB y = false) : (FloatKind.f64.format.order x y == some .gt || FloatKind.f64.format.order x y == some .eq) = decide (Fm.val y ≤ Fm.val x) := Fm.ge_iff hx hy

theorem wrap_cmp (a b : Int) : wrap64 (-(Fm.cmpV a b)) = Fm.cmpV b a := by
  rw [Fm.cmpV_neg a b]
  rcases Fm.cmpV_cases a b with h | h | h <;> rw [h.2] <;> unfold wrap64 <;> omega

set_option maxHeartbeats 1000000 in
theorem against_any (n : Int) (x : Nat) (w : World) (hx : Fm.nanB x = false) (h1 : -9223372036854775808 ≤ n) (h2 : n ≤ 9223372036854775807) :
    Calls Tryz.prog 52 #[.int .i64 n, .float .f64 x] w fun e w' => e = .returned (.int .i64 (Fm.cmpV (Fm.ival n) (Fm.val x))) ∧ w' = w := by
  have q1 : (FloatKind.f64.format.order x 4890909195324358656 == some .gt || FloatKind.f64.format.order x 4890909195324358656 == some .eq) = decide (Fm.ival 9223372036854775808 ≤ Fm.val x) := by
    have := ge_f hx Fm.nan_hi; rw [Fm.val_hi] at this; exact this
  have q2 : (FloatKind.f64.format.order x 14114281232179134464 == some .lt) = decide (Fm.val x < Fm.ival (-9223372036854775808)) := by
    have := lt_f hx Fm.nan_lo; rw [Fm.val_lo] at this; exact this
  have b1 : Fm.ival n < Fm.ival 9223372036854775808 := Fm.ival_lt.2 (by omega)
  have b2 : Fm.ival (-9223372036854775808) ≤ Fm.ival n := Fm.ival_le.2 h1
  by_cases c1 : Fm.ival 9223372036854775808 ≤ Fm.val x
  · rw [decide_eq_true c1] at q1
    have HV : Hid (Fm.cmpV (Fm.ival n) (Fm.val x) = -1) := Fm.cmpV_lt (by omega)
    clear q2 b1 b2 c1 hx
    go_enter Tryz.func52, Tryz.ntmps52
    go_wp2
    go_ret
    exact ⟨by rw [HV.out]; rfl, rfl⟩
  · rw [decide_eq_false c1] at q1
    by_cases c2 : Fm.val x < Fm.ival (-9223372036854775808)
    · rw [decide_eq_true c2] at q2
      have HV : Hid (Fm.cmpV (Fm.ival n) (Fm.val x) = 1) := Fm.cmpV_gt (by omega)
      clear b1 b2 c1 c2 hx
      go_enter Tryz.func52, Tryz.ntmps52
      go_wp2
      go_ret
      exact ⟨by rw [HV.out]; rfl, rfl⟩
    · rw [decide_eq_false c2] at q2
      have hw : Fm.within x := ⟨hx, by omega, by omega⟩
      have hcv := conv_i64 ((withinB_iff x).2 hw)
      obtain ⟨t, d, f1, f2, f3, f4, f5, f6, f7, f8, f9, f10, f11, f12, f13, f14, f15, f16, f17⟩ := Fm.within_parts hw
      have htr : tr x = t := by unfold tr; rw [f1]; rfl
      rw [htr] at hcv
      clear b1 b2 c1 c2 f8 f9 f10 f11 f12 f13 f16 htr hw
      rcases Int.lt_trichotomy n t with h | h | h
      · have HV : Hid (Fm.cmpV (Fm.ival n) (Fm.val x) = -1) := Fm.cmpV_lt (by have := Fm.ival_le.2 (show n ≤ t - 1 by omega); omega)
        clear f1 f2 f3 f4 f5 f6 f7 f14 f15 f17 hx
        go_enter Tryz.func52, Tryz.ntmps52
        go_wp2
        go_ret
        exact ⟨by rw [HV.out]; rfl, rfl⟩
      · subst h
        obtain ⟨r, r1, r2, r3, r4⟩ := Fm.sub_sign f17 (Fm.read_of_val f7 h1 (by omega) f6)
        have HV : Hid (Fm.cmpV (Fm.ival n) (Fm.val x) = wrap64 (-(Fm.cmpV (Fm.val r) 0))) := by
          show _ = _
          rw [r4, f6, wrap_cmp]
        have hsub : ∀ w, (binOp .sub 24 (.float .f64 x) (.float .f64 (floatOfInt .f64 n))).run Tryz.prog w = .ok (.float .f64 r) w := fun w => run_float_arith w .sub 24 .f64 x _ r r1
        clear f1 f2 f3 f4 f5 f6 f7 f14 f15 f17 hx r1 r3 r4
        go_enter Tryz.func52, Tryz.ntmps52
        go_wp2_with (first | (go_at_call 80; refine (sign_any _ _ r2).mono ?_; rintro e w' ⟨rfl, rfl⟩))
        go_ret
        exact ⟨by rw [HV.out]; rfl, rfl⟩
      · have HV : Hid (Fm.cmpV (Fm.ival n) (Fm.val x) = 1) := Fm.cmpV_gt (by have := Fm.ival_le.2 (show t + 1 ≤ n by omega); omega)
        clear f1 f2 f3 f4 f5 f6 f7 f14 f15 f17 hx
        go_enter Tryz.func52, Tryz.ntmps52
        go_wp2
        go_ret
        exact ⟨by rw [HV.out]; rfl, rfl⟩

theorem plc_cases {t n : Int} (h : plc t n = true) : t = 2 ∨ (t = 3 ∧ Fm.nanB (B n) = false) := by
  unfold plc isNum at h
  by_cases ht : t = 2
  · exact Or.inl ht
  · right; simp [ht] at h; exact ⟨h.1.1, h.2⟩

/-- The answer of Cmp. -/
def cpN (s m t n : Int) : Int := if plc s m && plc t n then Fm.cmpV (vv s m) (vv t n) else 0
def cpB (s m t n : Int) : Bool := plc s m && plc t n

theorem chain {w a b : World} (h : Hid (Below w.heap.size w a)) (k : Below a.heap.size a b) : Hid (Below w.heap.size w b) := h.out.trans (k.mono h.out.size)
theorem chain_drew {w a b : World} (h : Hid (Below w.heap.size w a)) (k : Below a.drew.heap.size a.drew b) : Hid (Below w.heap.size w b) := h.out.drew.trans (k.mono h.out.size)

/-- What lies in the two boxes of a function with two values. -/
theorem box2 {w w1 : World} {s m t n : Int} (hb : Below ((w.alloc (.cells #[.int .i64 s, .int .i64 m] 23)).alloc (.cells #[.int .i64 t, .int .i64 n] 23)).heap.size ((w.alloc (.cells #[.int .i64 s, .int .i64 m] 23)).alloc (.cells #[.int .i64 t, .int .i64 n] 23)) w1) :
    w1.cell? ⟨w.heap.size, 0, none⟩ = some (.int .i64 s) ∧ w1.cell? ⟨w.heap.size, 1, none⟩ = some (.int .i64 m) ∧ w1.cell? ⟨w.heap.size + 1, 0, none⟩ = some (.int .i64 t) ∧ w1.cell? ⟨w.heap.size + 1, 1, none⟩ = some (.int .i64 n) := by
  refine ⟨cell_later hb ?_, cell_later hb ?_, cell_later hb ?_, cell_later hb ?_⟩ <;> simp [go_sem]

set_option maxHeartbeats 2000000 in
theorem Cmp_any (s m t n : Int) (w : World) (g1 : -9223372036854775808 ≤ m) (g2 : m ≤ 9223372036854775807) (h1 : -9223372036854775808 ≤ n) (h2 : n ≤ 9223372036854775807) :
    Calls Tryz.prog 32 #[AV s m, AV t n] w fun e w' => e = .returned (.tuple #[.int .i64 (cpN s m t n), .bool (cpB s m t n)]) ∧ Below w.heap.size w w' := by
  cases p1 : plc s m
  · have HP : Hid (cpN s m t n = 0 ∧ cpB s m t n = false) := ⟨by simp [cpN, p1], by simp [cpB, p1]⟩
    go_enter Tryz.func32, Tryz.ntmps32
    go_wp2_with fail
    refine (place_any _ _ _ g1 g2).mono ?_
    rintro e w1 ⟨rfl, hb⟩
    go_wp2
    go_ret2
    exact ⟨by rw [HP.out.1, HP.out.2]; rfl, end2 hb⟩
  · cases p2 : plc t n
    · have HP : Hid (cpN s m t n = 0 ∧ cpB s m t n = false) := ⟨by simp [cpN, p2], by simp [cpB, p2]⟩
      go_enter Tryz.func32, Tryz.ntmps32
      go_wp2_with fail
      refine (place_any _ _ _ g1 g2).mono ?_
      rintro e w1 ⟨rfl, hb⟩
      obtain ⟨hc, hf⟩ := bcell hb
      have hz := size2 hb
      go_wp2_with fail
      refine (place_any _ _ _ h1 h2).mono ?_
      rintro e w2 ⟨rfl, hb2⟩
      go_wp2
      go_ret2
      exact ⟨by rw [HP.out.1, HP.out.2]; rfl, (end2 hb).trans (hb2.mono (by omega))⟩
    · have HP : Hid (cpN s m t n = Fm.cmpV (vv s m) (vv t n) ∧ cpB s m t n = true) := ⟨by simp [cpN, p1, p2], by simp [cpB, p1, p2]⟩
      rcases plc_cases p1 with rfl | ⟨rfl, x1⟩ <;> rcases plc_cases p2 with rfl | ⟨rfl, x2⟩
      · have HQ : Hid (Fm.cmpV (vv 2 m) (vv 2 n) = Fm.cmpV m n) := by
          show _ = _
          simp only [vv, if_true]
          rcases Fm.cmpV_cases m n with ⟨h, e⟩ | ⟨h, e⟩ | ⟨h, e⟩
          · rw [e, Fm.cmpV_lt (Fm.ival_lt.2 h)]
          · rw [e, h, Fm.cmpV_self]
          · rw [e, Fm.cmpV_gt (Fm.ival_lt.2 h)]
        go_enter Tryz.func32, Tryz.ntmps32
        go_wp2_with fail
        refine (place_any _ _ _ g1 g2).mono ?_
        rintro e w1 ⟨rfl, hb⟩
        obtain ⟨hc, hf⟩ := bcell hb
        have hz := size2 hb
        have hz0 : w.heap.size < w1.heap.size := by omega
        go_wp2_with fail
        refine (place_any _ _ _ h1 h2).mono ?_
        rintro e w2 ⟨rfl, hb2⟩
        obtain ⟨hc2, hf2⟩ := bcell hb2
        have hz2 := hb2.size
        have hz' : w.heap.size + 1 < w2.heap.size := by omega
        have hz0' : w.heap.size < w2.heap.size := by omega
        go_wp2_with (first | (go_at_call 49; refine (cmpI_any _ _ _).mono ?_; rintro e w' ⟨rfl, rfl⟩))
        go_ret2
        exact ⟨by rw [HP.out.1, HP.out.2, HQ.out]; rfl, (end2 hb).trans (hb2.mono (by omega))⟩
      · have HQ : Hid (Fm.cmpV (vv 2 m) (vv 3 n) = Fm.cmpV (Fm.ival m) (Fm.val (B n))) := rfl
        go_enter Tryz.func32, Tryz.ntmps32
        go_wp2_with fail
        refine (place_any _ _ _ g1 g2).mono ?_
        rintro e w1 ⟨rfl, hb⟩
        obtain ⟨hc, hf⟩ := bcell hb
        have hz := size2 hb
        have hz0 : w.heap.size < w1.heap.size := by omega
        go_wp2_with fail
        refine (place_any _ _ _ h1 h2).mono ?_
        rintro e w2 ⟨rfl, hb2⟩
        obtain ⟨k1, k2, k3, k4⟩ := box2 hb
        have c1 := cell_later hb2 k1
        have c2 := cell_later hb2 k2
        have c3 := cell_later hb2 k3
        have c4 := cell_later hb2 k4
        have HB : Hid (Below w.heap.size w w2) := (end2 hb).trans (hb2.mono (by omega))
        clear hc hf hz hz0 k1 k2 k3 k4 hb hb2
        go_wp2_with fail
        go_region_with (first | (go_at_call 38; refine (pointed_any _ _ _).mono ?_; rintro e w3 ⟨rfl, hb3⟩; have c1 := cell_later hb3 (by exact c1); have c2 := cell_later hb3 (by exact c2); have c3 := cell_later hb3 (by exact c3); have c4 := cell_later hb3 (by exact c4); have HB := (by first | exact chain HB hb3 | exact chain_drew HB hb3 : Hid (Below w.heap.size w w3)); clear hb3) | (go_at_call 50; refine (mixed_any _ _ _ x2 g1 g2).mono ?_; rintro e w' ⟨rfl, rfl⟩))
        all_goals go_wp2
        all_goals go_ret2
        all_goals exact ⟨by rw [HP.out.1, HP.out.2, HQ.out]; rfl, HB.out⟩
      · have HQ : Hid (Fm.cmpV (vv 3 m) (vv 2 n) = wrap64 (-(Fm.cmpV (Fm.ival n) (Fm.val (B m))))) := by show _ = _; rw [wrap_cmp]; rfl
        go_enter Tryz.func32, Tryz.ntmps32
        go_wp2_with fail
        refine (place_any _ _ _ g1 g2).mono ?_
        rintro e w1 ⟨rfl, hb⟩
        obtain ⟨hc, hf⟩ := bcell hb
        have hz := size2 hb
        have hz0 : w.heap.size < w1.heap.size := by omega
        go_wp2_with fail
        refine (place_any _ _ _ h1 h2).mono ?_
        rintro e w2 ⟨rfl, hb2⟩
        obtain ⟨k1, k2, k3, k4⟩ := box2 hb
        have c1 := cell_later hb2 k1
        have c2 := cell_later hb2 k2
        have c3 := cell_later hb2 k3
        have c4 := cell_later hb2 k4
        have HB : Hid (Below w.heap.size w w2) := (end2 hb).trans (hb2.mono (by omega))
        clear hc hf hz hz0 k1 k2 k3 k4 hb hb2
        go_wp2_with fail
        go_region_with (first | (go_at_call 38; refine (pointed_any _ _ _).mono ?_; rintro e w3 ⟨rfl, hb3⟩; have c1 := cell_later hb3 (by exact c1); have c2 := cell_later hb3 (by exact c2); have c3 := cell_later hb3 (by exact c3); have c4 := cell_later hb3 (by exact c4); have HB := (by first | exact chain HB hb3 | exact chain_drew HB hb3 : Hid (Below w.heap.size w w3)); clear hb3) | (go_at_call 50; refine (mixed_any _ _ _ x1 h1 h2).mono ?_; rintro e w' ⟨rfl, rfl⟩))
        all_goals go_wp2
        all_goals go_ret2
        all_goals refine ⟨?_, HB.out⟩
        all_goals rw [HP.out.1, HP.out.2, HQ.out]
        all_goals go_simp
        all_goals (unfold wrap64; exact IntKind.wrap_i64 _)
      · have HQ : Hid (Fm.cmpV (vv 3 m) (vv 3 n) = Fm.cmpV (Fm.val (B m)) (Fm.val (B n))) := rfl
        go_enter Tryz.func32, Tryz.ntmps32
        go_wp2_with fail
        refine (place_any _ _ _ g1 g2).mono ?_
        rintro e w1 ⟨rfl, hb⟩
        obtain ⟨hc, hf⟩ := bcell hb
        have hz := size2 hb
        have hz0 : w.heap.size < w1.heap.size := by omega
        go_wp2_with fail
        refine (place_any _ _ _ h1 h2).mono ?_
        rintro e w2 ⟨rfl, hb2⟩
        obtain ⟨k1, k2, k3, k4⟩ := box2 hb
        have c1 := cell_later hb2 k1
        have c2 := cell_later hb2 k2
        have c3 := cell_later hb2 k3
        have c4 := cell_later hb2 k4
        have HB : Hid (Below w.heap.size w w2) := (end2 hb).trans (hb2.mono (by omega))
        clear hc hf hz hz0 k1 k2 k3 k4 hb hb2
        go_wp2_with fail
        go_region_with (first | (go_at_call 38; refine (pointed_any _ _ _).mono ?_; rintro e w3 ⟨rfl, hb3⟩; have c1 := cell_later hb3 (by exact c1); have c2 := cell_later hb3 (by exact c2); have c3 := cell_later hb3 (by exact c3); have c4 := cell_later hb3 (by exact c4); have HB := (by first | exact chain HB hb3 | exact chain_drew HB hb3 : Hid (Below w.heap.size w w3)); clear hb3) | (go_at_call 51; refine (cmpF_any _ _ _ x1 x2).mono ?_; rintro e w' ⟨rfl, rfl⟩))
        all_goals go_wp2
        all_goals go_ret2
        all_goals exact ⟨by rw [HP.out.1, HP.out.2, HQ.out]; rfl, HB.out⟩
end Go.Proofs.YtdpdpgnpkmfooaaGreatDoor
