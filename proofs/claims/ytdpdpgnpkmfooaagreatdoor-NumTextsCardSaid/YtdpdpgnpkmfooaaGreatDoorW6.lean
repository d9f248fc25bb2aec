/- How two numbers stand to each other: the parts, in the program and in the document's answer. -/
import Derived.Test.YtdpdpgnpkmfooaaGreatDoorW5
namespace Go.Proofs.YtdpdpgnpkmfooaaGreatDoor
open Go.RowKit

set_option maxHeartbeats 1000000 in
theorem cmpI_any (a b : Int) (w : World) :
    Calls Tryz.prog 49 #[.int .i64 a, .int .i64 b] w fun e w' => e = .returned (.int .i64 (Fm.cmpV a b)) ∧ w' = w := by
  rcases Fm.cmpV_cases a b with ⟨h, hv⟩ | ⟨h, hv⟩ | ⟨h, hv⟩
  · have HV : Hid (Fm.cmpV a b = -1) := hv
    clear hv
    go_enter Tryz.func49, Tryz.ntmps49
    go_wp2
    go_ret
    exact ⟨by rw [HV.out]; rfl, rfl⟩
  · subst h
    have HV : Hid (Fm.cmpV a a = 0) := hv
    clear hv
    go_enter Tryz.func49, Tryz.ntmps49
    go_wp2
    go_ret
    exact ⟨by rw [HV.out]; rfl, rfl⟩
  · have HV : Hid (Fm.cmpV a b = 1) := hv
    have h' : ¬ a < b := by omega
    clear hv
    go_enter Tryz.func49, Tryz.ntmps49
    go_wp2
    go_ret
    exact ⟨by rw [HV.out]; rfl, rfl⟩

theorem lt_f {x y : Nat} (hx : Fm.nanB x = false) (hy : Fm.nanB y = false) : (FloatKind.f64.format.order x y == some .lt) = decide (Fm.val x < Fm.val y) := Fm.lt_iff hx hy
theorem gt_f {x y : Nat} (hx : Fm.nanB x = false) (hy : Fm.nanB y = false) : (FloatKind.f64.format.order x y == some .gt) = decide (Fm.val y < Fm.val x) := Fm.gt_iff hx hy

set_option maxHeartbeats 1000000 in
theorem cmpF_any (x y : Nat) (w : World) (hx : Fm.nanB x = false) (hy : Fm.nanB y = false) :
    Calls Tryz.prog 51 #[.float .f64 x, .float .f64 y] w fun e w' => e = .returned (.int .i64 (Fm.cmpV (Fm.val x) (Fm.val y))) ∧ w' = w := by
  have q1 := isnan_eq x
  have q2 := isnan_eq y
  have q3 := lt_f hx hy
  have q4 := gt_f hx hy
  rw [hx] at q1
  rw [hy] at q2
  clear hx hy
  rcases Fm.cmpV_cases (Fm.val x) (Fm.val y) with ⟨h, hv⟩ | ⟨h, hv⟩ | ⟨h, hv⟩
  · rw [decide_eq_true h] at q3
    have HV : Hid (Fm.cmpV (Fm.val x) (Fm.val y) = -1) := hv
    clear hv h q4
    go_enter Tryz.func51, Tryz.ntmps51
    go_wp2
    go_ret
    exact ⟨by rw [HV.out]; rfl, rfl⟩
  · rw [decide_eq_false (by omega)] at q3 q4
    have HV : Hid (Fm.cmpV (Fm.val x) (Fm.val y) = 0) := hv
    clear hv h
    go_enter Tryz.func51, Tryz.ntmps51
    go_wp2
    go_ret
    exact ⟨by rw [HV.out]; rfl, rfl⟩
  · rw [decide_eq_false (by omega)] at q3
    rw [decide_eq_true h] at q4
    have HV : Hid (Fm.cmpV (Fm.val x) (Fm.val y) = 1) := hv
    clear hv h
    go_enter Tryz.func51, Tryz.ntmps51
    go_wp2
    go_ret
    exact ⟨by rw [HV.out]; rfl, rfl⟩

set_option maxHeartbeats 1000000 in
theorem sign_any (x : Nat) (w : World) (hx : Fm.nanB x = false) :
    Calls Tryz.prog 80 #[.float .f64 x] w fun e w' => e = .returned (.int .i64 (Fm.cmpV (Fm.val x) 0)) ∧ w' = w := by
  have q3 := lt_f hx Fm.nan_zero
  have q4 := gt_f hx Fm.nan_zero
  rw [Fm.val_zero] at q3 q4
  clear hx
  rcases Fm.cmpV_cases (Fm.val x) 0 with ⟨h, hv⟩ | ⟨h, hv⟩ | ⟨h, hv⟩
  · rw [decide_eq_true h] at q3
    have HV : Hid (Fm.cmpV (Fm.val x) 0 = -1) := hv
    clear hv h q4
    go_enter Tryz.func80, Tryz.ntmps80
    go_wp2
    go_ret
    exact ⟨by rw [HV.out]; rfl, rfl⟩
  · rw [decide_eq_false (by omega)] at q3 q4
    have HV : Hid (Fm.cmpV (Fm.val x) 0 = 0) := hv
    clear hv h
    go_enter Tryz.func80, Tryz.ntmps80
    go_wp2
    go_ret
    exact ⟨by rw [HV.out]; rfl, rfl⟩
  · rw [decide_eq_false (by omega)] at q3
    rw [decide_eq_true h] at q4
    have HV : Hid (Fm.cmpV (Fm.val x) 0 = 1) := hv
    clear hv h
    go_enter Tryz.func80, Tryz.ntmps80
    go_wp2
    go_ret
    exact ⟨by rw [HV.out]; rfl, rfl⟩

theorem nan_ofInt (n : Int) : Fm.nanB (Fm.ofInt n) = false := (Fm.nearest_sign (decide (n < 0)) n.natAbs 0 (by omega)).1

/-- Has the value a place among the numbers? -/
def plc (t n : Int) : Bool := isNum t n && (t == 2 || !Fm.nanB (B n))

set_option maxHeartbeats 1000000 in
theorem place_any (t n : Int) (w : World) (h1 : -9223372036854775808 ≤ n) (h2 : n ≤ 9223372036854775807) :
    Calls Tryz.prog 48 #[AV t n] w fun e w' => e = .returned (.bool (plc t n)) ∧ Below w.heap.size w w' := by
  cases hi : isNum t n
  · have HP : Hid (plc t n = false) := by show plc t n = false; unfold plc; rw [hi]; rfl
    go_enter Tryz.func48, Tryz.ntmps48
    go_wp2_with fail
    refine (Of_any _ _ _ h1 h2).mono ?_
    rintro e w1 ⟨rfl, hb⟩
    go_wp2
    go_ret
    exact ⟨by rw [HP.out]; rfl, end1 hb⟩
  · have HP : Hid (plc t n = !Fm.nanB (ofX t n)) := by
      show plc t n = _
      unfold plc ofX; rw [hi]
      by_cases ht : t = 2
      · simp [ht, nan_ofInt]
      · simp [ht]
    go_enter Tryz.func48, Tryz.ntmps48
    go_wp2_with fail
    refine (Of_any _ _ _ h1 h2).mono ?_
    rintro e w1 ⟨rfl, hb⟩
    go_wp2_with (first | (go_at_call 39; refine (IsNaN_any _ _).mono ?_; rintro e w' ⟨rfl, rfl⟩))
    go_ret
    exact ⟨by rw [HP.out]; simp, end1 hb⟩

set_option maxHeartbeats 1000000 in
theorem mixed_any (n : Int) (x : Nat) (w : World) (hx : Fm.nanB x = false) (h1 : -9223372036854775808 ≤ n) (h2 : n ≤ 9223372036854775807) :
    Calls Tryz.prog 50 #[.int .i64 n, .float .f64 x] w fun e w' => e = .returned (.int .i64 (Fm.cmpV (Fm.ival n) (Fm.val x))) ∧ w' = w := by
  cases hw : withinB x
  · have HV : Hid (Fm.cmpV (Fm.val 0) (Fm.val x) = Fm.cmpV (Fm.ival n) (Fm.val x)) := by
      show _ = _
      rw [Fm.val_zero]; exact Fm.mix_out hx (fun h => by rw [(withinB_iff x).2 h] at hw; cases hw) h1 h2
    go_enter Tryz.func50, Tryz.ntmps50
    go_wp2_with (first | (go_at_call 43; refine (within_any _ _).mono ?_; rintro e w' ⟨rfl, rfl⟩))
    go_wp2_with fail
    refine (cmpF_any 0 x _ Fm.nan_zero hx).mono ?_
    rintro e w' ⟨rfl, rfl⟩
    go_wp2
    go_ret
    exact ⟨by rw [← HV.out]; rfl, rfl⟩
  · obtain ⟨t, d, f1, f2, f3, f4, f5, f6, f7, f8, f9, f10, f11, f12, f13, f14, f15, f16, _⟩ := Fm.within_parts ((withinB_iff x).1 hw)
    have hwf : withinB (Fm.floorW x) = true := (withinB_iff _).2 ⟨f9, by rw [f8]; exact Fm.ival_le.2 f4, by rw [f8]; exact Fm.ival_lt.2 (by omega)⟩
    have hcv := conv_i64 hwf
    have htr : tr (Fm.floorW x) = d := by unfold tr; rw [f11]; rfl
    rw [htr] at hcv
    have HL : Hid (Fm.ival d ≤ Fm.val x ∧ Fm.val x < Fm.ival (d + 1) ∧ Fm.val (Fm.floorW x) = Fm.ival d) := ⟨f12, f13, f8⟩
    clear f1 f2 f3 f4 f5 f6 f7 f8 f10 f11 f12 f13 f14 f15 f16 htr hwf
    rcases Fm.cmpV_cases n d with ⟨h, hv⟩ | ⟨h, hv⟩ | ⟨h, hv⟩
    · have HV : Hid (Fm.cmpV (Fm.ival n) (Fm.val x) = -1) := Fm.cmpV_lt (by have := Fm.ival_lt.2 h; have := HL.out.1; omega)
      go_enter Tryz.func50, Tryz.ntmps50
      go_wp2_with (first | (go_at_call 43; refine (within_any _ _).mono ?_; rintro e w' ⟨rfl, rfl⟩) | (go_at_call 44; refine (Floor_any _ _ hx).mono ?_; rintro e w' ⟨rfl, rfl⟩) | (go_at_call 49; refine (cmpI_any _ _ _).mono ?_; rintro e w' ⟨rfl, rfl⟩))
      go_ret
      exact ⟨by rw [HV.out]; rfl, rfl⟩
    · subst h
      have HV : Hid (Fm.cmpV (Fm.ival n) (Fm.val x) = Fm.cmpV (Fm.val (Fm.floorW x)) (Fm.val x)) := by show _ = _; rw [HL.out.2.2]
      go_enter Tryz.func50, Tryz.ntmps50
      go_wp2_with (first | (go_at_call 43; refine (within_any _ _).mono ?_; rintro e w' ⟨rfl, rfl⟩) | (go_at_call 44; refine (Floor_any _ _ hx).mono ?_; rintro e w' ⟨rfl, rfl⟩) | (go_at_call 49; refine (cmpI_any _ _ _).mono ?_; rintro e w' ⟨rfl, rfl⟩) | (go_at_call 51; refine (cmpF_any _ _ _ f9 hx).mono ?_; rintro e w' ⟨rfl, rfl⟩))
      go_ret
      exact ⟨by rw [HV.out]; rfl, rfl⟩
    · have HV : Hid (Fm.cmpV (Fm.ival n) (Fm.val x) = 1) := Fm.cmpV_gt (by have := Fm.ival_le.2 (show d + 1 ≤ n by omega); have := HL.out.2.1; omega)
      go_enter Tryz.func50, Tryz.ntmps50
      go_wp2_with (first | (go_at_call 43; refine (within_any _ _).mono ?_; rintro e w' ⟨rfl, rfl⟩) | (go_at_call 44; refine (Floor_any _ _ hx).mono ?_; rintro e w' ⟨rfl, rfl⟩) | (go_at_call 49; refine (cmpI_any _ _ _).mono ?_; rintro e w' ⟨rfl, rfl⟩))
      go_ret
      exact ⟨by rw [HV.out]; rfl, rfl⟩
end Go.Proofs.YtdpdpgnpkmfooaaGreatDoor
