/- The document's Cmp: what is refused. -/
import Derived.Test.YtakpmefkddplhaaGreatDoorW7
import Derived.Deep.RegionWith
namespace Go.Proofs.YtakpmefkddplhaaGreatDoor
open Go.RowKit

theorem nanC : Fm.nanB (B 9221120237041090561) = true := by decide +kernel

/-- A value has a place just if it is a number and not the NaN. -/
theorem plc_eq {t n : Int} (h1 : -9223372036854775808 ≤ n) (h2 : n ≤ 9223372036854775807) : plc t n = (isNum t n && !(t == 3 && n == 9221120237041090561)) := by
  unfold plc isNum
  by_cases ht : t = 2
  · subst ht; rfl
  · by_cases ht' : t = 3
    · subst ht'
      by_cases hn : n = 9221120237041090561
      · subst hn; rw [nanC]; rfl
      · have : (n == 9221120237041090561) = false := by simp [hn]
        rw [this]
        cases Fm.nanB (B n) <;> rfl
    · have a1 : (t == 2) = false := by simp [ht]
      have a2 : (t == 3) = false := by simp [ht']
      rw [a1, a2]; rfl

set_option maxHeartbeats 2000000 in
theorem RCmp_a (s m t n : Int) (w : World) (i1 : isNum s m = false) :
    Calls Tryz.prog 33 #[AV s m, AV t n] w fun e w' => e = .returned (.tuple #[.int .i64 0, .bool false]) ∧ Below w.heap.size w w' := by
  go_enter Tryz.func33, Tryz.ntmps33
  go_wp2_with fail
  refine (RIs_any _ _ _).mono ?_
  rintro e w1 ⟨rfl, hb⟩
  obtain ⟨k1, k2, k3, k4⟩ := box2 hb
  have HB : Hid (Below w.heap.size w w1) := end2 hb
  clear hb
  go_wp2_with fail
  go_wp2
  go_ret2
  exact ⟨rfl, HB.out⟩

set_option maxHeartbeats 2000000 in
theorem RCmp_b (s m t n : Int) (w : World) (i1 : isNum s m = true) (i2 : isNum t n = false) :
    Calls Tryz.prog 33 #[AV s m, AV t n] w fun e w' => e = .returned (.tuple #[.int .i64 0, .bool false]) ∧ Below w.heap.size w w' := by
  go_enter Tryz.func33, Tryz.ntmps33
  go_wp2_with fail
  refine (RIs_any _ _ _).mono ?_
  rintro e w1 ⟨rfl, hb⟩
  obtain ⟨k1, k2, k3, k4⟩ := box2 hb
  have HB : Hid (Below w.heap.size w w1) := end2 hb
  clear hb
  go_wp2_with fail
  refine (RIs_any _ _ _).mono ?_
  rintro e w2 ⟨rfl, hb2⟩
  have k1 := cell_later hb2 k1
  have k2 := cell_later hb2 k2
  have k3 := cell_later hb2 k3
  have k4 := cell_later hb2 k4
  have HB := chain HB hb2
  clear hb2
  go_wp2
  go_ret2
  exact ⟨rfl, HB.out⟩

set_option maxHeartbeats 2000000 in
theorem RCmp_c (t n : Int) (w : World) (i1 : isNum 3 9221120237041090561 = true) (i2 : isNum t n = true) :
    Calls Tryz.prog 33 #[AV 3 9221120237041090561, AV t n] w fun e w' => e = .returned (.tuple #[.int .i64 0, .bool false]) ∧ Below w.heap.size w w' := by
  go_enter Tryz.func33, Tryz.ntmps33
  go_wp2_with fail
  refine (RIs_any _ _ _).mono ?_
  rintro e w1 ⟨rfl, hb⟩
  obtain ⟨k1, k2, k3, k4⟩ := box2 hb
  have HB : Hid (Below w.heap.size w w1) := end2 hb
  clear hb
  go_wp2_with fail
  refine (RIs_any _ _ _).mono ?_
  rintro e w2 ⟨rfl, hb2⟩
  have k1 := cell_later hb2 k1
  have k2 := cell_later hb2 k2
  have k3 := cell_later hb2 k3
  have k4 := cell_later hb2 k4
  have HB := chain HB hb2
  clear hb2
  go_wp2
  go_ret2
  exact ⟨rfl, HB.out⟩

set_option maxHeartbeats 2000000 in
theorem RCmp_d2 (m : Int) (w : World) (i1 : isNum 2 m = true) (i2 : isNum 3 9221120237041090561 = true) :
    Calls Tryz.prog 33 #[AV 2 m, AV 3 9221120237041090561] w fun e w' => e = .returned (.tuple #[.int .i64 0, .bool false]) ∧ Below w.heap.size w w' := by
  go_enter Tryz.func33, Tryz.ntmps33
  go_wp2_with fail
  refine (RIs_any _ _ _).mono ?_
  rintro e w1 ⟨rfl, hb⟩
  obtain ⟨k1, k2, k3, k4⟩ := box2 hb
  have HB : Hid (Below w.heap.size w w1) := end2 hb
  clear hb
  go_wp2_with fail
  refine (RIs_any _ _ _).mono ?_
  rintro e w2 ⟨rfl, hb2⟩
  have k1 := cell_later hb2 k1
  have k2 := cell_later hb2 k2
  have k3 := cell_later hb2 k3
  have k4 := cell_later hb2 k4
  have HB := chain HB hb2
  clear hb2
  go_wp2
  go_ret2
  exact ⟨rfl, HB.out⟩

set_option maxHeartbeats 2000000 in
theorem RCmp_d3 (m : Int) (w : World) (hm : ¬ m = 9221120237041090561) (i1 : isNum 3 m = true) (i2 : isNum 3 9221120237041090561 = true) :
    Calls Tryz.prog 33 #[AV 3 m, AV 3 9221120237041090561] w fun e w' => e = .returned (.tuple #[.int .i64 0, .bool false]) ∧ Below w.heap.size w w' := by
  go_enter Tryz.func33, Tryz.ntmps33
  go_wp2_with fail
  refine (RIs_any _ _ _).mono ?_
  rintro e w1 ⟨rfl, hb⟩
  obtain ⟨k1, k2, k3, k4⟩ := box2 hb
  have HB : Hid (Below w.heap.size w w1) := end2 hb
  clear hb
  go_wp2_with fail
  refine (RIs_any _ _ _).mono ?_
  rintro e w2 ⟨rfl, hb2⟩
  have k1 := cell_later hb2 k1
  have k2 := cell_later hb2 k2
  have k3 := cell_later hb2 k3
  have k4 := cell_later hb2 k4
  have HB := chain HB hb2
  clear hb2
  go_wp2
  go_ret2
  exact ⟨rfl, HB.out⟩

set_option maxHeartbeats 2000000 in
theorem RCmp_22lt (m n : Int) (w : World) (h : m < n) (i1 : isNum 2 m = true) (i2 : isNum 2 n = true) :
    Calls Tryz.prog 33 #[AV 2 m, AV 2 n] w fun e w' => e = .returned (.tuple #[.int .i64 (-1), .bool true]) ∧ Below w.heap.size w w' := by
  go_enter Tryz.func33, Tryz.ntmps33
  go_wp2_with fail
  refine (RIs_any _ _ _).mono ?_
  rintro e w1 ⟨rfl, hb⟩
  obtain ⟨k1, k2, k3, k4⟩ := box2 hb
  have HB : Hid (Below w.heap.size w w1) := end2 hb
  clear hb
  go_wp2_with fail
  refine (RIs_any _ _ _).mono ?_
  rintro e w2 ⟨rfl, hb2⟩
  have k1 := cell_later hb2 k1
  have k2 := cell_later hb2 k2
  have k3 := cell_later hb2 k3
  have k4 := cell_later hb2 k4
  have HB := chain HB hb2
  clear hb2
  go_wp2
  go_ret2
  exact ⟨rfl, HB.out⟩

set_option maxHeartbeats 2000000 in
theorem RCmp_22gt (m n : Int) (w : World) (h2 : n < m) (i1 : isNum 2 m = true) (i2 : isNum 2 n = true) :
    Calls Tryz.prog 33 #[AV 2 m, AV 2 n] w fun e w' => e = .returned (.tuple #[.int .i64 (1), .bool true]) ∧ Below w.heap.size w w' := by
  go_enter Tryz.func33, Tryz.ntmps33
  go_wp2_with fail
  refine (RIs_any _ _ _).mono ?_
  rintro e w1 ⟨rfl, hb⟩
  obtain ⟨k1, k2, k3, k4⟩ := box2 hb
  have HB : Hid (Below w.heap.size w w1) := end2 hb
  clear hb
  go_wp2_with fail
  refine (RIs_any _ _ _).mono ?_
  rintro e w2 ⟨rfl, hb2⟩
  have k1 := cell_later hb2 k1
  have k2 := cell_later hb2 k2
  have k3 := cell_later hb2 k3
  have k4 := cell_later hb2 k4
  have HB := chain HB hb2
  clear hb2
  go_wp2
  go_ret2
  exact ⟨rfl, HB.out⟩

set_option maxHeartbeats 2000000 in
theorem RCmp_22eq (m n : Int) (w : World) (h : ¬ m < n) (h2 : ¬ n < m) (i1 : isNum 2 m = true) (i2 : isNum 2 n = true) :
    Calls Tryz.prog 33 #[AV 2 m, AV 2 n] w fun e w' => e = .returned (.tuple #[.int .i64 (0), .bool true]) ∧ Below w.heap.size w w' := by
  go_enter Tryz.func33, Tryz.ntmps33
  go_wp2_with fail
  refine (RIs_any _ _ _).mono ?_
  rintro e w1 ⟨rfl, hb⟩
  obtain ⟨k1, k2, k3, k4⟩ := box2 hb
  have HB : Hid (Below w.heap.size w w1) := end2 hb
  clear hb
  go_wp2_with fail
  refine (RIs_any _ _ _).mono ?_
  rintro e w2 ⟨rfl, hb2⟩
  have k1 := cell_later hb2 k1
  have k2 := cell_later hb2 k2
  have k3 := cell_later hb2 k3
  have k4 := cell_later hb2 k4
  have HB := chain HB hb2
  clear hb2
  go_wp2
  go_ret2
  exact ⟨rfl, HB.out⟩
end Go.Proofs.YtakpmefkddplhaaGreatDoor
