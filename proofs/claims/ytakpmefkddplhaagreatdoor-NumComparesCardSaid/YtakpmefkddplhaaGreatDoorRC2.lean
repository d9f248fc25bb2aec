/- The document's Cmp: a float among the two. -/
import Derived.Test.YtakpmefkddplhaaGreatDoorRC
namespace Go.Proofs.YtakpmefkddplhaaGreatDoor
open Go.RowKit

set_option maxHeartbeats 2000000 in
theorem RCmp_23 (m n : Int) (w : World) (h1 : -9223372036854775808 ≤ m) (h2 : m ≤ 9223372036854775807) (hn : ¬ n = 9221120237041090561) (x2 : Fm.nanB (B n) = false) (i1 : isNum 2 m = true) (i2 : isNum 3 n = true) :
    Calls Tryz.prog 33 #[AV 2 m, AV 3 n] w fun e w' => e = .returned (.tuple #[.int .i64 (Fm.cmpV (Fm.ival m) (Fm.val (B n))), .bool true]) ∧ Below w.heap.size w w' := by
  go_enter Tryz.func33, Tryz.ntmps33
  go_wp2_with fail
  refine (RIs_any _ _ _).mono ?_
  rintro e w1 ⟨rfl, hb⟩
  obtain ⟨k1, k2, k3, k4⟩ := box2 hb
  have HB : Hid (Below w.heap.size w w1) := end2 hb
  clear hb
  go_wp2_with fail
  refine (RIs_any _ _ _).mono ?_
  rintro e w2 ⟨rfl, hb2⟩
  have k1 := cell_later hb2 k1
  have k2 := cell_later hb2 k2
  have k3 := cell_later hb2 k3
  have k4 := cell_later hb2 k4
  have HB := chain HB hb2
  clear hb2
  go_wp2_with fail
  go_region_with (first | (go_at_call 19; refine (Real_any _ _ _).mono ?_; rintro e w3 ⟨rfl, hb3⟩; have k1 := cell_later hb3 (by exact k1); have k2 := cell_later hb3 (by exact k2); have k3 := cell_later hb3 (by exact k3); have k4 := cell_later hb3 (by exact k4); have HB := (by first | exact chain HB hb3 | exact chain_drew HB hb3 : Hid (Below w.heap.size w w3)); clear hb3) | (go_at_call 52; refine (against_any _ _ _ x2 h1 h2).mono ?_; rintro e w' ⟨rfl, rfl⟩))
  all_goals go_wp2
  all_goals go_ret2
  all_goals exact ⟨rfl, HB.out⟩

set_option maxHeartbeats 2000000 in
theorem RCmp_32 (m n : Int) (w : World) (h1 : -9223372036854775808 ≤ n) (h2 : n ≤ 9223372036854775807) (hm : ¬ m = 9221120237041090561) (x1 : Fm.nanB (B m) = false) (i1 : isNum 3 m = true) (i2 : isNum 2 n = true) :
    Calls Tryz.prog 33 #[AV 3 m, AV 2 n] w fun e w' => e = .returned (.tuple #[.int .i64 (wrap64 (-(Fm.cmpV (Fm.ival n) (Fm.val (B m))))), .bool true]) ∧ Below w.heap.size w w' := by
  go_enter Tryz.func33, Tryz.ntmps33
  go_wp2_with fail
  refine (RIs_any _ _ _).mono ?_
  rintro e w1 ⟨rfl, hb⟩
  obtain ⟨k1, k2, k3, k4⟩ := box2 hb
  have HB : Hid (Below w.heap.size w w1) := end2 hb
  clear hb
  go_wp2_with fail
  refine (RIs_any _ _ _).mono ?_
  rintro e w2 ⟨rfl, hb2⟩
  have k1 := cell_later hb2 k1
  have k2 := cell_later hb2 k2
  have k3 := cell_later hb2 k3
  have k4 := cell_later hb2 k4
  have HB := chain HB hb2
  clear hb2
  go_wp2_with fail
  go_region_with (first | (go_at_call 19; refine (Real_any _ _ _).mono ?_; rintro e w3 ⟨rfl, hb3⟩; have k1 := cell_later hb3 (by exact k1); have k2 := cell_later hb3 (by exact k2); have k3 := cell_later hb3 (by exact k3); have k4 := cell_later hb3 (by exact k4); have HB := (by first | exact chain HB hb3 | exact chain_drew HB hb3 : Hid (Below w.heap.size w w3)); clear hb3) | (go_at_call 52; refine (against_any _ _ _ x1 h1 h2).mono ?_; rintro e w' ⟨rfl, rfl⟩))
  all_goals go_wp2
  all_goals go_ret2
  all_goals refine ⟨?_, HB.out⟩
  all_goals go_simp
  all_goals (unfold wrap64; exact IntKind.wrap_i64 _)

set_option maxHeartbeats 2000000 in
theorem RCmp_33lt (m n : Int) (w : World) (hm : ¬ m = 9221120237041090561) (hn : ¬ n = 9221120237041090561) (i1 : isNum 3 m = true) (i2 : isNum 3 n = true) (q1 : (FloatKind.f64.format.order (B m) (B n) == some .lt) = true) :
    Calls Tryz.prog 33 #[AV 3 m, AV 3 n] w fun e w' => e = .returned (.tuple #[.int .i64 (-1), .bool true]) ∧ Below w.heap.size w w' := by
  have hmn : (m == 9221120237041090561 || n == 9221120237041090561) = false := by simp [hm, hn]
  have hm' : (m == 9221120237041090561) = false := by simp [hm]
  have hn' : (n == 9221120237041090561) = false := by simp [hn]
  go_enter Tryz.func33, Tryz.ntmps33
  go_wp2_with fail
  refine (RIs_any _ _ _).mono ?_
  rintro e w1 ⟨rfl, hb⟩
  obtain ⟨k1, k2, k3, k4⟩ := box2 hb
  have HB : Hid (Below w.heap.size w w1) := end2 hb
  clear hb
  go_wp2_with fail
  refine (RIs_any _ _ _).mono ?_
  rintro e w2 ⟨rfl, hb2⟩
  have k1 := cell_later hb2 k1
  have k2 := cell_later hb2 k2
  have k3 := cell_later hb2 k3
  have k4 := cell_later hb2 k4
  have HB := chain HB hb2
  clear hb2
  go_wp2_with fail
  refine (Real_any _ _ _).mono ?_
  rintro e w3 ⟨rfl, hb3⟩
  have k3 := cell_later hb3 k3
  have k4 := cell_later hb3 k4
  have HB := chain HB hb3
  clear hb3 k1 k2
  go_wp2_with fail
  refine (Real_any _ _ _).mono ?_
  rintro e w4 ⟨rfl, hb4⟩
  have HB := chain HB hb4
  clear hb4 k3 k4
  go_wp2
  go_ret2
  exact ⟨rfl, HB.out⟩

set_option maxHeartbeats 2000000 in
theorem RCmp_33gt (m n : Int) (w : World) (hm : ¬ m = 9221120237041090561) (hn : ¬ n = 9221120237041090561) (i1 : isNum 3 m = true) (i2 : isNum 3 n = true) (q1 : (FloatKind.f64.format.order (B m) (B n) == some .lt) = false) (q2 : (FloatKind.f64.format.order (B m) (B n) == some .gt) = true) :
    Calls Tryz.prog 33 #[AV 3 m, AV 3 n] w fun e w' => e = .returned (.tuple #[.int .i64 (1), .bool true]) ∧ Below w.heap.size w w' := by
  have hmn : (m == 9221120237041090561 || n == 9221120237041090561) = false := by simp [hm, hn]
  have hm' : (m == 9221120237041090561) = false := by simp [hm]
  have hn' : (n == 9221120237041090561) = false := by simp [hn]
  go_enter Tryz.func33, Tryz.ntmps33
  go_wp2_with fail
  refine (RIs_any _ _ _).mono ?_
  rintro e w1 ⟨rfl, hb⟩
  obtain ⟨k1, k2, k3, k4⟩ := box2 hb
  have HB : Hid (Below w.heap.size w w1) := end2 hb
  clear hb
  go_wp2_with fail
  refine (RIs_any _ _ _).mono ?_
  rintro e w2 ⟨rfl, hb2⟩
  have k1 := cell_later hb2 k1
  have k2 := cell_later hb2 k2
  have k3 := cell_later hb2 k3
  have k4 := cell_later hb2 k4
  have HB := chain HB hb2
  clear hb2
  go_wp2_with fail
  refine (Real_any _ _ _).mono ?_
  rintro e w3 ⟨rfl, hb3⟩
  have k3 := cell_later hb3 k3
  have k4 := cell_later hb3 k4
  have HB := chain HB hb3
  clear hb3 k1 k2
  go_wp2_with fail
  refine (Real_any _ _ _).mono ?_
  rintro e w4 ⟨rfl, hb4⟩
  have HB := chain HB hb4
  clear hb4 k3 k4
  go_wp2
  go_ret2
  exact ⟨rfl, HB.out⟩

set_option maxHeartbeats 2000000 in
theorem RCmp_33eq (m n : Int) (w : World) (hm : ¬ m = 9221120237041090561) (hn : ¬ n = 9221120237041090561) (i1 : isNum 3 m = true) (i2 : isNum 3 n = true) (q1 : (FloatKind.f64.format.order (B m) (B n) == some .lt) = false) (q2 : (FloatKind.f64.format.order (B m) (B n) == some .gt) = false) :
    Calls Tryz.prog 33 #[AV 3 m, AV 3 n] w fun e w' => e = .returned (.tuple #[.int .i64 (0), .bool true]) ∧ Below w.heap.size w w' := by
  have hmn : (m == 9221120237041090561 || n == 9221120237041090561) = false := by simp [hm, hn]
  have hm' : (m == 9221120237041090561) = false := by simp [hm]
  have hn' : (n == 9221120237041090561) = false := by simp [hn]
  go_enter Tryz.func33, Tryz.ntmps33
  go_wp2_with fail
  refine (RIs_any _ _ _).mono ?_
  rintro e w1 ⟨rfl, hb⟩
  obtain ⟨k1, k2, k3, k4⟩ := box2 hb
  have HB : Hid (Below w.heap.size w w1) := end2 hb
  clear hb
  go_wp2_with fail
  refine (RIs_any _ _ _).mono ?_
  rintro e w2 ⟨rfl, hb2⟩
  have k1 := cell_later hb2 k1
  have k2 := cell_later hb2 k2
  have k3 := cell_later hb2 k3
  have k4 := cell_later hb2 k4
  have HB := chain HB hb2
  clear hb2
  go_wp2_with fail
  refine (Real_any _ _ _).mono ?_
  rintro e w3 ⟨rfl, hb3⟩
  have k3 := cell_later hb3 k3
  have k4 := cell_later hb3 k4
  have HB := chain HB hb3
  clear hb3 k1 k2
  go_wp2_with fail
  refine (Real_any _ _ _).mono ?_
  rintro e w4 ⟨rfl, hb4⟩
  have HB := chain HB hb4
  clear hb4 k3 k4
  go_wp2
  go_ret2
  exact ⟨rfl, HB.out⟩
end Go.Proofs.YtakpmefkddplhaaGreatDoor
