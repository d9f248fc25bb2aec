/- NumOrder answers true at every three values. -/
import Derived.Test.YtakpmefkddplhaaGreatDoorA1
namespace Go.Proofs.YtakpmefkddplhaaGreatDoor
open Go.RowKit

theorem Cmp_is (s m t n v : Int) (b : Bool) (w : World) (g1 : -9223372036854775808 ≤ m) (g2 : m ≤ 9223372036854775807) (h1 : -9223372036854775808 ≤ n) (h2 : n ≤ 9223372036854775807) (hv : cpN s m t n = v) (hb : cpB s m t n = b) :
    Calls Tryz.prog 32 #[AV s m, AV t n] w fun e w' => e = .returned (.tuple #[.int .i64 v, .bool b]) ∧ Below w.heap.size w w' := by
  have h := Cmp_any s m t n w g1 g2 h1 h2
  rw [hv, hb] at h
  exact h

/-- What the three boxes hold. -/
theorem box3 (w : World) (s m t n u k : Int) :
    ((((w.alloc (.cells #[.int .i64 s, .int .i64 m] 23)).alloc (.cells #[.int .i64 t, .int .i64 n] 23)).alloc (.cells #[.int .i64 u, .int .i64 k] 23))).cell? ⟨w.heap.size, 0, none⟩ = some (.int .i64 s) ∧
    ((((w.alloc (.cells #[.int .i64 s, .int .i64 m] 23)).alloc (.cells #[.int .i64 t, .int .i64 n] 23)).alloc (.cells #[.int .i64 u, .int .i64 k] 23))).cell? ⟨w.heap.size, 1, none⟩ = some (.int .i64 m) ∧
    ((((w.alloc (.cells #[.int .i64 s, .int .i64 m] 23)).alloc (.cells #[.int .i64 t, .int .i64 n] 23)).alloc (.cells #[.int .i64 u, .int .i64 k] 23))).cell? ⟨w.heap.size + 1, 0, none⟩ = some (.int .i64 t) ∧
    ((((w.alloc (.cells #[.int .i64 s, .int .i64 m] 23)).alloc (.cells #[.int .i64 t, .int .i64 n] 23)).alloc (.cells #[.int .i64 u, .int .i64 k] 23))).cell? ⟨w.heap.size + 1, 1, none⟩ = some (.int .i64 n) ∧
    ((((w.alloc (.cells #[.int .i64 s, .int .i64 m] 23)).alloc (.cells #[.int .i64 t, .int .i64 n] 23)).alloc (.cells #[.int .i64 u, .int .i64 k] 23))).cell? ⟨w.heap.size + 1 + 1, 0, none⟩ = some (.int .i64 u) ∧
    ((((w.alloc (.cells #[.int .i64 s, .int .i64 m] 23)).alloc (.cells #[.int .i64 t, .int .i64 n] 23)).alloc (.cells #[.int .i64 u, .int .i64 k] 23))).cell? ⟨w.heap.size + 1 + 1, 1, none⟩ = some (.int .i64 k) := by
  refine ⟨?_, ?_, ?_, ?_, ?_, ?_⟩ <;> simp [go_sem]

set_option maxHeartbeats 2000000 in
theorem order_none (s m t n u k : Int) (w : World) (g1 : -9223372036854775808 ≤ m) (g2 : m ≤ 9223372036854775807) (h1 : -9223372036854775808 ≤ n) (h2 : n ≤ 9223372036854775807) (i1 : -9223372036854775808 ≤ k) (i2 : k ≤ 9223372036854775807) (y z : Int) (q r : Bool) (ht : TabIs4 w)
    (e1 : Hid (cpN s m t n = 0)) (e2 : Hid (cpB s m t n = false)) (e3 : Hid (cpN t n u k = y)) (e4 : Hid (cpB t n u k = q)) (e5 : Hid (cpN s m u k = z)) (e6 : Hid (cpB s m u k = r)) (e7 : Hid (cpN t n s m = 0)) (e8 : Hid (cpB t n s m = false)) :
    Calls Tryz.prog 9 #[AV s m, AV t n, AV u k] w fun e w' => e = .returned (.bool true) ∧ Below w.heap.size w w' := by
  go_enter Tryz.func9, Tryz.ntmps9
  go_wp2_with fail
  refine (Cmp_is _ _ _ _ _ _ _ g1 g2 h1 h2 e1.out e2.out).mono ?_
  rintro e w1 ⟨rfl, hb⟩
  have HB : Hid (Below w.heap.size w w1) := end3 hb
  have ht := cell_later hb (alC _ (alC _ (alC _ ht)))
  obtain ⟨c1, c2, c3, c4, c5, c6⟩ := box3 w s m t n u k
  have c1 := cell_later hb c1
  have c2 := cell_later hb c2
  have c3 := cell_later hb c3
  have c4 := cell_later hb c4
  have c5 := cell_later hb c5
  have c6 := cell_later hb c6
  clear hb
  go_wp2_with fail
  refine (Cmp_is _ _ _ _ _ _ _ h1 h2 i1 i2 e3.out e4.out).mono ?_
  rintro e w2 ⟨rfl, hb⟩
  have HB := chain HB hb
  have ht := cell_later hb ht
  have c1 := cell_later hb c1
  have c2 := cell_later hb c2
  have c3 := cell_later hb c3
  have c4 := cell_later hb c4
  have c5 := cell_later hb c5
  have c6 := cell_later hb c6
  clear hb
  go_wp2_with fail
  refine (Cmp_is _ _ _ _ _ _ _ g1 g2 i1 i2 e5.out e6.out).mono ?_
  rintro e w3 ⟨rfl, hb⟩
  have HB := chain HB hb
  have ht := cell_later hb ht
  have c1 := cell_later hb c1
  have c2 := cell_later hb c2
  have c3 := cell_later hb c3
  have c4 := cell_later hb c4
  have c5 := cell_later hb c5
  have c6 := cell_later hb c6
  clear hb
  go_wp2_with fail
  refine (Cmp_is _ _ _ _ _ _ _ h1 h2 g1 g2 e7.out e8.out).mono ?_
  rintro e w4 ⟨rfl, hb⟩
  have HB := chain HB hb
  have ht := cell_later hb ht
  clear hb c1 c2 c3 c4 c5 c6
  go_wp2_with (first | (go_at_call 25; refine (alive_any _ (by exact ht)).mono ?_; rintro e wz ⟨rfl, hb⟩; have HB := chain HB hb; clear hb))
  go_ret
  exact ⟨rfl, HB.out⟩

set_option maxHeartbeats 2000000 in
theorem order_halfl (s m t n u k : Int) (w : World) (g1 : -9223372036854775808 ≤ m) (g2 : m ≤ 9223372036854775807) (h1 : -9223372036854775808 ≤ n) (h2 : n ≤ 9223372036854775807) (i1 : -9223372036854775808 ≤ k) (i2 : k ≤ 9223372036854775807) (y z : Int) (r : Bool) (ht : TabIs4 w)
    (e1 : Hid (cpN s m t n = -1)) (e2 : Hid (cpB s m t n = true)) (e3 : Hid (cpN t n u k = y)) (e4 : Hid (cpB t n u k = false)) (e5 : Hid (cpN s m u k = z)) (e6 : Hid (cpB s m u k = r)) (e7 : Hid (cpN t n s m = 1)) (e8 : Hid (cpB t n s m = true)) :
    Calls Tryz.prog 9 #[AV s m, AV t n, AV u k] w fun e w' => e = .returned (.bool true) ∧ Below w.heap.size w w' := by
  go_enter Tryz.func9, Tryz.ntmps9
  go_wp2_with fail
  refine (Cmp_is _ _ _ _ _ _ _ g1 g2 h1 h2 e1.out e2.out).mono ?_
  rintro e w1 ⟨rfl, hb⟩
  have HB : Hid (Below w.heap.size w w1) := end3 hb
  have ht := cell_later hb (alC _ (alC _ (alC _ ht)))
  obtain ⟨c1, c2, c3, c4, c5, c6⟩ := box3 w s m t n u k
  have c1 := cell_later hb c1
  have c2 := cell_later hb c2
  have c3 := cell_later hb c3
  have c4 := cell_later hb c4
  have c5 := cell_later hb c5
  have c6 := cell_later hb c6
  clear hb
  go_wp2_with fail
  refine (Cmp_is _ _ _ _ _ _ _ h1 h2 i1 i2 e3.out e4.out).mono ?_
  rintro e w2 ⟨rfl, hb⟩
  have HB := chain HB hb
  have ht := cell_later hb ht
  have c1 := cell_later hb c1
  have c2 := cell_later hb c2
  have c3 := cell_later hb c3
  have c4 := cell_later hb c4
  have c5 := cell_later hb c5
  have c6 := cell_later hb c6
  clear hb
  go_wp2_with fail
  refine (Cmp_is _ _ _ _ _ _ _ g1 g2 i1 i2 e5.out e6.out).mono ?_
  rintro e w3 ⟨rfl, hb⟩
  have HB := chain HB hb
  have ht := cell_later hb ht
  have c1 := cell_later hb c1
  have c2 := cell_later hb c2
  have c3 := cell_later hb c3
  have c4 := cell_later hb c4
  have c5 := cell_later hb c5
  have c6 := cell_later hb c6
  clear hb
  go_wp2_with fail
  refine (Cmp_is _ _ _ _ _ _ _ h1 h2 g1 g2 e7.out e8.out).mono ?_
  rintro e w4 ⟨rfl, hb⟩
  have HB := chain HB hb
  have ht := cell_later hb ht
  clear hb c1 c2 c3 c4 c5 c6
  go_wp2_with (first | (go_at_call 25; refine (alive_any _ (by exact ht)).mono ?_; rintro e wz ⟨rfl, hb⟩; have HB := chain HB hb; clear hb))
  go_ret
  exact ⟨rfl, HB.out⟩

set_option maxHeartbeats 2000000 in
theorem order_halfe (s m t n u k : Int) (w : World) (g1 : -9223372036854775808 ≤ m) (g2 : m ≤ 9223372036854775807) (h1 : -9223372036854775808 ≤ n) (h2 : n ≤ 9223372036854775807) (i1 : -9223372036854775808 ≤ k) (i2 : k ≤ 9223372036854775807) (y z : Int) (r : Bool) (ht : TabIs4 w)
    (e1 : Hid (cpN s m t n = 0)) (e2 : Hid (cpB s m t n = true)) (e3 : Hid (cpN t n u k = y)) (e4 : Hid (cpB t n u k = false)) (e5 : Hid (cpN s m u k = z)) (e6 : Hid (cpB s m u k = r)) (e7 : Hid (cpN t n s m = 0)) (e8 : Hid (cpB t n s m = true)) :
    Calls Tryz.prog 9 #[AV s m, AV t n, AV u k] w fun e w' => e = .returned (.bool true) ∧ Below w.heap.size w w' := by
  go_enter Tryz.func9, Tryz.ntmps9
  go_wp2_with fail
  refine (Cmp_is _ _ _ _ _ _ _ g1 g2 h1 h2 e1.out e2.out).mono ?_
  rintro e w1 ⟨rfl, hb⟩
  have HB : Hid (Below w.heap.size w w1) := end3 hb
  have ht := cell_later hb (alC _ (alC _ (alC _ ht)))
  obtain ⟨c1, c2, c3, c4, c5, c6⟩ := box3 w s m t n u k
  have c1 := cell_later hb c1
  have c2 := cell_later hb c2
  have c3 := cell_later hb c3
  have c4 := cell_later hb c4
  have c5 := cell_later hb c5
  have c6 := cell_later hb c6
  clear hb
  go_wp2_with fail
  refine (Cmp_is _ _ _ _ _ _ _ h1 h2 i1 i2 e3.out e4.out).mono ?_
  rintro e w2 ⟨rfl, hb⟩
  have HB := chain HB hb
  have ht := cell_later hb ht
  have c1 := cell_later hb c1
  have c2 := cell_later hb c2
  have c3 := cell_later hb c3
  have c4 := cell_later hb c4
  have c5 := cell_later hb c5
  have c6 := cell_later hb c6
  clear hb
  go_wp2_with fail
  refine (Cmp_is _ _ _ _ _ _ _ g1 g2 i1 i2 e5.out e6.out).mono ?_
  rintro e w3 ⟨rfl, hb⟩
  have HB := chain HB hb
  have ht := cell_later hb ht
  have c1 := cell_later hb c1
  have c2 := cell_later hb c2
  have c3 := cell_later hb c3
  have c4 := cell_later hb c4
  have c5 := cell_later hb c5
  have c6 := cell_later hb c6
  clear hb
  go_wp2_with fail
  refine (Cmp_is _ _ _ _ _ _ _ h1 h2 g1 g2 e7.out e8.out).mono ?_
  rintro e w4 ⟨rfl, hb⟩
  have HB := chain HB hb
  have ht := cell_later hb ht
  clear hb c1 c2 c3 c4 c5 c6
  go_wp2_with (first | (go_at_call 25; refine (alive_any _ (by exact ht)).mono ?_; rintro e wz ⟨rfl, hb⟩; have HB := chain HB hb; clear hb))
  go_ret
  exact ⟨rfl, HB.out⟩

set_option maxHeartbeats 2000000 in
theorem order_halfg (s m t n u k : Int) (w : World) (g1 : -9223372036854775808 ≤ m) (g2 : m ≤ 9223372036854775807) (h1 : -9223372036854775808 ≤ n) (h2 : n ≤ 9223372036854775807) (i1 : -9223372036854775808 ≤ k) (i2 : k ≤ 9223372036854775807) (y z : Int) (r : Bool) (ht : TabIs4 w)
    (e1 : Hid (cpN s m t n = 1)) (e2 : Hid (cpB s m t n = true)) (e3 : Hid (cpN t n u k = y)) (e4 : Hid (cpB t n u k = false)) (e5 : Hid (cpN s m u k = z)) (e6 : Hid (cpB s m u k = r)) (e7 : Hid (cpN t n s m = -1)) (e8 : Hid (cpB t n s m = true)) :
    Calls Tryz.prog 9 #[AV s m, AV t n, AV u k] w fun e w' => e = .returned (.bool true) ∧ Below w.heap.size w w' := by
  go_enter Tryz.func9, Tryz.ntmps9
  go_wp2_with fail
  refine (Cmp_is _ _ _ _ _ _ _ g1 g2 h1 h2 e1.out e2.out).mono ?_
  rintro e w1 ⟨rfl, hb⟩
  have HB : Hid (Below w.heap.size w w1) := end3 hb
  have ht := cell_later hb (alC _ (alC _ (alC _ ht)))
  obtain ⟨c1, c2, c3, c4, c5, c6⟩ := box3 w s m t n u k
  have c1 := cell_later hb c1
  have c2 := cell_later hb c2
  have c3 := cell_later hb c3
  have c4 := cell_later hb c4
  have c5 := cell_later hb c5
  have c6 := cell_later hb c6
  clear hb
  go_wp2_with fail
  refine (Cmp_is _ _ _ _ _ _ _ h1 h2 i1 i2 e3.out e4.out).mono ?_
  rintro e w2 ⟨rfl, hb⟩
  have HB := chain HB hb
  have ht := cell_later hb ht
  have c1 := cell_later hb c1
  have c2 := cell_later hb c2
  have c3 := cell_later hb c3
  have c4 := cell_later hb c4
  have c5 := cell_later hb c5
  have c6 := cell_later hb c6
  clear hb
  go_wp2_with fail
  refine (Cmp_is _ _ _ _ _ _ _ g1 g2 i1 i2 e5.out e6.out).mono ?_
  rintro e w3 ⟨rfl, hb⟩
  have HB := chain HB hb
  have ht := cell_later hb ht
  have c1 := cell_later hb c1
  have c2 := cell_later hb c2
  have c3 := cell_later hb c3
  have c4 := cell_later hb c4
  have c5 := cell_later hb c5
  have c6 := cell_later hb c6
  clear hb
  go_wp2_with fail
  refine (Cmp_is _ _ _ _ _ _ _ h1 h2 g1 g2 e7.out e8.out).mono ?_
  rintro e w4 ⟨rfl, hb⟩
  have HB := chain HB hb
  have ht := cell_later hb ht
  clear hb c1 c2 c3 c4 c5 c6
  go_wp2_with (first | (go_at_call 25; refine (alive_any _ (by exact ht)).mono ?_; rintro e wz ⟨rfl, hb⟩; have HB := chain HB hb; clear hb))
  go_ret
  exact ⟨rfl, HB.out⟩
end Go.Proofs.YtakpmefkddplhaaGreatDoor
