/- NumOrder where all three have a place. -/
import Derived.Test.YtakpmefkddplhaaGreatDoorO1
namespace Go.Proofs.YtakpmefkddplhaaGreatDoor
open Go.RowKit


set_option maxHeartbeats 2000000 in
theorem order_lll (s m t n u k : Int) (w : World) (g1 : -9223372036854775808 ≤ m) (g2 : m ≤ 9223372036854775807) (h1 : -9223372036854775808 ≤ n) (h2 : n ≤ 9223372036854775807) (i1 : -9223372036854775808 ≤ k) (i2 : k ≤ 9223372036854775807) (ht : TabIs4 w)
    (e1 : Hid (cpN s m t n = -1)) (e2 : Hid (cpB s m t n = true)) (e3 : Hid (cpN t n u k = -1)) (e4 : Hid (cpB t n u k = true)) (e5 : Hid (cpN s m u k = -1)) (e6 : Hid (cpB s m u k = true)) (e7 : Hid (cpN t n s m = 1)) (e8 : Hid (cpB t n s m = true)) :
    Calls Tryz.prog 9 #[AV s m, AV t n, AV u k] w fun e w' => e = .returned (.bool true) ∧ Below w.heap.size w w' := by
  go_enter Tryz.func9, Tryz.ntmps9
  go_wp2_with fail
  refine (Cmp_is _ _ _ _ _ _ _ g1 g2 h1 h2 e1.out e2.out).mono ?_
  rintro e w1 ⟨rfl, hb⟩
  have HB : Hid (Below w.heap.size w w1) := end3 hb
  have ht := cell_later hb (alC _ (alC _ (alC _ ht)))
  obtain ⟨c1, c2, c3, c4, c5, c6⟩ := box3 w s m t n u k
  have c1 := cell_later hb c1
  have c2 := cell_later hb c2
  have c3 := cell_later hb c3
  have c4 := cell_later hb c4
  have c5 := cell_later hb c5
  have c6 := cell_later hb c6
  clear hb
  go_wp2_with fail
  refine (Cmp_is _ _ _ _ _ _ _ h1 h2 i1 i2 e3.out e4.out).mono ?_
  rintro e w2 ⟨rfl, hb⟩
  have HB := chain HB hb
  have ht := cell_later hb ht
  have c1 := cell_later hb c1
  have c2 := cell_later hb c2
  have c3 := cell_later hb c3
  have c4 := cell_later hb c4
  have c5 := cell_later hb c5
  have c6 := cell_later hb c6
  clear hb
  go_wp2_with fail
  refine (Cmp_is _ _ _ _ _ _ _ g1 g2 i1 i2 e5.out e6.out).mono ?_
  rintro e w3 ⟨rfl, hb⟩
  have HB := chain HB hb
  have ht := cell_later hb ht
  have c1 := cell_later hb c1
  have c2 := cell_later hb c2
  have c3 := cell_later hb c3
  have c4 := cell_later hb c4
  have c5 := cell_later hb c5
  have c6 := cell_later hb c6
  clear hb
  go_wp2_with fail
  refine (Cmp_is _ _ _ _ _ _ _ h1 h2 g1 g2 e7.out e8.out).mono ?_
  rintro e w4 ⟨rfl, hb⟩
  have HB := chain HB hb
  have ht := cell_later hb ht
  clear hb c1 c2 c3 c4 c5 c6
  go_wp2_with (first | (go_at_call 25; refine (alive_any _ (by exact ht)).mono ?_; rintro e wz ⟨rfl, hb⟩; have HB := chain HB hb; clear hb))
  go_ret
  exact ⟨rfl, HB.out⟩

set_option maxHeartbeats 2000000 in
theorem order_lel (s m t n u k : Int) (w : World) (g1 : -9223372036854775808 ≤ m) (g2 : m ≤ 9223372036854775807) (h1 : -9223372036854775808 ≤ n) (h2 : n ≤ 9223372036854775807) (i1 : -9223372036854775808 ≤ k) (i2 : k ≤ 9223372036854775807) (ht : TabIs4 w)
    (e1 : Hid (cpN s m t n = -1)) (e2 : Hid (cpB s m t n = true)) (e3 : Hid (cpN t n u k = 0)) (e4 : Hid (cpB t n u k = true)) (e5 : Hid (cpN s m u k = -1)) (e6 : Hid (cpB s m u k = true)) (e7 : Hid (cpN t n s m = 1)) (e8 : Hid (cpB t n s m = true)) :
    Calls Tryz.prog 9 #[AV s m, AV t n, AV u k] w fun e w' => e = .returned (.bool true) ∧ Below w.heap.size w w' := by
  go_enter Tryz.func9, Tryz.ntmps9
  go_wp2_with fail
  refine (Cmp_is _ _ _ _ _ _ _ g1 g2 h1 h2 e1.out e2.out).mono ?_
  rintro e w1 ⟨rfl, hb⟩
  have HB : Hid (Below w.heap.size w w1) := end3 hb
  have ht := cell_later hb (alC _ (alC _ (alC _ ht)))
  obtain ⟨c1, c2, c3, c4, c5, c6⟩ := box3 w s m t n u k
  have c1 := cell_later hb c1
  have c2 := cell_later hb c2
  have c3 := cell_later hb c3
  have c4 := cell_later hb c4
  have c5 := cell_later hb c5
  have c6 := cell_later hb c6
  clear hb
  go_wp2_with fail
  refine (Cmp_is _ _ _ _ _ _ _ h1 h2 i1 i2 e3.out e4.out).mono ?_
  rintro e w2 ⟨rfl, hb⟩
  have HB := chain HB hb
  have ht := cell_later hb ht
  have c1 := cell_later hb c1
  have c2 := cell_later hb c2
  have c3 := cell_later hb c3
  have c4 := cell_later hb c4
  have c5 := cell_later hb c5
  have c6 := cell_later hb c6
  clear hb
  go_wp2_with fail
  refine (Cmp_is _ _ _ _ _ _ _ g1 g2 i1 i2 e5.out e6.out).mono ?_
  rintro e w3 ⟨rfl, hb⟩
  have HB := chain HB hb
  have ht := cell_later hb ht
  have c1 := cell_later hb c1
  have c2 := cell_later hb c2
  have c3 := cell_later hb c3
  have c4 := cell_later hb c4
  have c5 := cell_later hb c5
  have c6 := cell_later hb c6
  clear hb
  go_wp2_with fail
  refine (Cmp_is _ _ _ _ _ _ _ h1 h2 g1 g2 e7.out e8.out).mono ?_
  rintro e w4 ⟨rfl, hb⟩
  have HB := chain HB hb
  have ht := cell_later hb ht
  clear hb c1 c2 c3 c4 c5 c6
  go_wp2_with (first | (go_at_call 25; refine (alive_any _ (by exact ht)).mono ?_; rintro e wz ⟨rfl, hb⟩; have HB := chain HB hb; clear hb))
  go_ret
  exact ⟨rfl, HB.out⟩

set_option maxHeartbeats 2000000 in
theorem order_lgl (s m t n u k : Int) (w : World) (g1 : -9223372036854775808 ≤ m) (g2 : m ≤ 9223372036854775807) (h1 : -9223372036854775808 ≤ n) (h2 : n ≤ 9223372036854775807) (i1 : -9223372036854775808 ≤ k) (i2 : k ≤ 9223372036854775807) (ht : TabIs4 w)
    (e1 : Hid (cpN s m t n = -1)) (e2 : Hid (cpB s m t n = true)) (e3 : Hid (cpN t n u k = 1)) (e4 : Hid (cpB t n u k = true)) (e5 : Hid (cpN s m u k = -1)) (e6 : Hid (cpB s m u k = true)) (e7 : Hid (cpN t n s m = 1)) (e8 : Hid (cpB t n s m = true)) :
    Calls Tryz.prog 9 #[AV s m, AV t n, AV u k] w fun e w' => e = .returned (.bool true) ∧ Below w.heap.size w w' := by
  go_enter Tryz.func9, Tryz.ntmps9
  go_wp2_with fail
  refine (Cmp_is _ _ _ _ _ _ _ g1 g2 h1 h2 e1.out e2.out).mono ?_
  rintro e w1 ⟨rfl, hb⟩
  have HB : Hid (Below w.heap.size w w1) := end3 hb
  have ht := cell_later hb (alC _ (alC _ (alC _ ht)))
  obtain ⟨c1, c2, c3, c4, c5, c6⟩ := box3 w s m t n u k
  have c1 := cell_later hb c1
  have c2 := cell_later hb c2
  have c3 := cell_later hb c3
  have c4 := cell_later hb c4
  have c5 := cell_later hb c5
  have c6 := cell_later hb c6
  clear hb
  go_wp2_with fail
  refine (Cmp_is _ _ _ _ _ _ _ h1 h2 i1 i2 e3.out e4.out).mono ?_
  rintro e w2 ⟨rfl, hb⟩
  have HB := chain HB hb
  have ht := cell_later hb ht
  have c1 := cell_later hb c1
  have c2 := cell_later hb c2
  have c3 := cell_later hb c3
  have c4 := cell_later hb c4
  have c5 := cell_later hb c5
  have c6 := cell_later hb c6
  clear hb
  go_wp2_with fail
  refine (Cmp_is _ _ _ _ _ _ _ g1 g2 i1 i2 e5.out e6.out).mono ?_
  rintro e w3 ⟨rfl, hb⟩
  have HB := chain HB hb
  have ht := cell_later hb ht
  have c1 := cell_later hb c1
  have c2 := cell_later hb c2
  have c3 := cell_later hb c3
  have c4 := cell_later hb c4
  have c5 := cell_later hb c5
  have c6 := cell_later hb c6
  clear hb
  go_wp2_with fail
  refine (Cmp_is _ _ _ _ _ _ _ h1 h2 g1 g2 e7.out e8.out).mono ?_
  rintro e w4 ⟨rfl, hb⟩
  have HB := chain HB hb
  have ht := cell_later hb ht
  clear hb c1 c2 c3 c4 c5 c6
  go_wp2_with (first | (go_at_call 25; refine (alive_any _ (by exact ht)).mono ?_; rintro e wz ⟨rfl, hb⟩; have HB := chain HB hb; clear hb))
  go_ret
  exact ⟨rfl, HB.out⟩

set_option maxHeartbeats 2000000 in
theorem order_lge (s m t n u k : Int) (w : World) (g1 : -9223372036854775808 ≤ m) (g2 : m ≤ 9223372036854775807) (h1 : -9223372036854775808 ≤ n) (h2 : n ≤ 9223372036854775807) (i1 : -9223372036854775808 ≤ k) (i2 : k ≤ 9223372036854775807) (ht : TabIs4 w)
    (e1 : Hid (cpN s m t n = -1)) (e2 : Hid (cpB s m t n = true)) (e3 : Hid (cpN t n u k = 1)) (e4 : Hid (cpB t n u k = true)) (e5 : Hid (cpN s m u k = 0)) (e6 : Hid (cpB s m u k = true)) (e7 : Hid (cpN t n s m = 1)) (e8 : Hid (cpB t n s m = true)) :
    Calls Tryz.prog 9 #[AV s m, AV t n, AV u k] w fun e w' => e = .returned (.bool true) ∧ Below w.heap.size w w' := by
  go_enter Tryz.func9, Tryz.ntmps9
  go_wp2_with fail
  refine (Cmp_is _ _ _ _ _ _ _ g1 g2 h1 h2 e1.out e2.out).mono ?_
  rintro e w1 ⟨rfl, hb⟩
  have HB : Hid (Below w.heap.size w w1) := end3 hb
  have ht := cell_later hb (alC _ (alC _ (alC _ ht)))
  obtain ⟨c1, c2, c3, c4, c5, c6⟩ := box3 w s m t n u k
  have c1 := cell_later hb c1
  have c2 := cell_later hb c2
  have c3 := cell_later hb c3
  have c4 := cell_later hb c4
  have c5 := cell_later hb c5
  have c6 := cell_later hb c6
  clear hb
  go_wp2_with fail
  refine (Cmp_is _ _ _ _ _ _ _ h1 h2 i1 i2 e3.out e4.out).mono ?_
  rintro e w2 ⟨rfl, hb⟩
  have HB := chain HB hb
  have ht := cell_later hb ht
  have c1 := cell_later hb c1
  have c2 := cell_later hb c2
  have c3 := cell_later hb c3
  have c4 := cell_later hb c4
  have c5 := cell_later hb c5
  have c6 := cell_later hb c6
  clear hb
  go_wp2_with fail
  refine (Cmp_is _ _ _ _ _ _ _ g1 g2 i1 i2 e5.out e6.out).mono ?_
  rintro e w3 ⟨rfl, hb⟩
  have HB := chain HB hb
  have ht := cell_later hb ht
  have c1 := cell_later hb c1
  have c2 := cell_later hb c2
  have c3 := cell_later hb c3
  have c4 := cell_later hb c4
  have c5 := cell_later hb c5
  have c6 := cell_later hb c6
  clear hb
  go_wp2_with fail
  refine (Cmp_is _ _ _ _ _ _ _ h1 h2 g1 g2 e7.out e8.out).mono ?_
  rintro e w4 ⟨rfl, hb⟩
  have HB := chain HB hb
  have ht := cell_later hb ht
  clear hb c1 c2 c3 c4 c5 c6
  go_wp2_with (first | (go_at_call 25; refine (alive_any _ (by exact ht)).mono ?_; rintro e wz ⟨rfl, hb⟩; have HB := chain HB hb; clear hb))
  go_ret
  exact ⟨rfl, HB.out⟩

set_option maxHeartbeats 2000000 in
theorem order_lgg (s m t n u k : Int) (w : World) (g1 : -9223372036854775808 ≤ m) (g2 : m ≤ 9223372036854775807) (h1 : -9223372036854775808 ≤ n) (h2 : n ≤ 9223372036854775807) (i1 : -9223372036854775808 ≤ k) (i2 : k ≤ 9223372036854775807) (ht : TabIs4 w)
    (e1 : Hid (cpN s m t n = -1)) (e2 : Hid (cpB s m t n = true)) (e3 : Hid (cpN t n u k = 1)) (e4 : Hid (cpB t n u k = true)) (e5 : Hid (cpN s m u k = 1)) (e6 : Hid (cpB s m u k = true)) (e7 : Hid (cpN t n s m = 1)) (e8 : Hid (cpB t n s m = true)) :
    Calls Tryz.prog 9 #[AV s m, AV t n, AV u k] w fun e w' => e = .returned (.bool true) ∧ Below w.heap.size w w' := by
  go_enter Tryz.func9, Tryz.ntmps9
  go_wp2_with fail
  refine (Cmp_is _ _ _ _ _ _ _ g1 g2 h1 h2 e1.out e2.out).mono ?_
  rintro e w1 ⟨rfl, hb⟩
  have HB : Hid (Below w.heap.size w w1) := end3 hb
  have ht := cell_later hb (alC _ (alC _ (alC _ ht)))
  obtain ⟨c1, c2, c3, c4, c5, c6⟩ := box3 w s m t n u k
  have c1 := cell_later hb c1
  have c2 := cell_later hb c2
  have c3 := cell_later hb c3
  have c4 := cell_later hb c4
  have c5 := cell_later hb c5
  have c6 := cell_later hb c6
  clear hb
  go_wp2_with fail
  refine (Cmp_is _ _ _ _ _ _ _ h1 h2 i1 i2 e3.out e4.out).mono ?_
  rintro e w2 ⟨rfl, hb⟩
  have HB := chain HB hb
  have ht := cell_later hb ht
  have c1 := cell_later hb c1
  have c2 := cell_later hb c2
  have c3 := cell_later hb c3
  have c4 := cell_later hb c4
  have c5 := cell_later hb c5
  have c6 := cell_later hb c6
  clear hb
  go_wp2_with fail
  refine (Cmp_is _ _ _ _ _ _ _ g1 g2 i1 i2 e5.out e6.out).mono ?_
  rintro e w3 ⟨rfl, hb⟩
  have HB := chain HB hb
  have ht := cell_later hb ht
  have c1 := cell_later hb c1
  have c2 := cell_later hb c2
  have c3 := cell_later hb c3
  have c4 := cell_later hb c4
  have c5 := cell_later hb c5
  have c6 := cell_later hb c6
  clear hb
  go_wp2_with fail
  refine (Cmp_is _ _ _ _ _ _ _ h1 h2 g1 g2 e7.out e8.out).mono ?_
  rintro e w4 ⟨rfl, hb⟩
  have HB := chain HB hb
  have ht := cell_later hb ht
  clear hb c1 c2 c3 c4 c5 c6
  go_wp2_with (first | (go_at_call 25; refine (alive_any _ (by exact ht)).mono ?_; rintro e wz ⟨rfl, hb⟩; have HB := chain HB hb; clear hb))
  go_ret
  exact ⟨rfl, HB.out⟩

set_option maxHeartbeats 2000000 in
theorem order_ell (s m t n u k : Int) (w : World) (g1 : -9223372036854775808 ≤ m) (g2 : m ≤ 9223372036854775807) (h1 : -9223372036854775808 ≤ n) (h2 : n ≤ 9223372036854775807) (i1 : -9223372036854775808 ≤ k) (i2 : k ≤ 9223372036854775807) (ht : TabIs4 w)
    (e1 : Hid (cpN s m t n = 0)) (e2 : Hid (cpB s m t n = true)) (e3 : Hid (cpN t n u k = -1)) (e4 : Hid (cpB t n u k = true)) (e5 : Hid (cpN s m u k = -1)) (e6 : Hid (cpB s m u k = true)) (e7 : Hid (cpN t n s m = 0)) (e8 : Hid (cpB t n s m = true)) :
    Calls Tryz.prog 9 #[AV s m, AV t n, AV u k] w fun e w' => e = .returned (.bool true) ∧ Below w.heap.size w w' := by
  go_enter Tryz.func9, Tryz.ntmps9
  go_wp2_with fail
  refine (Cmp_is _ _ _ _ _ _ _ g1 g2 h1 h2 e1.out e2.out).mono ?_
  rintro e w1 ⟨rfl, hb⟩
  have HB : Hid (Below w.heap.size w w1) := end3 hb
  have ht := cell_later hb (alC _ (alC _ (alC _ ht)))
  obtain ⟨c1, c2, c3, c4, c5, c6⟩ := box3 w s m t n u k
  have c1 := cell_later hb c1
  have c2 := cell_later hb c2
  have c3 := cell_later hb c3
  have c4 := cell_later hb c4
  have c5 := cell_later hb c5
  have c6 := cell_later hb c6
  clear hb
  go_wp2_with fail
  refine (Cmp_is _ _ _ _ _ _ _ h1 h2 i1 i2 e3.out e4.out).mono ?_
  rintro e w2 ⟨rfl, hb⟩
  have HB := chain HB hb
  have ht := cell_later hb ht
  have c1 := cell_later hb c1
  have c2 := cell_later hb c2
  have c3 := cell_later hb c3
  have c4 := cell_later hb c4
  have c5 := cell_later hb c5
  have c6 := cell_later hb c6
  clear hb
  go_wp2_with fail
  refine (Cmp_is _ _ _ _ _ _ _ g1 g2 i1 i2 e5.out e6.out).mono ?_
  rintro e w3 ⟨rfl, hb⟩
  have HB := chain HB hb
  have ht := cell_later hb ht
  have c1 := cell_later hb c1
  have c2 := cell_later hb c2
  have c3 := cell_later hb c3
  have c4 := cell_later hb c4
  have c5 := cell_later hb c5
  have c6 := cell_later hb c6
  clear hb
  go_wp2_with fail
  refine (Cmp_is _ _ _ _ _ _ _ h1 h2 g1 g2 e7.out e8.out).mono ?_
  rintro e w4 ⟨rfl, hb⟩
  have HB := chain HB hb
  have ht := cell_later hb ht
  clear hb c1 c2 c3 c4 c5 c6
  go_wp2_with (first | (go_at_call 25; refine (alive_any _ (by exact ht)).mono ?_; rintro e wz ⟨rfl, hb⟩; have HB := chain HB hb; clear hb))
  go_ret
  exact ⟨rfl, HB.out⟩

set_option maxHeartbeats 2000000 in
theorem order_eee (s m t n u k : Int) (w : World) (g1 : -9223372036854775808 ≤ m) (g2 : m ≤ 9223372036854775807) (h1 : -9223372036854775808 ≤ n) (h2 : n ≤ 9223372036854775807) (i1 : -9223372036854775808 ≤ k) (i2 : k ≤ 9223372036854775807) (ht : TabIs4 w)
    (e1 : Hid (cpN s m t n = 0)) (e2 : Hid (cpB s m t n = true)) (e3 : Hid (cpN t n u k = 0)) (e4 : Hid (cpB t n u k = true)) (e5 : Hid (cpN s m u k = 0)) (e6 : Hid (cpB s m u k = true)) (e7 : Hid (cpN t n s m = 0)) (e8 : Hid (cpB t n s m = true)) :
    Calls Tryz.prog 9 #[AV s m, AV t n, AV u k] w fun e w' => e = .returned (.bool true) ∧ Below w.heap.size w w' := by
  go_enter Tryz.func9, Tryz.ntmps9
  go_wp2_with fail
  refine (Cmp_is _ _ _ _ _ _ _ g1 g2 h1 h2 e1.out e2.out).mono ?_
  rintro e w1 ⟨rfl, hb⟩
  have HB : Hid (Below w.heap.size w w1) := end3 hb
  have ht := cell_later hb (alC _ (alC _ (alC _ ht)))
  obtain ⟨c1, c2, c3, c4, c5, c6⟩ := box3 w s m t n u k
  have c1 := cell_later hb c1
  have c2 := cell_later hb c2
  have c3 := cell_later hb c3
  have c4 := cell_later hb c4
  have c5 := cell_later hb c5
  have c6 := cell_later hb c6
  clear hb
  go_wp2_with fail
  refine (Cmp_is _ _ _ _ _ _ _ h1 h2 i1 i2 e3.out e4.out).mono ?_
  rintro e w2 ⟨rfl, hb⟩
  have HB := chain HB hb
  have ht := cell_later hb ht
  have c1 := cell_later hb c1
  have c2 := cell_later hb c2
  have c3 := cell_later hb c3
  have c4 := cell_later hb c4
  have c5 := cell_later hb c5
  have c6 := cell_later hb c6
  clear hb
  go_wp2_with fail
  refine (Cmp_is _ _ _ _ _ _ _ g1 g2 i1 i2 e5.out e6.out).mono ?_
  rintro e w3 ⟨rfl, hb⟩
  have HB := chain HB hb
  have ht := cell_later hb ht
  have c1 := cell_later hb c1
  have c2 := cell_later hb c2
  have c3 := cell_later hb c3
  have c4 := cell_later hb c4
  have c5 := cell_later hb c5
  have c6 := cell_later hb c6
  clear hb
  go_wp2_with fail
  refine (Cmp_is _ _ _ _ _ _ _ h1 h2 g1 g2 e7.out e8.out).mono ?_
  rintro e w4 ⟨rfl, hb⟩
  have HB := chain HB hb
  have ht := cell_later hb ht
  clear hb c1 c2 c3 c4 c5 c6
  go_wp2_with (first | (go_at_call 25; refine (alive_any _ (by exact ht)).mono ?_; rintro e wz ⟨rfl, hb⟩; have HB := chain HB hb; clear hb))
  go_ret
  exact ⟨rfl, HB.out⟩

set_option maxHeartbeats 2000000 in
theorem order_egg (s m t n u k : Int) (w : World) (g1 : -9223372036854775808 ≤ m) (g2 : m ≤ 9223372036854775807) (h1 : -9223372036854775808 ≤ n) (h2 : n ≤ 9223372036854775807) (i1 : -9223372036854775808 ≤ k) (i2 : k ≤ 9223372036854775807) (ht : TabIs4 w)
    (e1 : Hid (cpN s m t n = 0)) (e2 : Hid (cpB s m t n = true)) (e3 : Hid (cpN t n u k = 1)) (e4 : Hid (cpB t n u k = true)) (e5 : Hid (cpN s m u k = 1)) (e6 : Hid (cpB s m u k = true)) (e7 : Hid (cpN t n s m = 0)) (e8 : Hid (cpB t n s m = true)) :
    Calls Tryz.prog 9 #[AV s m, AV t n, AV u k] w fun e w' => e = .returned (.bool true) ∧ Below w.heap.size w w' := by
  go_enter Tryz.func9, Tryz.ntmps9
  go_wp2_with fail
  refine (Cmp_is _ _ _ _ _ _ _ g1 g2 h1 h2 e1.out e2.out).mono ?_
  rintro e w1 ⟨rfl, hb⟩
  have HB : Hid (Below w.heap.size w w1) := end3 hb
  have ht := cell_later hb (alC _ (alC _ (alC _ ht)))
  obtain ⟨c1, c2, c3, c4, c5, c6⟩ := box3 w s m t n u k
  have c1 := cell_later hb c1
  have c2 := cell_later hb c2
  have c3 := cell_later hb c3
  have c4 := cell_later hb c4
  have c5 := cell_later hb c5
  have c6 := cell_later hb c6
  clear hb
  go_wp2_with fail
  refine (Cmp_is _ _ _ _ _ _ _ h1 h2 i1 i2 e3.out e4.out).mono ?_
  rintro e w2 ⟨rfl, hb⟩
  have HB := chain HB hb
  have ht := cell_later hb ht
  have c1 := cell_later hb c1
  have c2 := cell_later hb c2
  have c3 := cell_later hb c3
  have c4 := cell_later hb c4
  have c5 := cell_later hb c5
  have c6 := cell_later hb c6
  clear hb
  go_wp2_with fail
  refine (Cmp_is _ _ _ _ _ _ _ g1 g2 i1 i2 e5.out e6.out).mono ?_
  rintro e w3 ⟨rfl, hb⟩
  have HB := chain HB hb
  have ht := cell_later hb ht
  have c1 := cell_later hb c1
  have c2 := cell_later hb c2
  have c3 := cell_later hb c3
  have c4 := cell_later hb c4
  have c5 := cell_later hb c5
  have c6 := cell_later hb c6
  clear hb
  go_wp2_with fail
  refine (Cmp_is _ _ _ _ _ _ _ h1 h2 g1 g2 e7.out e8.out).mono ?_
  rintro e w4 ⟨rfl, hb⟩
  have HB := chain HB hb
  have ht := cell_later hb ht
  clear hb c1 c2 c3 c4 c5 c6
  go_wp2_with (first | (go_at_call 25; refine (alive_any _ (by exact ht)).mono ?_; rintro e wz ⟨rfl, hb⟩; have HB := chain HB hb; clear hb))
  go_ret
  exact ⟨rfl, HB.out⟩

set_option maxHeartbeats 2000000 in
theorem order_gll (s m t n u k : Int) (w : World) (g1 : -9223372036854775808 ≤ m) (g2 : m ≤ 9223372036854775807) (h1 : -9223372036854775808 ≤ n) (h2 : n ≤ 9223372036854775807) (i1 : -9223372036854775808 ≤ k) (i2 : k ≤ 9223372036854775807) (ht : TabIs4 w)
    (e1 : Hid (cpN s m t n = 1)) (e2 : Hid (cpB s m t n = true)) (e3 : Hid (cpN t n u k = -1)) (e4 : Hid (cpB t n u k = true)) (e5 : Hid (cpN s m u k = -1)) (e6 : Hid (cpB s m u k = true)) (e7 : Hid (cpN t n s m = -1)) (e8 : Hid (cpB t n s m = true)) :
    Calls Tryz.prog 9 #[AV s m, AV t n, AV u k] w fun e w' => e = .returned (.bool true) ∧ Below w.heap.size w w' := by
  go_enter Tryz.func9, Tryz.ntmps9
  go_wp2_with fail
  refine (Cmp_is _ _ _ _ _ _ _ g1 g2 h1 h2 e1.out e2.out).mono ?_
  rintro e w1 ⟨rfl, hb⟩
  have HB : Hid (Below w.heap.size w w1) := end3 hb
  have ht := cell_later hb (alC _ (alC _ (alC _ ht)))
  obtain ⟨c1, c2, c3, c4, c5, c6⟩ := box3 w s m t n u k
  have c1 := cell_later hb c1
  have c2 := cell_later hb c2
  have c3 := cell_later hb c3
  have c4 := cell_later hb c4
  have c5 := cell_later hb c5
  have c6 := cell_later hb c6
  clear hb
  go_wp2_with fail
  refine (Cmp_is _ _ _ _ _ _ _ h1 h2 i1 i2 e3.out e4.out).mono ?_
  rintro e w2 ⟨rfl, hb⟩
  have HB := chain HB hb
  have ht := cell_later hb ht
  have c1 := cell_later hb c1
  have c2 := cell_later hb c2
  have c3 := cell_later hb c3
  have c4 := cell_later hb c4
  have c5 := cell_later hb c5
  have c6 := cell_later hb c6
  clear hb
  go_wp2_with fail
  refine (Cmp_is _ _ _ _ _ _ _ g1 g2 i1 i2 e5.out e6.out).mono ?_
  rintro e w3 ⟨rfl, hb⟩
  have HB := chain HB hb
  have ht := cell_later hb ht
  have c1 := cell_later hb c1
  have c2 := cell_later hb c2
  have c3 := cell_later hb c3
  have c4 := cell_later hb c4
  have c5 := cell_later hb c5
  have c6 := cell_later hb c6
  clear hb
  go_wp2_with fail
  refine (Cmp_is _ _ _ _ _ _ _ h1 h2 g1 g2 e7.out e8.out).mono ?_
  rintro e w4 ⟨rfl, hb⟩
  have HB := chain HB hb
  have ht := cell_later hb ht
  clear hb c1 c2 c3 c4 c5 c6
  go_wp2_with (first | (go_at_call 25; refine (alive_any _ (by exact ht)).mono ?_; rintro e wz ⟨rfl, hb⟩; have HB := chain HB hb; clear hb))
  go_ret
  exact ⟨rfl, HB.out⟩

set_option maxHeartbeats 2000000 in
theorem order_gle (s m t n u k : Int) (w : World) (g1 : -9223372036854775808 ≤ m) (g2 : m ≤ 9223372036854775807) (h1 : -9223372036854775808 ≤ n) (h2 : n ≤ 9223372036854775807) (i1 : -9223372036854775808 ≤ k) (i2 : k ≤ 9223372036854775807) (ht : TabIs4 w)
    (e1 : Hid (cpN s m t n = 1)) (e2 : Hid (cpB s m t n = true)) (e3 : Hid (cpN t n u k = -1)) (e4 : Hid (cpB t n u k = true)) (e5 : Hid (cpN s m u k = 0)) (e6 : Hid (cpB s m u k = true)) (e7 : Hid (cpN t n s m = -1)) (e8 : Hid (cpB t n s m = true)) :
    Calls Tryz.prog 9 #[AV s m, AV t n, AV u k] w fun e w' => e = .returned (.bool true) ∧ Below w.heap.size w w' := by
  go_enter Tryz.func9, Tryz.ntmps9
  go_wp2_with fail
  refine (Cmp_is _ _ _ _ _ _ _ g1 g2 h1 h2 e1.out e2.out).mono ?_
  rintro e w1 ⟨rfl, hb⟩
  have HB : Hid (Below w.heap.size w w1) := end3 hb
  have ht := cell_later hb (alC _ (alC _ (alC _ ht)))
  obtain ⟨c1, c2, c3, c4, c5, c6⟩ := box3 w s m t n u k
  have c1 := cell_later hb c1
  have c2 := cell_later hb c2
  have c3 := cell_later hb c3
  have c4 := cell_later hb c4
  have c5 := cell_later hb c5
  have c6 := cell_later hb c6
  clear hb
  go_wp2_with fail
  refine (Cmp_is _ _ _ _ _ _ _ h1 h2 i1 i2 e3.out e4.out).mono ?_
  rintro e w2 ⟨rfl, hb⟩
  have HB := chain HB hb
  have ht := cell_later hb ht
  have c1 := cell_later hb c1
  have c2 := cell_later hb c2
  have c3 := cell_later hb c3
  have c4 := cell_later hb c4
  have c5 := cell_later hb c5
  have c6 := cell_later hb c6
  clear hb
  go_wp2_with fail
  refine (Cmp_is _ _ _ _ _ _ _ g1 g2 i1 i2 e5.out e6.out).mono ?_
  rintro e w3 ⟨rfl, hb⟩
  have HB := chain HB hb
  have ht := cell_later hb ht
  have c1 := cell_later hb c1
  have c2 := cell_later hb c2
  have c3 := cell_later hb c3
  have c4 := cell_later hb c4
  have c5 := cell_later hb c5
  have c6 := cell_later hb c6
  clear hb
  go_wp2_with fail
  refine (Cmp_is _ _ _ _ _ _ _ h1 h2 g1 g2 e7.out e8.out).mono ?_
  rintro e w4 ⟨rfl, hb⟩
  have HB := chain HB hb
  have ht := cell_later hb ht
  clear hb c1 c2 c3 c4 c5 c6
  go_wp2_with (first | (go_at_call 25; refine (alive_any _ (by exact ht)).mono ?_; rintro e wz ⟨rfl, hb⟩; have HB := chain HB hb; clear hb))
  go_ret
  exact ⟨rfl, HB.out⟩

set_option maxHeartbeats 2000000 in
theorem order_glg (s m t n u k : Int) (w : World) (g1 : -9223372036854775808 ≤ m) (g2 : m ≤ 9223372036854775807) (h1 : -9223372036854775808 ≤ n) (h2 : n ≤ 9223372036854775807) (i1 : -9223372036854775808 ≤ k) (i2 : k ≤ 9223372036854775807) (ht : TabIs4 w)
    (e1 : Hid (cpN s m t n = 1)) (e2 : Hid (cpB s m t n = true)) (e3 : Hid (cpN t n u k = -1)) (e4 : Hid (cpB t n u k = true)) (e5 : Hid (cpN s m u k = 1)) (e6 : Hid (cpB s m u k = true)) (e7 : Hid (cpN t n s m = -1)) (e8 : Hid (cpB t n s m = true)) :
    Calls Tryz.prog 9 #[AV s m, AV t n, AV u k] w fun e w' => e = .returned (.bool true) ∧ Below w.heap.size w w' := by
  go_enter Tryz.func9, Tryz.ntmps9
  go_wp2_with fail
  refine (Cmp_is _ _ _ _ _ _ _ g1 g2 h1 h2 e1.out e2.out).mono ?_
  rintro e w1 ⟨rfl, hb⟩
  have HB : Hid (Below w.heap.size w w1) := end3 hb
  have ht := cell_later hb (alC _ (alC _ (alC _ ht)))
  obtain ⟨c1, c2, c3, c4, c5, c6⟩ := box3 w s m t n u k
  have c1 := cell_later hb c1
  have c2 := cell_later hb c2
  have c3 := cell_later hb c3
  have c4 := cell_later hb c4
  have c5 := cell_later hb c5
  have c6 := cell_later hb c6
  clear hb
  go_wp2_with fail
  refine (Cmp_is _ _ _ _ _ _ _ h1 h2 i1 i2 e3.out e4.out).mono ?_
  rintro e w2 ⟨rfl, hb⟩
  have HB := chain HB hb
  have ht := cell_later hb ht
  have c1 := cell_later hb c1
  have c2 := cell_later hb c2
  have c3 := cell_later hb c3
  have c4 := cell_later hb c4
  have c5 := cell_later hb c5
  have c6 := cell_later hb c6
  clear hb
  go_wp2_with fail
  refine (Cmp_is _ _ _ _ _ _ _ g1 g2 i1 i2 e5.out e6.out).mono ?_
  rintro e w3 ⟨rfl, hb⟩
  have HB := chain HB hb
  have ht := cell_later hb ht
  have c1 := cell_later hb c1
  have c2 := cell_later hb c2
  have c3 := cell_later hb c3
  have c4 := cell_later hb c4
  have c5 := cell_later hb c5
  have c6 := cell_later hb c6
  clear hb
  go_wp2_with fail
  refine (Cmp_is _ _ _ _ _ _ _ h1 h2 g1 g2 e7.out e8.out).mono ?_
  rintro e w4 ⟨rfl, hb⟩
  have HB := chain HB hb
  have ht := cell_later hb ht
  clear hb c1 c2 c3 c4 c5 c6
  go_wp2_with (first | (go_at_call 25; refine (alive_any _ (by exact ht)).mono ?_; rintro e wz ⟨rfl, hb⟩; have HB := chain HB hb; clear hb))
  go_ret
  exact ⟨rfl, HB.out⟩

set_option maxHeartbeats 2000000 in
theorem order_geg (s m t n u k : Int) (w : World) (g1 : -9223372036854775808 ≤ m) (g2 : m ≤ 9223372036854775807) (h1 : -9223372036854775808 ≤ n) (h2 : n ≤ 9223372036854775807) (i1 : -9223372036854775808 ≤ k) (i2 : k ≤ 9223372036854775807) (ht : TabIs4 w)
    (e1 : Hid (cpN s m t n = 1)) (e2 : Hid (cpB s m t n = true)) (e3 : Hid (cpN t n u k = 0)) (e4 : Hid (cpB t n u k = true)) (e5 : Hid (cpN s m u k = 1)) (e6 : Hid (cpB s m u k = true)) (e7 : Hid (cpN t n s m = -1)) (e8 : Hid (cpB t n s m = true)) :
    Calls Tryz.prog 9 #[AV s m, AV t n, AV u k] w fun e w' => e = .returned (.bool true) ∧ Below w.heap.size w w' := by
  go_enter Tryz.func9, Tryz.ntmps9
  go_wp2_with fail
  refine (Cmp_is _ _ _ _ _ _ _ g1 g2 h1 h2 e1.out e2.out).mono ?_
  rintro e w1 ⟨rfl, hb⟩
  have HB : Hid (Below w.heap.size w w1) := end3 hb
  have ht := cell_later hb (alC _ (alC _ (alC _ ht)))
  obtain ⟨c1, c2, c3, c4, c5, c6⟩ := box3 w s m t n u k
  have c1 := cell_later hb c1
  have c2 := cell_later hb c2
  have c3 := cell_later hb c3
  have c4 := cell_later hb c4
  have c5 := cell_later hb c5
  have c6 := cell_later hb c6
  clear hb
  go_wp2_with fail
  refine (Cmp_is _ _ _ _ _ _ _ h1 h2 i1 i2 e3.out e4.out).mono ?_
  rintro e w2 ⟨rfl, hb⟩
  have HB := chain HB hb
  have ht := cell_later hb ht
  have c1 := cell_later hb c1
  have c2 := cell_later hb c2
  have c3 := cell_later hb c3
  have c4 := cell_later hb c4
  have c5 := cell_later hb c5
  have c6 := cell_later hb c6
  clear hb
  go_wp2_with fail
  refine (Cmp_is _ _ _ _ _ _ _ g1 g2 i1 i2 e5.out e6.out).mono ?_
  rintro e w3 ⟨rfl, hb⟩
  have HB := chain HB hb
  have ht := cell_later hb ht
  have c1 := cell_later hb c1
  have c2 := cell_later hb c2
  have c3 := cell_later hb c3
  have c4 := cell_later hb c4
  have c5 := cell_later hb c5
  have c6 := cell_later hb c6
  clear hb
  go_wp2_with fail
  refine (Cmp_is _ _ _ _ _ _ _ h1 h2 g1 g2 e7.out e8.out).mono ?_
  rintro e w4 ⟨rfl, hb⟩
  have HB := chain HB hb
  have ht := cell_later hb ht
  clear hb c1 c2 c3 c4 c5 c6
  go_wp2_with (first | (go_at_call 25; refine (alive_any _ (by exact ht)).mono ?_; rintro e wz ⟨rfl, hb⟩; have HB := chain HB hb; clear hb))
  go_ret
  exact ⟨rfl, HB.out⟩

set_option maxHeartbeats 2000000 in
theorem order_ggg (s m t n u k : Int) (w : World) (g1 : -9223372036854775808 ≤ m) (g2 : m ≤ 9223372036854775807) (h1 : -9223372036854775808 ≤ n) (h2 : n ≤ 9223372036854775807) (i1 : -9223372036854775808 ≤ k) (i2 : k ≤ 9223372036854775807) (ht : TabIs4 w)
    (e1 : Hid (cpN s m t n = 1)) (e2 : Hid (cpB s m t n = true)) (e3 : Hid (cpN t n u k = 1)) (e4 : Hid (cpB t n u k = true)) (e5 : Hid (cpN s m u k = 1)) (e6 : Hid (cpB s m u k = true)) (e7 : Hid (cpN t n s m = -1)) (e8 : Hid (cpB t n s m = true)) :
    Calls Tryz.prog 9 #[AV s m, AV t n, AV u k] w fun e w' => e = .returned (.bool true) ∧ Below w.heap.size w w' := by
  go_enter Tryz.func9, Tryz.ntmps9
  go_wp2_with fail
  refine (Cmp_is _ _ _ _ _ _ _ g1 g2 h1 h2 e1.out e2.out).mono ?_
  rintro e w1 ⟨rfl, hb⟩
  have HB : Hid (Below w.heap.size w w1) := end3 hb
  have ht := cell_later hb (alC _ (alC _ (alC _ ht)))
  obtain ⟨c1, c2, c3, c4, c5, c6⟩ := box3 w s m t n u k
  have c1 := cell_later hb c1
  have c2 := cell_later hb c2
  have c3 := cell_later hb c3
  have c4 := cell_later hb c4
  have c5 := cell_later hb c5
  have c6 := cell_later hb c6
  clear hb
  go_wp2_with fail
  refine (Cmp_is _ _ _ _ _ _ _ h1 h2 i1 i2 e3.out e4.out).mono ?_
  rintro e w2 ⟨rfl, hb⟩
  have HB := chain HB hb
  have ht := cell_later hb ht
  have c1 := cell_later hb c1
  have c2 := cell_later hb c2
  have c3 := cell_later hb c3
  have c4 := cell_later hb c4
  have c5 := cell_later hb c5
  have c6 := cell_later hb c6
  clear hb
  go_wp2_with fail
  refine (Cmp_is _ _ _ _ _ _ _ g1 g2 i1 i2 e5.out e6.out).mono ?_
  rintro e w3 ⟨rfl, hb⟩
  have HB := chain HB hb
  have ht := cell_later hb ht
  have c1 := cell_later hb c1
  have c2 := cell_later hb c2
  have c3 := cell_later hb c3
  have c4 := cell_later hb c4
  have c5 := cell_later hb c5
  have c6 := cell_later hb c6
  clear hb
  go_wp2_with fail
  refine (Cmp_is _ _ _ _ _ _ _ h1 h2 g1 g2 e7.out e8.out).mono ?_
  rintro e w4 ⟨rfl, hb⟩
  have HB := chain HB hb
  have ht := cell_later hb ht
  clear hb c1 c2 c3 c4 c5 c6
  go_wp2_with (first | (go_at_call 25; refine (alive_any _ (by exact ht)).mono ?_; rintro e wz ⟨rfl, hb⟩; have HB := chain HB hb; clear hb))
  go_ret
  exact ⟨rfl, HB.out⟩
end Go.Proofs.YtakpmefkddplhaaGreatDoor
