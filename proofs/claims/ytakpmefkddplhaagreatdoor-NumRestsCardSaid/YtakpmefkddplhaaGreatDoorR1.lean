/- NumRests answers true at every two ints. -/
import Derived.Test.YtakpmefkddplhaaGreatDoorA1
import Derived.Test.YtakpmefkddplhaaGreatDoorR0
namespace Go.Proofs.YtakpmefkddplhaaGreatDoor
open Go.RowKit

theorem wh2 (n : Int) : whE 2 n = 0 ∧ whN 2 n = n := ⟨rfl, rfl⟩
theorem dv2 {a b : Int} (hb : ¬ b = 0) : dvE 2 a 2 b = 0 := dv_4 rfl rfl (by rw [(wh2 b).2]; exact hb)

theorem idiv_ints (a b : Int) (w : World) (hb : ¬ b = 0) (g1 : -9223372036854775808 ≤ a) (g2 : a ≤ 9223372036854775807) (h1 : -9223372036854775808 ≤ b) (h2 : b ≤ 9223372036854775807) :
    Calls Tryz.prog 26 #[.int .i64 5, AV 2 a, AV 2 b] w fun e w' => e = .returned (.tuple #[AV 2 (qd a b), .int .i64 0]) ∧ Below w.heap.size w w' := by
  have h := Op_div_5 2 a 2 b w g1 g2 h1 h2 rfl rfl
  unfold dvT dvQ at h
  rw [dv2 hb] at h
  exact h
theorem mod_ints (a b : Int) (w : World) (hb : ¬ b = 0) (g1 : -9223372036854775808 ≤ a) (g2 : a ≤ 9223372036854775807) (h1 : -9223372036854775808 ≤ b) (h2 : b ≤ 9223372036854775807) :
    Calls Tryz.prog 26 #[.int .i64 6, AV 2 a, AV 2 b] w fun e w' => e = .returned (.tuple #[AV 2 (rd a b), .int .i64 0]) ∧ Below w.heap.size w w' := by
  have h := Op_div_6 2 a 2 b w g1 g2 h1 h2 rfl rfl
  unfold dvT dvR at h
  rw [dv2 hb] at h
  exact h
theorem idiv_zero (a : Int) (w : World) (g1 : -9223372036854775808 ≤ a) (g2 : a ≤ 9223372036854775807) :
    Calls Tryz.prog 26 #[.int .i64 5, AV 2 a, AV 2 0] w fun e w' => e = .returned (.tuple #[AV 0 0, .int .i64 11]) ∧ Below w.heap.size w w' := by
  have h := Op_div_5 2 a 2 0 w g1 g2 (by omega) (by omega) rfl rfl
  unfold dvT dvQ at h
  rw [dv_3 (s := 2) (m := a) (t := 2) (n := 0) rfl rfl rfl] at h
  exact h
theorem mod_zero (a : Int) (w : World) (g1 : -9223372036854775808 ≤ a) (g2 : a ≤ 9223372036854775807) :
    Calls Tryz.prog 26 #[.int .i64 6, AV 2 a, AV 2 0] w fun e w' => e = .returned (.tuple #[AV 0 0, .int .i64 11]) ∧ Below w.heap.size w w' := by
  have h := Op_div_6 2 a 2 0 w g1 g2 (by omega) (by omega) rfl rfl
  unfold dvT dvR at h
  rw [dv_3 (s := 2) (m := a) (t := 2) (n := 0) rfl rfl rfl] at h
  exact h

set_option maxHeartbeats 4000000 in
set_option maxRecDepth 100000 in
theorem NumRests_zero (a : Int) (w : World) (g1 : -9223372036854775808 ≤ a) (g2 : a ≤ 9223372036854775807) (ht : TabIs4 w) :
    Calls Tryz.prog 11 #[.int .i64 a, .int .i64 0] w fun e w' => e = .returned (.bool true) ∧ Below w.heap.size w w' := by
  have HB : Hid (Below w.heap.size w w) := Below.refl _ _
  go_enter Tryz.func11, Tryz.ntmps11
  go_wp2_with fail
  refine (Int_any _ _).mono ?_
  rintro e w1 ⟨rfl, hb⟩
  have HB := chain HB hb
  have ht := cell_later hb ht
  clear hb
  go_wp2_with fail
  refine (Int_any _ _).mono ?_
  rintro e w2 ⟨rfl, hb⟩
  have HB := chain HB hb
  have ht := cell_later hb ht
  clear hb
  go_wp2_with fail
  refine (idiv_zero _ _ g1 g2).mono ?_
  rintro e w3 ⟨rfl, hb⟩
  have HB := chain HB hb
  have ht := cell_later hb ht
  clear hb
  have HB := alB (.cells #[(.int .i64 0), (.int .i64 0)] 23) HB
  have ht := alC (.cells #[(.int .i64 0), (.int .i64 0)] 23) ht
  go_wp2_with fail
  refine (Int_any _ _).mono ?_
  rintro e w4 ⟨rfl, hb⟩
  have HB := chain HB hb
  have ht := cell_later hb ht
  clear hb
  go_wp2_with fail
  refine (Int_any _ _).mono ?_
  rintro e w5 ⟨rfl, hb⟩
  have HB := chain HB hb
  have ht := cell_later hb ht
  clear hb
  go_wp2_with fail
  refine (mod_zero _ _ g1 g2).mono ?_
  rintro e w6 ⟨rfl, hb⟩
  have HB := chain HB hb
  have ht := cell_later hb ht
  clear hb
  have HB := alB (.cells #[(.int .i64 0), (.int .i64 0)] 23) HB
  have ht := alC (.cells #[(.int .i64 0), (.int .i64 0)] 23) ht
  go_wp2_with (first | (go_at_call 24; refine (no_any _ _).mono ?_; rintro e w' ⟨rfl, rfl⟩) | (go_at_call 25; refine (alive_any _ (by exact ht)).mono ?_; rintro e wz ⟨rfl, hb⟩; have HB := chain HB hb; clear hb))
  go_ret
  exact ⟨rfl, HB.out⟩

set_option maxHeartbeats 4000000 in
set_option maxRecDepth 100000 in
theorem NumRests_pos (a b : Int) (w : World) (g1 : -9223372036854775808 ≤ a) (g2 : a ≤ 9223372036854775807) (h1 : -9223372036854775808 ≤ b) (h2 : b ≤ 9223372036854775807) (hs : 0 < b) (ht : TabIs4 w) :
    Calls Tryz.prog 11 #[.int .i64 a, .int .i64 b] w fun e w' => e = .returned (.bool true) ∧ Below w.heap.size w w' := by
  have hb0 : ¬ b = 0 := by omega
  have hbz : (b == 0) = false := by simp [hb0]
  have HE : Hid (wrap64 (wrap64 (qd a b * b) + rd a b) = a) := qd_rd a b hb0 g1 g2 h1 h2
  obtain ⟨n1, n2, n3⟩ := rd_near a b hb0 h1 h2
  clear n3
  have near := n1 hs
  clear n1 n2
  obtain ⟨r1, r2⟩ := near
  have HB : Hid (Below w.heap.size w w) := Below.refl _ _
  go_enter Tryz.func11, Tryz.ntmps11
  go_wp2_with fail
  refine (Int_any _ _).mono ?_
  rintro e w1 ⟨rfl, hb⟩
  have HB := chain HB hb
  have ht := cell_later hb ht
  clear hb
  go_wp2_with fail
  refine (Int_any _ _).mono ?_
  rintro e w2 ⟨rfl, hb⟩
  have HB := chain HB hb
  have ht := cell_later hb ht
  clear hb
  go_wp2_with fail
  refine (idiv_ints _ _ _ hb0 g1 g2 h1 h2).mono ?_
  rintro e w3 ⟨rfl, hb⟩
  have HB := chain HB hb
  have ht := cell_later hb ht
  clear hb
  have HB := alB (.cells #[(.int .i64 2), (.int .i64 (qd a b))] 23) HB
  have ht := alC (.cells #[(.int .i64 2), (.int .i64 (qd a b))] 23) ht
  have fq0 := new0 w3 (.int .i64 2) (.int .i64 (qd a b))
  have fq := new1 w3 (.int .i64 2) (.int .i64 (qd a b))
  go_wp2_with fail
  refine (Int_any _ _).mono ?_
  rintro e w4 ⟨rfl, hb⟩
  have HB := chain HB hb
  have ht := cell_later hb ht
  have fq0 := cell_later hb fq0
  have fq := cell_later hb fq
  clear hb
  go_wp2_with fail
  refine (Int_any _ _).mono ?_
  rintro e w5 ⟨rfl, hb⟩
  have HB := chain HB hb
  have ht := cell_later hb ht
  have fq0 := cell_later hb fq0
  have fq := cell_later hb fq
  clear hb
  go_wp2_with fail
  refine (mod_ints _ _ _ hb0 g1 g2 h1 h2).mono ?_
  rintro e w6 ⟨rfl, hb⟩
  have HB := chain HB hb
  have ht := cell_later hb ht
  have fq0 := cell_later hb fq0
  have fq := cell_later hb fq
  clear hb
  have HB := alB (.cells #[(.int .i64 2), (.int .i64 (rd a b))] 23) HB
  have ht := alC (.cells #[(.int .i64 2), (.int .i64 (rd a b))] 23) ht
  have fq0 := alC (.cells #[(.int .i64 2), (.int .i64 (rd a b))] 23) fq0
  have fq := alC (.cells #[(.int .i64 2), (.int .i64 (rd a b))] 23) fq
  have fr0 := new0 w6 (.int .i64 2) (.int .i64 (rd a b))
  have fr := new1 w6 (.int .i64 2) (.int .i64 (rd a b))
  go_wp2_with fail
  generalize hA : w3.heap.size = A at *
  generalize hC : w6.heap.size = C at *
  clear hA hC
  generalize qd a b = q at *
  generalize rd a b = r at *
  have he : (wrap64 (wrap64 (q * b) + r) == a) = true := by rw [HE.out]; simp
  clear HE
  go_wp2_with (first | (go_at_call 24; refine (no_any _ _).mono ?_; rintro e w' ⟨rfl, rfl⟩) | (go_at_call 25; refine (alive_any _ (by exact ht)).mono ?_; rintro e wz ⟨rfl, hb⟩; have HB := chain HB hb; clear hb))
  go_ret
  exact ⟨rfl, HB.out⟩

set_option maxHeartbeats 4000000 in
set_option maxRecDepth 100000 in
theorem NumRests_neg (a b : Int) (w : World) (g1 : -9223372036854775808 ≤ a) (g2 : a ≤ 9223372036854775807) (h1 : -9223372036854775808 ≤ b) (h2 : b ≤ 9223372036854775807) (hs : b < 0) (ht : TabIs4 w) :
    Calls Tryz.prog 11 #[.int .i64 a, .int .i64 b] w fun e w' => e = .returned (.bool true) ∧ Below w.heap.size w w' := by
  have hb0 : ¬ b = 0 := by omega
  have hbz : (b == 0) = false := by simp [hb0]
  have HE : Hid (wrap64 (wrap64 (qd a b * b) + rd a b) = a) := qd_rd a b hb0 g1 g2 h1 h2
  obtain ⟨n1, n2, n3⟩ := rd_near a b hb0 h1 h2
  clear n3
  have near := n2 hs
  clear n1 n2
  obtain ⟨r1, r2⟩ := near
  have HB : Hid (Below w.heap.size w w) := Below.refl _ _
  go_enter Tryz.func11, Tryz.ntmps11
  go_wp2_with fail
  refine (Int_any _ _).mono ?_
  rintro e w1 ⟨rfl, hb⟩
  have HB := chain HB hb
  have ht := cell_later hb ht
  clear hb
  go_wp2_with fail
  refine (Int_any _ _).mono ?_
  rintro e w2 ⟨rfl, hb⟩
  have HB := chain HB hb
  have ht := cell_later hb ht
  clear hb
  go_wp2_with fail
  refine (idiv_ints _ _ _ hb0 g1 g2 h1 h2).mono ?_
  rintro e w3 ⟨rfl, hb⟩
  have HB := chain HB hb
  have ht := cell_later hb ht
  clear hb
  have HB := alB (.cells #[(.int .i64 2), (.int .i64 (qd a b))] 23) HB
  have ht := alC (.cells #[(.int .i64 2), (.int .i64 (qd a b))] 23) ht
  have fq0 := new0 w3 (.int .i64 2) (.int .i64 (qd a b))
  have fq := new1 w3 (.int .i64 2) (.int .i64 (qd a b))
  go_wp2_with fail
  refine (Int_any _ _).mono ?_
  rintro e w4 ⟨rfl, hb⟩
  have HB := chain HB hb
  have ht := cell_later hb ht
  have fq0 := cell_later hb fq0
  have fq := cell_later hb fq
  clear hb
  go_wp2_with fail
  refine (Int_any _ _).mono ?_
  rintro e w5 ⟨rfl, hb⟩
  have HB := chain HB hb
  have ht := cell_later hb ht
  have fq0 := cell_later hb fq0
  have fq := cell_later hb fq
  clear hb
  go_wp2_with fail
  refine (mod_ints _ _ _ hb0 g1 g2 h1 h2).mono ?_
  rintro e w6 ⟨rfl, hb⟩
  have HB := chain HB hb
  have ht := cell_later hb ht
  have fq0 := cell_later hb fq0
  have fq := cell_later hb fq
  clear hb
  have HB := alB (.cells #[(.int .i64 2), (.int .i64 (rd a b))] 23) HB
  have ht := alC (.cells #[(.int .i64 2), (.int .i64 (rd a b))] 23) ht
  have fq0 := alC (.cells #[(.int .i64 2), (.int .i64 (rd a b))] 23) fq0
  have fq := alC (.cells #[(.int .i64 2), (.int .i64 (rd a b))] 23) fq
  have fr0 := new0 w6 (.int .i64 2) (.int .i64 (rd a b))
  have fr := new1 w6 (.int .i64 2) (.int .i64 (rd a b))
  go_wp2_with fail
  generalize hA : w3.heap.size = A at *
  generalize hC : w6.heap.size = C at *
  clear hA hC
  generalize qd a b = q at *
  generalize rd a b = r at *
  have he : (wrap64 (wrap64 (q * b) + r) == a) = true := by rw [HE.out]; simp
  clear HE
  go_wp2_with (first | (go_at_call 24; refine (no_any _ _).mono ?_; rintro e w' ⟨rfl, rfl⟩) | (go_at_call 25; refine (alive_any _ (by exact ht)).mono ?_; rintro e wz ⟨rfl, hb⟩; have HB := chain HB hb; clear hb))
  go_ret
  exact ⟨rfl, HB.out⟩
end Go.Proofs.YtakpmefkddplhaaGreatDoor
