/- The document's Cmp whole, and NumCompares: both answers are the same at every two values. -/
import Derived.Test.YtakpmefkddplhaaGreatDoorRC2
import Derived.Test.YtakpmefkddplhaaGreatDoorA1
namespace Go.Proofs.YtakpmefkddplhaaGreatDoor
open Go.RowKit

theorem RCmp_any (s m t n : Int) (w : World) (g1 : -9223372036854775808 ≤ m) (g2 : m ≤ 9223372036854775807) (h1 : -9223372036854775808 ≤ n) (h2 : n ≤ 9223372036854775807) :
    Calls Tryz.prog 33 #[AV s m, AV t n] w fun e w' => e = .returned (.tuple #[.int .i64 (cpN s m t n), .bool (cpB s m t n)]) ∧ Below w.heap.size w w' := by
  have q1 := plc_eq (t := s) g1 g2
  have q2 := plc_eq (t := t) h1 h2
  cases i1 : isNum s m
  · have p1 : plc s m = false := by rw [q1, i1]; rfl
    rw [show cpN s m t n = 0 by simp [cpN, p1], show cpB s m t n = false by simp [cpB, p1]]
    exact RCmp_a s m t n w i1
  cases i2 : isNum t n
  · have p2 : plc t n = false := by rw [q2, i2]; rfl
    rw [show cpN s m t n = 0 by simp [cpN, p2], show cpB s m t n = false by simp [cpB, p2]]
    exact RCmp_b s m t n w i1 i2
  cases p1 : plc s m
  · rw [show cpN s m t n = 0 by simp [cpN, p1], show cpB s m t n = false by simp [cpB, p1]]
    have : s = 3 ∧ m = 9221120237041090561 := by rw [q1, i1] at p1; simpa using p1
    obtain ⟨rfl, rfl⟩ := this
    exact RCmp_c t n w i1 i2
  cases p2 : plc t n
  · rw [show cpN s m t n = 0 by simp [cpN, p2], show cpB s m t n = false by simp [cpB, p2]]
    have : t = 3 ∧ n = 9221120237041090561 := by rw [q2, i2] at p2; simpa using p2
    obtain ⟨rfl, rfl⟩ := this
    rcases plc_cases p1 with rfl | ⟨rfl, x1⟩
    · exact RCmp_d2 m w i1 i2
    · refine RCmp_d3 m w ?_ i1 i2
      rintro rfl
      rw [nanC] at x1; cases x1
  rw [show cpN s m t n = Fm.cmpV (vv s m) (vv t n) by simp [cpN, p1, p2], show cpB s m t n = true by simp [cpB, p1, p2]]
  clear q1 q2
  rcases plc_cases p1 with rfl | ⟨rfl, x1⟩ <;> rcases plc_cases p2 with rfl | ⟨rfl, x2⟩
  · rw [show vv 2 m = Fm.ival m from rfl, show vv 2 n = Fm.ival n from rfl]
    rcases Fm.cmpV_cases m n with ⟨h, e⟩ | ⟨h, e⟩ | ⟨h, e⟩
    · rw [Fm.cmpV_lt (Fm.ival_lt.2 h)]; exact RCmp_22lt m n w h i1 i2
    · subst h; rw [Fm.cmpV_self]; exact RCmp_22eq m m w (by omega) (by omega) i1 i2
    · rw [Fm.cmpV_gt (Fm.ival_lt.2 h)]; exact RCmp_22gt m n w h i1 i2
  · have hn : ¬ n = 9221120237041090561 := by rintro rfl; rw [nanC] at x2; cases x2
    exact RCmp_23 m n w g1 g2 hn x2 i1 i2
  · have hm : ¬ m = 9221120237041090561 := by rintro rfl; rw [nanC] at x1; cases x1
    have := RCmp_32 m n w h1 h2 hm x1 i1 i2
    rw [wrap_cmp] at this
    exact this
  · have hn : ¬ n = 9221120237041090561 := by rintro rfl; rw [nanC] at x2; cases x2
    have hm : ¬ m = 9221120237041090561 := by rintro rfl; rw [nanC] at x1; cases x1
    have q3 := lt_f x1 x2
    have q4 := gt_f x1 x2
    rw [show vv 3 m = Fm.val (B m) from rfl, show vv 3 n = Fm.val (B n) from rfl]
    rcases Fm.cmpV_cases (Fm.val (B m)) (Fm.val (B n)) with ⟨h, e⟩ | ⟨h, e⟩ | ⟨h, e⟩ <;> rw [e]
    · rw [decide_eq_true h] at q3; exact RCmp_33lt m n w hm hn i1 i2 q3
    · rw [decide_eq_false (by omega)] at q3 q4; exact RCmp_33eq m n w hm hn i1 i2 q3 q4
    · rw [decide_eq_false (by omega)] at q3; rw [decide_eq_true h] at q4; exact RCmp_33gt m n w hm hn i1 i2 q3 q4

set_option maxHeartbeats 4000000 in
set_option maxRecDepth 100000 in
theorem NumCompares_any (s m t n : Int) (w : World) (g1 : -9223372036854775808 ≤ m) (g2 : m ≤ 9223372036854775807) (h1 : -9223372036854775808 ≤ n) (h2 : n ≤ 9223372036854775807) (ht : TabIs4 w) :
    Calls Tryz.prog 6 #[AV s m, AV t n] w fun e w' => e = .returned (.bool true) ∧ Below w.heap.size w w' := by
  go_enter Tryz.func6, Tryz.ntmps6
  go_wp2_with fail
  refine (Cmp_any _ _ _ _ _ g1 g2 h1 h2).mono ?_
  rintro e w1 ⟨rfl, hb⟩
  obtain ⟨c1, c2, c3, c4⟩ := box2 hb
  have HB : Hid (Below w.heap.size w w1) := end2 hb
  have ht := cell_later hb (alC _ (alC _ ht))
  clear hb
  go_wp2_with fail
  refine (RCmp_any _ _ _ _ _ g1 g2 h1 h2).mono ?_
  rintro e w2 ⟨rfl, hb⟩
  have HB := chain HB hb
  have ht := cell_later hb ht
  clear hb c1 c2 c3 c4
  generalize cpN s m t n = N at *
  generalize cpB s m t n = E at *
  go_wp2_with (first | (go_at_call 25; refine (alive_any _ (by exact ht)).mono ?_; rintro e wz ⟨rfl, hb⟩; have HB := chain HB hb; clear hb))
  go_ret
  exact ⟨rfl, HB.out⟩
end Go.Proofs.YtakpmefkddplhaaGreatDoor
