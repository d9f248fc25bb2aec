/- NumBack answers true at every value. -/
import Derived.Test.YtdpdpgnpkmfooaaGreatDoorB4
import Derived.Test.YtdpdpgnpkmfooaaGreatDoorA1
import Derived.Deep.RegionHeld3
namespace Go.Proofs.YtdpdpgnpkmfooaaGreatDoor
open Go.RowKit

set_option maxHeartbeats 4000000 in
set_option maxRecDepth 100000 in
theorem NumBack_num (s m : Int) (S : ByteArray) (w : World) (g1 : -9223372036854775808 ≤ m) (g2 : m ≤ 9223372036854775807) (hi : isNum s m = true) (ht : TabIs4 w)
    (TX : Hid (∀ w1, Below w.heap.size w w1 → Calls Tryz.prog 36 #[AV s m] w1 fun e w' => e = .returned (.string S) ∧ Below w1.heap.size w1 w'))
    (RD : Hid (∀ w1, Calls Tryz.prog 34 #[.string S] w1 fun e w' => e = .returned (.tuple #[AV s m, .int .i64 0]) ∧ Below w1.heap.size w1 w')) :
    Calls Tryz.prog 8 #[AV s m] w fun e w' => e = .returned (.bool true) ∧ Below w.heap.size w w' := by
  have IS : Hid (∀ w, Calls Tryz.prog 15 #[AV s m] w fun e w' => e = .returned (.bool true) ∧ Below w.heap.size w w') := fun w => by
    have h := Is_any s m w g1 g2; rw [hi] at h; exact h
  clear hi
  go_enter Tryz.func8, Tryz.ntmps8
  go_wp2_with fail
  refine (TX.out _ ((Below.refl _ _).alloc (Nat.le_refl _) _)).mono ?_
  rintro e w1 ⟨rfl, hb⟩
  have HB : Hid (Below w.heap.size w w1) := end1 hb
  have ht := cell_later hb (alC _ ht)
  have c1 := cell_later hb (new0 w (.int .i64 s) (.int .i64 m))
  have c2 := cell_later hb (new1 w (.int .i64 s) (.int .i64 m))
  clear hb TX
  go_wp2_with fail
  refine (RD.out _).mono ?_
  rintro e w2 ⟨rfl, hb⟩
  have HB := chain HB hb
  have ht := cell_later hb ht
  have c1 := cell_later hb c1
  have c2 := cell_later hb c2
  clear hb RD
  have HB := alB (.cells #[(.int .i64 s), (.int .i64 m)] 23) HB
  have ht := alC (.cells #[(.int .i64 s), (.int .i64 m)] 23) ht
  have c1 := alC (.cells #[(.int .i64 s), (.int .i64 m)] 23) c1
  have c2 := alC (.cells #[(.int .i64 s), (.int .i64 m)] 23) c2
  have x0 := new0 w2 (.int .i64 s) (.int .i64 m)
  have x1 := new1 w2 (.int .i64 s) (.int .i64 m)
  go_wp2_with fail
  refine (IS.out _).mono ?_
  rintro e w3 ⟨rfl, hb⟩
  have HB := chain HB hb
  have ht := cell_later hb ht
  have c1 := cell_later hb c1
  have c2 := cell_later hb c2
  have x0 := cell_later hb x0
  have x1 := cell_later hb x1
  clear hb
  go_wp2_with (first
    | (go_at_call 24; refine (no_any _ _).mono ?_; rintro e w' ⟨rfl, rfl⟩)
    | (go_at_call 25; refine (alive_any _ (by first | exact ht | assumption)).mono ?_; rintro e wz ⟨rfl, hb⟩; have HB := (by first | exact chain HB hb | exact chain_drew HB hb : Hid (Below w.heap.size w wz)); clear hb))
  all_goals go_ret
  all_goals exact ⟨rfl, HB.out⟩

set_option maxHeartbeats 4000000 in
set_option maxRecDepth 100000 in
theorem NumBack_no (s m : Int) (w : World) (g1 : -9223372036854775808 ≤ m) (g2 : m ≤ 9223372036854775807) (hi : isNum s m = false) (ht : TabIs4 w) :
    Calls Tryz.prog 8 #[AV s m] w fun e w' => e = .returned (.bool true) ∧ Below w.heap.size w w' := by
  have IS : Hid (∀ w, Calls Tryz.prog 15 #[AV s m] w fun e w' => e = .returned (.bool false) ∧ Below w.heap.size w w') := fun w => by
    have h := Is_any s m w g1 g2; rw [hi] at h; exact h
  have TX : Hid (∀ w1, Calls Tryz.prog 36 #[AV s m] w1 fun e w' => e = .returned (.string ⟨#[]⟩) ∧ Below w1.heap.size w1 w') := fun w1 => Text_none s m w1 g1 g2 hi
  have RD : Hid (∀ w1, Calls Tryz.prog 34 #[.string ⟨#[]⟩] w1 fun e w' => e = .returned (.tuple #[AV 0 0, .int .i64 6]) ∧ Below w1.heap.size w1 w') := fun w1 => Read_bad ⟨#[]⟩ w1 (Nat.zero_le _) rfl (by decide +kernel)
  clear hi
  go_enter Tryz.func8, Tryz.ntmps8
  go_wp2_with fail
  refine (TX.out _).mono ?_
  rintro e w1 ⟨rfl, hb⟩
  have HB : Hid (Below w.heap.size w w1) := end1 hb
  have ht := cell_later hb (alC _ ht)
  have c1 := cell_later hb (new0 w (.int .i64 s) (.int .i64 m))
  have c2 := cell_later hb (new1 w (.int .i64 s) (.int .i64 m))
  clear hb TX
  go_wp2_with fail
  refine (RD.out _).mono ?_
  rintro e w2 ⟨rfl, hb⟩
  have HB := chain HB hb
  have ht := cell_later hb ht
  have c1 := cell_later hb c1
  have c2 := cell_later hb c2
  clear hb RD
  have HB := alB (.cells #[(.int .i64 0), (.int .i64 0)] 23) HB
  have ht := alC (.cells #[(.int .i64 0), (.int .i64 0)] 23) ht
  have c1 := alC (.cells #[(.int .i64 0), (.int .i64 0)] 23) c1
  have c2 := alC (.cells #[(.int .i64 0), (.int .i64 0)] 23) c2
  go_wp2_with fail
  refine (IS.out _).mono ?_
  rintro e w3 ⟨rfl, hb⟩
  have HB := chain HB hb
  have ht := cell_later hb ht
  clear hb c1 c2
  go_wp2_with (first
    | (go_at_call 24; refine (no_any _ _).mono ?_; rintro e w' ⟨rfl, rfl⟩)
    | (go_at_call 25; refine (alive_any _ (by first | exact ht | assumption)).mono ?_; rintro e wz ⟨rfl, hb⟩; have HB := (by first | exact chain HB hb | exact chain_drew HB hb : Hid (Below w.heap.size w wz)); clear hb))
  all_goals go_ret
  all_goals exact ⟨rfl, HB.out⟩

theorem NumBack_any (s m : Int) (w : World) (g1 : -9223372036854775808 ≤ m) (g2 : m ≤ 9223372036854775807) (ht : TabIs4 w) (h10 : Tab10 w) :
    Calls Tryz.prog 8 #[AV s m] w fun e w' => e = .returned (.bool true) ∧ Below w.heap.size w w' := by
  cases hi : isNum s m
  · exact NumBack_no s m w g1 g2 hi ht
  · by_cases h2 : s = 2
    · subst h2
      have hz := txtI_size m g1 g2
      refine NumBack_num 2 m (txtI m) w g1 g2 hi ht (fun w1 hb => Text_int m w1 g1 g2 (tab10_below h10 hb)) (fun w1 => Read_int (txtI m) m w1 (Nat.le_trans hz (by decide)) (by omega) (txtI_pre m) (txtI_bad m) (txtI_pnt m) ?_)
      rw [txtI_list]; exact pI_itoa m g1 g2
    · have h3 : s = 3 := by
        unfold isNum at hi; simp [h2] at hi; exact hi.1
      subst h3
      refine NumBack_num 3 m (txtF (B m)) w g1 g2 hi ht (fun w1 hb => Text_float m w1 g1 g2 hi (cell_later hb ht)) (fun w1 => Read_bits (txtF (B m)) 3 m 0 w1 ?_ (txtF_pre _) (txtF_bits m g1 g2 hi))
      rw [txtF_size]; decide
end Go.Proofs.YtdpdpgnpkmfooaaGreatDoor
