/- NumMakes where the value is a number, and all cases together. -/
import Derived.Test.YtdpdpgnpkmfooaaGreatDoorM1
import Derived.Deep.RegionHeld3
import Derived.Deep.RegionWith
import Derived.Deep.QuietTactic
import Derived.BigQuiet
import Derived.BigRegion
namespace Go.Proofs.YtdpdpgnpkmfooaaGreatDoor
open Go.RowKit


set_option maxHeartbeats 8000000 in
set_option maxRecDepth 100000 in
theorem NumMakes_yes (a s m : Int) (w : World) (g1 : -9223372036854775808 ≤ m) (g2 : m ≤ 9223372036854775807) (ht : TabIs4 w) (hi : isNum s m = true) :
    Calls Tryz.prog 3 #[.int .i64 a, AV s m] w fun e w' => e = .returned (.bool true) ∧ Below w.heap.size w w' := by
  have OF : Hid (∀ w, Calls Tryz.prog 13 #[AV s m] w fun e w' => e = .returned (.tuple #[.float .f64 (ofX s m), .bool true]) ∧ Below w.heap.size w w') := fun w => by
    have h := Of_any s m w g1 g2
    rw [hi] at h
    exact h
  have RI : Hid (∀ w, Calls Tryz.prog 14 #[AV s m] w fun e w' => e = .returned (.bool true) ∧ Below w.heap.size w w') := fun w => by
    have h := RIs_any s m w
    rw [hi] at h
    exact h
  have NI : Hid (∀ w, Calls Tryz.prog 15 #[AV s m] w fun e w' => e = .returned (.bool true) ∧ Below w.heap.size w w') := fun w => by
    have h := Is_any s m w g1 g2
    rw [hi] at h
    exact h
  have hz := zero_eq
  clear hi
  go_enter Tryz.func3, Tryz.ntmps3
  go_wp2_with fail
  refine (OF.out _).mono ?_
  rintro e w1 ⟨rfl, hb⟩
  have HB : Hid (Below w.heap.size w w1) := end1 hb
  replace ht := cell_later hb (alC _ ht)
  have c1 := cell_later hb (new0 w (.int .i64 s) (.int .i64 m))
  have c2 := cell_later hb (new1 w (.int .i64 s) (.int .i64 m))
  clear hb
  go_wp2_with fail
  refine (RI.out _).mono ?_
  rintro e w2 ⟨rfl, hb⟩
  replace HB := chain HB hb
  replace ht := cell_later hb ht
  replace c1 := cell_later hb c1
  replace c2 := cell_later hb c2
  clear hb
  go_wp2_with fail
  go_region_held3 (fun w' => w'.cell? ⟨6, 15, none⟩ = some (.int .u8 4) ∧ w'.cell? ⟨w.heap.size, 0, none⟩ = some (.int .i64 s) ∧ w'.cell? ⟨w.heap.size, 1, none⟩ = some (.int .i64 m)) (go_keep)
    (first
    | (go_at_call 15; refine (NI.out _).mono ?_; rintro e wa ⟨rfl, hb⟩; replace HB := (by first | exact chain HB hb | exact chain_drew HB hb : Hid (Below w.heap.size w wa)); replace ht := cell_later hb (by first | exact ht | assumption); replace c1 := cell_later hb (by first | exact c1 | assumption); replace c2 := cell_later hb (by first | exact c2 | assumption); clear hb)
    | (go_at_call 16; refine (Int_any _ _).mono ?_; rintro e wa ⟨rfl, hb⟩; replace HB := (by first | exact chain HB hb | exact chain_drew HB hb : Hid (Below w.heap.size w wa)); replace ht := cell_later hb (by first | exact ht | assumption); replace c1 := cell_later hb (by first | exact c1 | assumption); replace c2 := cell_later hb (by first | exact c2 | assumption); clear hb)
    | (go_at_call 17; refine (RInt_any _ _).mono ?_; rintro e wa ⟨rfl, hb⟩; replace HB := (by first | exact chain HB hb | exact chain_drew HB hb : Hid (Below w.heap.size w wa)); replace ht := cell_later hb (by first | exact ht | assumption); replace c1 := cell_later hb (by first | exact c1 | assumption); replace c2 := cell_later hb (by first | exact c2 | assumption); clear hb)
    | (go_at_call 19; refine (Real_any _ _ _).mono ?_; rintro e wa ⟨rfl, hb⟩; replace HB := (by first | exact chain HB hb | exact chain_drew HB hb : Hid (Below w.heap.size w wa)); replace ht := cell_later hb (by first | exact ht | assumption); replace c1 := cell_later hb (by first | exact c1 | assumption); replace c2 := cell_later hb (by first | exact c2 | assumption); clear hb)
    | (go_at_call 18; refine (Float_any _ _).mono ?_; rintro e wa ⟨rfl, hb⟩; replace HB := (by first | exact chain HB hb | exact chain_drew HB hb : Hid (Below w.heap.size w wa)); replace ht := cell_later hb (by first | exact ht | assumption); replace c1 := cell_later hb (by first | exact c1 | assumption); replace c2 := cell_later hb (by first | exact c2 | assumption); clear hb)
    | (go_at_call 20; refine (RFloat_any _ _).mono ?_; rintro e wa ⟨rfl, hb⟩; replace HB := (by first | exact chain HB hb | exact chain_drew HB hb : Hid (Below w.heap.size w wa)); replace ht := cell_later hb (by first | exact ht | assumption); replace c1 := cell_later hb (by first | exact c1 | assumption); replace c2 := cell_later hb (by first | exact c2 | assumption); clear hb))
  go_wp2_with fail
  refine (Whole_any _ _ _ g1 g2).mono ?_
  rintro e w3 ⟨rfl, hb⟩
  replace HB := chain HB hb
  replace ht := cell_later hb ht
  replace c1 := cell_later hb c1
  replace c2 := cell_later hb c2
  clear hb
  go_wp2_with fail
  refine (RWhole_any _ _ _).mono ?_
  rintro e w4 ⟨rfl, hb⟩
  replace HB := chain HB hb
  replace ht := cell_later hb ht
  replace c1 := cell_later hb c1
  replace c2 := cell_later hb c2
  clear hb
  generalize whN s m = WN at *
  generalize whE s m = WE at *
  clear OF RI NI hz g1 g2
  go_wp2_with fail
  first | (go_region_with (first | (go_at_call 18; refine (Float_any _ _).mono ?_; rintro e wa ⟨rfl, hb⟩; replace HB := (by first | exact chain HB hb | exact chain_drew HB hb : Hid (Below w.heap.size w wa)); replace ht := cell_later hb (by first | exact ht | assumption); replace c1 := cell_later hb (by first | exact c1 | assumption); replace c2 := cell_later hb (by first | exact c2 | assumption); clear hb) | (go_at_call 23; refine (ROf_any _ _ _).mono ?_; rintro e wa ⟨rfl, hb⟩; replace HB := (by first | exact chain HB hb | exact chain_drew HB hb : Hid (Below w.heap.size w wa)); replace ht := cell_later hb (by first | exact ht | assumption); replace c1 := cell_later hb (by first | exact c1 | assumption); replace c2 := cell_later hb (by first | exact c2 | assumption); clear hb) | (go_at_call 20; refine (RFloat_any _ _).mono ?_; rintro e wa ⟨rfl, hb⟩; replace HB := (by first | exact chain HB hb | exact chain_drew HB hb : Hid (Below w.heap.size w wa)); replace ht := cell_later hb (by first | exact ht | assumption); replace c1 := cell_later hb (by first | exact c1 | assumption); replace c2 := cell_later hb (by first | exact c2 | assumption); clear hb))) | fail
  all_goals go_wp2_with (first | (go_at_call 24; refine (no_any _ _).mono ?_; rintro e w' ⟨rfl, rfl⟩) | (go_at_call 25; refine (alive_any _ (by exact ht)).mono ?_; rintro e wz ⟨rfl, hb⟩; replace HB := chain HB hb; clear hb))
  all_goals go_ret
  all_goals exact ⟨rfl, HB.out⟩

theorem NumMakes_any (a s m : Int) (w : World) (_ : -9223372036854775808 ≤ a) (_ : a ≤ 9223372036854775807) (g1 : -9223372036854775808 ≤ m) (g2 : m ≤ 9223372036854775807) (ht : TabIs4 w) :
    Calls Tryz.prog 3 #[.int .i64 a, AV s m] w fun e w' => e = .returned (.bool true) ∧ Below w.heap.size w w' := by
  cases hi : isNum s m
  · exact NumMakes_no a s m w g1 g2 ht hi
  · exact NumMakes_yes a s m w g1 g2 ht hi
end Go.Proofs.YtdpdpgnpkmfooaaGreatDoor
