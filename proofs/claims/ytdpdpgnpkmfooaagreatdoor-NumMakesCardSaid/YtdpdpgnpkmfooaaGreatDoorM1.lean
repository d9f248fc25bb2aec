/- NumMakes answers true at every int and every value. -/
import Derived.Test.YtdpdpgnpkmfooaaGreatDoorA1
import Derived.Deep.RegionHeld3
import Derived.Deep.RegionWith
import Derived.Deep.QuietTactic
import Derived.BigQuiet
import Derived.BigRegion
namespace Go.Proofs.YtdpdpgnpkmfooaaGreatDoor
open Go.RowKit

theorem zero_eq : (FloatKind.f64.format.order 0 0 != some .eq) = false := by decide +kernel

set_option maxHeartbeats 4000000 in
set_option maxRecDepth 100000 in
theorem NumMakes_no (a s m : Int) (w : World) (g1 : -9223372036854775808 ≤ m) (g2 : m ≤ 9223372036854775807) (ht : TabIs4 w) (hi : isNum s m = false) :
    Calls Tryz.prog 3 #[.int .i64 a, AV s m] w fun e w' => e = .returned (.bool true) ∧ Below w.heap.size w w' := by
  have OF : Hid (∀ w, Calls Tryz.prog 13 #[AV s m] w fun e w' => e = .returned (.tuple #[.float .f64 0, .bool false]) ∧ Below w.heap.size w w') := fun w => by
    have h := Of_any s m w g1 g2
    rw [hi] at h
    exact h
  have RI : Hid (∀ w, Calls Tryz.prog 14 #[AV s m] w fun e w' => e = .returned (.bool false) ∧ Below w.heap.size w w') := fun w => by
    have h := RIs_any s m w
    rw [hi] at h
    exact h
  have NI : Hid (∀ w, Calls Tryz.prog 15 #[AV s m] w fun e w' => e = .returned (.bool false) ∧ Below w.heap.size w w') := fun w => by
    have h := Is_any s m w g1 g2
    rw [hi] at h
    exact h
  have hz := zero_eq
  clear hi
  go_enter Tryz.func3, Tryz.ntmps3
  go_wp2_with fail
  refine (OF.out _).mono ?_
  rintro e w1 ⟨rfl, hb⟩
  have HB : Hid (Below w.heap.size w w1) := end1 hb
  have ht := cell_later hb (alC _ ht)
  have c1 := cell_later hb (new0 w (.int .i64 s) (.int .i64 m))
  have c2 := cell_later hb (new1 w (.int .i64 s) (.int .i64 m))
  clear hb
  go_wp2_with fail
  refine (RI.out _).mono ?_
  rintro e w2 ⟨rfl, hb⟩
  have HB := chain HB hb
  have ht := cell_later hb ht
  have c1 := cell_later hb c1
  have c2 := cell_later hb c2
  clear hb
  go_wp2_with fail
  go_region_held3 (fun w' => w'.cell? ⟨6, 15, none⟩ = some (.int .u8 4) ∧ w'.cell? ⟨w.heap.size, 0, none⟩ = some (.int .i64 s) ∧ w'.cell? ⟨w.heap.size, 1, none⟩ = some (.int .i64 m)) (go_keep)
    (first
    | (go_at_call 15; refine (NI.out _).mono ?_; rintro e wa ⟨rfl, hb⟩; have HB := (by first | exact chain HB hb | exact chain_drew HB hb : Hid (Below w.heap.size w wa)); have ht := cell_later hb (by first | exact ht | assumption); have c1 := cell_later hb (by first | exact c1 | assumption); have c2 := cell_later hb (by first | exact c2 | assumption); clear hb)
    | (go_at_call 16; refine (Int_any _ _).mono ?_; rintro e wa ⟨rfl, hb⟩; have HB := (by first | exact chain HB hb | exact chain_drew HB hb : Hid (Below w.heap.size w wa)); have ht := cell_later hb (by first | exact ht | assumption); have c1 := cell_later hb (by first | exact c1 | assumption); have c2 := cell_later hb (by first | exact c2 | assumption); clear hb)
    | (go_at_call 17; refine (RInt_any _ _).mono ?_; rintro e wa ⟨rfl, hb⟩; have HB := (by first | exact chain HB hb | exact chain_drew HB hb : Hid (Below w.heap.size w wa)); have ht := cell_later hb (by first | exact ht | assumption); have c1 := cell_later hb (by first | exact c1 | assumption); have c2 := cell_later hb (by first | exact c2 | assumption); clear hb)
    | (go_at_call 19; refine (Real_any _ _ _).mono ?_; rintro e wa ⟨rfl, hb⟩; have HB := (by first | exact chain HB hb | exact chain_drew HB hb : Hid (Below w.heap.size w wa)); have ht := cell_later hb (by first | exact ht | assumption); have c1 := cell_later hb (by first | exact c1 | assumption); have c2 := cell_later hb (by first | exact c2 | assumption); clear hb)
    | (go_at_call 18; refine (Float_any _ _).mono ?_; rintro e wa ⟨rfl, hb⟩; have HB := (by first | exact chain HB hb | exact chain_drew HB hb : Hid (Below w.heap.size w wa)); have ht := cell_later hb (by first | exact ht | assumption); have c1 := cell_later hb (by first | exact c1 | assumption); have c2 := cell_later hb (by first | exact c2 | assumption); clear hb)
    | (go_at_call 20; refine (RFloat_any _ _).mono ?_; rintro e wa ⟨rfl, hb⟩; have HB := (by first | exact chain HB hb | exact chain_drew HB hb : Hid (Below w.heap.size w wa)); have ht := cell_later hb (by first | exact ht | assumption); have c1 := cell_later hb (by first | exact c1 | assumption); have c2 := cell_later hb (by first | exact c2 | assumption); clear hb))
  go_wp2_with fail
  refine (Whole_any _ _ _ g1 g2).mono ?_
  rintro e w3 ⟨rfl, hb⟩
  have HB := chain HB hb
  have ht := cell_later hb ht
  have c1 := cell_later hb c1
  have c2 := cell_later hb c2
  clear hb
  go_wp2_with fail
  refine (RWhole_any _ _ _).mono ?_
  rintro e w4 ⟨rfl, hb⟩
  have HB := chain HB hb
  have ht := cell_later hb ht
  have c1 := cell_later hb c1
  have c2 := cell_later hb c2
  clear hb
  generalize whN s m = WN at *
  generalize whE s m = WE at *
  go_wp2_with fail
  go_quiet (fail)
  have ht : TabIs4 (w4.drewN nq) := cell_later (below_drewN (Below.refl _ _) nq) ht
  have HB : Hid (Below w.heap.size w (w4.drewN nq)) := below_drewN HB.out nq
  go_wp2_with (first | (go_at_call 24; refine (no_any _ _).mono ?_; rintro e w' ⟨rfl, rfl⟩) | (go_at_call 25; refine (alive_any _ (by exact ht)).mono ?_; rintro e wz ⟨rfl, hb⟩; have HB := chain HB hb; clear hb))
  go_ret
  exact ⟨rfl, HB.out⟩
end Go.Proofs.YtdpdpgnpkmfooaaGreatDoor
