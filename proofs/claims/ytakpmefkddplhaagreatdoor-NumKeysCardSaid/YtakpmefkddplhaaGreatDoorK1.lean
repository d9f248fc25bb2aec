/- NumKeys answers true at every two values. -/
import Derived.Test.YtakpmefkddplhaaGreatDoorA1
import Derived.Test.YtakpmefkddplhaaGreatDoorK0
import Derived.Deep.RegionHeld3
namespace Go.Proofs.YtakpmefkddplhaaGreatDoor
open Go.RowKit

/-- What a call of Key gives, whatever the world. -/
def KeyGives (t n T N : Int) : Prop := ∀ w : World, Calls Tryz.prog 30 #[AV t n] w fun e w' => e = .returned (AV T N) ∧ Below w.heap.size w w'

set_option maxHeartbeats 4000000 in
set_option maxRecDepth 100000 in
theorem NumKeys_core (s m t n T1 N1 T2 N2 x : Int) (w : World) (ht : TabIs4 w) (ka : KeyGives s m T1 N1) (kb : KeyGives t n T2 N2) (kk : KeyGives T1 N1 T1 N1)
    (hc : Hid (∀ w, Calls Tryz.prog 32 #[AV s m, AV t n] w fun e w' => e = .returned (.tuple #[.int .i64 x, .bool true]) ∧ Below w.heap.size w w'))
    (hx : (x == 0) = true) (he : T1 = T2 ∧ N1 = N2) :
    Calls Tryz.prog 10 #[AV s m, AV t n] w fun e w' => e = .returned (.bool true) ∧ Below w.heap.size w w' := by
  obtain ⟨rfl, rfl⟩ := he
  have KA : Hid (KeyGives s m T1 N1) := ka
  have KB : Hid (KeyGives t n T1 N1) := kb
  have KK : Hid (KeyGives T1 N1 T1 N1) := kk
  clear ka kb kk
  go_enter Tryz.func10, Tryz.ntmps10
  go_wp2_with fail
  refine (hc.out _).mono ?_
  rintro e w1 ⟨rfl, hb⟩
  obtain ⟨c1, c2, c3, c4⟩ := box2 hb
  have HB : Hid (Below w.heap.size w w1) := end2 hb
  have ht := cell_later hb (alC _ (alC _ ht))
  clear hb hc
  go_wp2_with fail
  go_region_held3 (fun w' => w'.cell? ⟨w.heap.size, 0, none⟩ = some (.int .i64 s) ∧ w'.cell? ⟨w.heap.size, 1, none⟩ = some (.int .i64 m) ∧ w'.cell? ⟨w.heap.size + 1, 0, none⟩ = some (.int .i64 t) ∧ w'.cell? ⟨w.heap.size + 1, 1, none⟩ = some (.int .i64 n) ∧ w'.cell? ⟨6, 15, none⟩ = some (.int .u8 4)) (go_keep)
    (first
    | (go_at_call_of 30 (Value.int IntKind.i64 m); refine (KA.out _).mono ?_; rintro e wa ⟨rfl, hb⟩; have HB := (by first | exact chain HB hb | exact chain_drew HB hb : Hid (Below w.heap.size w wa)); have c1 := cell_later hb (by first | exact c1 | assumption); have c2 := cell_later hb (by first | exact c2 | assumption); have c3 := cell_later hb (by first | exact c3 | assumption); have c4 := cell_later hb (by first | exact c4 | assumption); have ht := cell_later hb (by first | exact ht | assumption); clear hb)
    | (go_at_call_of 30 (Value.int IntKind.i64 n); refine (KB.out _).mono ?_; rintro e wa ⟨rfl, hb⟩; have HB := (by first | exact chain HB hb | exact chain_drew HB hb : Hid (Below w.heap.size w wa)); have c1 := cell_later hb (by first | exact c1 | assumption); have c2 := cell_later hb (by first | exact c2 | assumption); have c3 := cell_later hb (by first | exact c3 | assumption); have c4 := cell_later hb (by first | exact c4 | assumption); have ht := cell_later hb (by first | exact ht | assumption); clear hb)
    | (go_at_call 30; refine (KK.out _).mono ?_; rintro e wa ⟨rfl, hb⟩; have HB := (by first | exact chain HB hb | exact chain_drew HB hb : Hid (Below w.heap.size w wa)); have c1 := cell_later hb (by first | exact c1 | assumption); have c2 := cell_later hb (by first | exact c2 | assumption); have c3 := cell_later hb (by first | exact c3 | assumption); have c4 := cell_later hb (by first | exact c4 | assumption); have ht := cell_later hb (by first | exact ht | assumption); clear hb)
    | (go_at_call 25; refine (alive_any _ (by first | exact ht | assumption)).mono ?_; rintro e wz ⟨rfl, hb⟩; have HB := (by first | exact chain HB hb | exact chain_drew HB hb : Hid (Below w.heap.size w wz)); have c1 := cell_later hb (by first | exact c1 | assumption); have c2 := cell_later hb (by first | exact c2 | assumption); have c3 := cell_later hb (by first | exact c3 | assumption); have c4 := cell_later hb (by first | exact c4 | assumption); have ht := cell_later hb (by first | exact ht | assumption); clear hb))
  all_goals go_wp2
  all_goals go_ret
  all_goals exact ⟨rfl, HB.out⟩
end Go.Proofs.YtakpmefkddplhaaGreatDoor
