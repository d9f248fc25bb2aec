/- NumNegs answers true at every value. -/
import Derived.Test.YtakpmefkddplhaaGreatDoorA1
import Derived.Deep.RegionHeld3
namespace Go.Proofs.YtakpmefkddplhaaGreatDoor
open Go.RowKit

set_option maxHeartbeats 4000000 in
set_option maxRecDepth 100000 in
theorem NumNegs_any (s m : Int) (w : World) (g1 : -9223372036854775808 ≤ m) (g2 : m ≤ 9223372036854775807) (ht : TabIs4 w) :
    Calls Tryz.prog 5 #[AV s m] w fun e w' => e = .returned (.bool true) ∧ Below w.heap.size w w' := by
  have KA : Hid (∀ w, Calls Tryz.prog 30 #[AV s m] w fun e w' => e = .returned (AV (kyT s m) (kyN s m)) ∧ Below w.heap.size w w') := fun w => Key_any s m w g1 g2
  have KB : Hid (∀ w, Calls Tryz.prog 31 #[AV s m] w fun e w' => e = .returned (AV (kyT s m) (kyN s m)) ∧ Below w.heap.size w w') := fun w => RKey_any s m w
  generalize kyT s m = KT at KA KB
  generalize kyN s m = KN at KA KB
  go_enter Tryz.func5, Tryz.ntmps5
  go_wp2_with fail
  refine (Neg_any _ _ _ g1 g2).mono ?_
  rintro e w1 ⟨rfl, hb⟩
  have HB : Hid (Below w.heap.size w w1) := end1 hb
  have ht := cell_later hb (alC _ ht)
  have c1 := cell_later hb (new0 w (.int .i64 s) (.int .i64 m))
  have c2 := cell_later hb (new1 w (.int .i64 s) (.int .i64 m))
  clear hb
  have HB := alB (.cells #[(.int .i64 (ngT s m)), (.int .i64 (ngN s m))] 23) HB
  have ht := alC (.cells #[(.int .i64 (ngT s m)), (.int .i64 (ngN s m))] 23) ht
  have c1 := alC (.cells #[(.int .i64 (ngT s m)), (.int .i64 (ngN s m))] 23) c1
  have c2 := alC (.cells #[(.int .i64 (ngT s m)), (.int .i64 (ngN s m))] 23) c2
  have x0 := new0 w1 (.int .i64 (ngT s m)) (.int .i64 (ngN s m))
  have x1 := new1 w1 (.int .i64 (ngT s m)) (.int .i64 (ngN s m))
  go_wp2_with fail
  refine (RNeg_any _ _ _).mono ?_
  rintro e w2 ⟨rfl, hb⟩
  have HB := chain HB hb
  have ht := cell_later hb ht
  have c1 := cell_later hb c1
  have c2 := cell_later hb c2
  have x0 := cell_later hb x0
  have x1 := cell_later hb x1
  clear hb
  have HB := alB (.cells #[(.int .i64 (ngT s m)), (.int .i64 (ngN s m))] 23) HB
  have ht := alC (.cells #[(.int .i64 (ngT s m)), (.int .i64 (ngN s m))] 23) ht
  have c1 := alC (.cells #[(.int .i64 (ngT s m)), (.int .i64 (ngN s m))] 23) c1
  have c2 := alC (.cells #[(.int .i64 (ngT s m)), (.int .i64 (ngN s m))] 23) c2
  have x0 := alC (.cells #[(.int .i64 (ngT s m)), (.int .i64 (ngN s m))] 23) x0
  have x1 := alC (.cells #[(.int .i64 (ngT s m)), (.int .i64 (ngN s m))] 23) x1
  have y0 := new0 w2 (.int .i64 (ngT s m)) (.int .i64 (ngN s m))
  have y1 := new1 w2 (.int .i64 (ngT s m)) (.int .i64 (ngN s m))
  go_wp2_with fail
  generalize hA : w1.heap.size = A at *
  generalize hC : w2.heap.size = C at *
  clear hA hC
  generalize ngT s m = T at *
  generalize ngN s m = N at *
  generalize ngE s m = E at *
  go_region_held3 (fun w' => w'.cell? ⟨6, 15, none⟩ = some (.int .u8 4) ∧ w'.cell? ⟨w.heap.size, 0, none⟩ = some (.int .i64 s) ∧ w'.cell? ⟨w.heap.size, 1, none⟩ = some (.int .i64 m) ∧ w'.cell? ⟨A, 0, none⟩ = some (.int .i64 T) ∧ w'.cell? ⟨A, 1, none⟩ = some (.int .i64 N) ∧ w'.cell? ⟨C, 0, none⟩ = some (.int .i64 T) ∧ w'.cell? ⟨C, 1, none⟩ = some (.int .i64 N)) (go_keep)
    (first
    | (go_at_call 24; refine (no_any _ _).mono ?_; rintro e w' ⟨rfl, rfl⟩)
    | (go_at_call 30; refine (KA.out _).mono ?_; rintro e wa ⟨rfl, hb⟩; have HB := (by first | exact chain HB hb | exact chain_drew HB hb : Hid (Below w.heap.size w wa)); have ht := cell_later hb (by first | exact ht | assumption); have c1 := cell_later hb (by first | exact c1 | assumption); have c2 := cell_later hb (by first | exact c2 | assumption); have x0 := cell_later hb (by first | exact x0 | assumption); have x1 := cell_later hb (by first | exact x1 | assumption); have y0 := cell_later hb (by first | exact y0 | assumption); have y1 := cell_later hb (by first | exact y1 | assumption); clear hb)
    | (go_at_call 31; refine (KB.out _).mono ?_; rintro e wa ⟨rfl, hb⟩; have HB := (by first | exact chain HB hb | exact chain_drew HB hb : Hid (Below w.heap.size w wa)); have ht := cell_later hb (by first | exact ht | assumption); have c1 := cell_later hb (by first | exact c1 | assumption); have c2 := cell_later hb (by first | exact c2 | assumption); have x0 := cell_later hb (by first | exact x0 | assumption); have x1 := cell_later hb (by first | exact x1 | assumption); have y0 := cell_later hb (by first | exact y0 | assumption); have y1 := cell_later hb (by first | exact y1 | assumption); clear hb)
    | (go_at_call 25; refine (alive_any _ (by first | exact ht | assumption)).mono ?_; rintro e wz ⟨rfl, hb⟩; have HB := (by first | exact chain HB hb | exact chain_drew HB hb : Hid (Below w.heap.size w wz)); have ht := cell_later hb (by first | exact ht | assumption); have c1 := cell_later hb (by first | exact c1 | assumption); have c2 := cell_later hb (by first | exact c2 | assumption); have x0 := cell_later hb (by first | exact x0 | assumption); have x1 := cell_later hb (by first | exact x1 | assumption); have y0 := cell_later hb (by first | exact y0 | assumption); have y1 := cell_later hb (by first | exact y1 | assumption); clear hb))
  all_goals go_wp2
  all_goals go_ret
  all_goals exact ⟨rfl, HB.out⟩
end Go.Proofs.YtakpmefkddplhaaGreatDoor
