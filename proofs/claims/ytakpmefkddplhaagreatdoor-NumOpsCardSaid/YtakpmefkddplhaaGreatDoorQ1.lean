/- NumOps answers true at every operation and every two values. -/
import Derived.Test.YtakpmefkddplhaaGreatDoorA1
import Derived.Test.YtakpmefkddplhaaGreatDoorP4
namespace Go.Proofs.YtakpmefkddplhaaGreatDoor
open Go.RowKit

set_option maxHeartbeats 4000000 in
set_option maxRecDepth 100000 in
theorem NumOps_any (op s m t n : Int) (w : World) (_ : -9223372036854775808 ≤ op) (_ : op ≤ 9223372036854775807) (g1 : -9223372036854775808 ≤ m) (g2 : m ≤ 9223372036854775807) (h1 : -9223372036854775808 ≤ n) (h2 : n ≤ 9223372036854775807) (ht : TabIs4 w) :
    Calls Tryz.prog 4 #[.int .i64 op, AV s m, AV t n] w fun e w' => e = .returned (.bool true) ∧ Below w.heap.size w w' := by
  go_enter Tryz.func4, Tryz.ntmps4
  go_wp2_with fail
  refine (Op_any _ _ _ _ _ _ g1 g2 h1 h2).mono ?_
  rintro e w1 ⟨rfl, hb⟩
  obtain ⟨c1, c2, c3, c4⟩ := box2 hb
  have HB : Hid (Below w.heap.size w w1) := end2 hb
  have ht := cell_later hb (alC _ (alC _ ht))
  clear hb
  have HB := alB (.cells #[(.int .i64 (opT op s m t n)), (.int .i64 (opN op s m t n))] 23) HB
  have ht := alC (.cells #[(.int .i64 (opT op s m t n)), (.int .i64 (opN op s m t n))] 23) ht
  have c1 := alC (.cells #[(.int .i64 (opT op s m t n)), (.int .i64 (opN op s m t n))] 23) c1
  have c2 := alC (.cells #[(.int .i64 (opT op s m t n)), (.int .i64 (opN op s m t n))] 23) c2
  have c3 := alC (.cells #[(.int .i64 (opT op s m t n)), (.int .i64 (opN op s m t n))] 23) c3
  have c4 := alC (.cells #[(.int .i64 (opT op s m t n)), (.int .i64 (opN op s m t n))] 23) c4
  have x0 := new0 w1 (.int .i64 (opT op s m t n)) (.int .i64 (opN op s m t n))
  have x1 := new1 w1 (.int .i64 (opT op s m t n)) (.int .i64 (opN op s m t n))
  go_wp2_with fail
  refine (ROp_any _ _ _ _ _ _ h1 h2).mono ?_
  rintro e w2 ⟨rfl, hb⟩
  have HB := chain HB hb
  have ht := cell_later hb ht
  have x0 := cell_later hb x0
  have x1 := cell_later hb x1
  clear hb c1 c2 c3 c4
  have HB := alB (.cells #[(.int .i64 (opT op s m t n)), (.int .i64 (opN op s m t n))] 23) HB
  have ht := alC (.cells #[(.int .i64 (opT op s m t n)), (.int .i64 (opN op s m t n))] 23) ht
  have x0 := alC (.cells #[(.int .i64 (opT op s m t n)), (.int .i64 (opN op s m t n))] 23) x0
  have x1 := alC (.cells #[(.int .i64 (opT op s m t n)), (.int .i64 (opN op s m t n))] 23) x1
  have y0 := new0 w2 (.int .i64 (opT op s m t n)) (.int .i64 (opN op s m t n))
  have y1 := new1 w2 (.int .i64 (opT op s m t n)) (.int .i64 (opN op s m t n))
  go_wp2_with fail
  generalize hA : w1.heap.size = A at *
  generalize hC : w2.heap.size = C at *
  clear hA hC
  generalize opT op s m t n = T at *
  generalize opN op s m t n = N at *
  generalize opE op s m t n = E at *
  go_wp2_with (first | (go_at_call 24; refine (no_any _ _).mono ?_; rintro e w' ⟨rfl, rfl⟩) | (go_at_call 25; refine (alive_any _ (by exact ht)).mono ?_; rintro e wz ⟨rfl, hb⟩; have HB := chain HB hb; clear hb))
  go_ret
  exact ⟨rfl, HB.out⟩
end Go.Proofs.YtakpmefkddplhaaGreatDoor
