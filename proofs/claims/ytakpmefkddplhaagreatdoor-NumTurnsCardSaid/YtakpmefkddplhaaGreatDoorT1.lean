/- NumTurns answers true at every two values. -/
import Derived.Test.YtakpmefkddplhaaGreatDoorA1
import Derived.Test.YtakpmefkddplhaaGreatDoorT0
namespace Go.Proofs.YtakpmefkddplhaaGreatDoor
open Go.RowKit

theorem Op_turned (op s m t n : Int) (w : World) (ho : op = 1 ∨ op = 3) (g1 : -9223372036854775808 ≤ m) (g2 : m ≤ 9223372036854775807) (h1 : -9223372036854775808 ≤ n) (h2 : n ≤ 9223372036854775807) :
    Calls Tryz.prog 26 #[.int .i64 op, AV t n, AV s m] w fun e w' => e = .returned (.tuple #[AV (opT op s m t n) (opN op s m t n), .int .i64 (opE op s m t n)]) ∧ Below w.heap.size w w' := by
  have h := Op_any op t n s m w h1 h2 g1 g2
  obtain ⟨a, b, c⟩ := turn_eq op s m t n ho
  rw [a, b, c] at h
  exact h

theorem ng_bounds {t n : Int} : -9223372036854775808 ≤ ngN t n ∧ ngN t n ≤ 9223372036854775807 := by
  unfold ngN
  split
  · split
    · unfold wrap64; omega
    · exact flt_bounds _
  · omega

set_option maxHeartbeats 4000000 in
set_option maxRecDepth 100000 in
theorem NumTurns_any (s m t n : Int) (w : World) (g1 : -9223372036854775808 ≤ m) (g2 : m ≤ 9223372036854775807) (h1 : -9223372036854775808 ≤ n) (h2 : n ≤ 9223372036854775807) (ht : TabIs4 w) :
    Calls Tryz.prog 12 #[AV s m, AV t n] w fun e w' => e = .returned (.bool true) ∧ Below w.heap.size w w' := by
  go_enter Tryz.func12, Tryz.ntmps12
  go_wp2_with fail
  go_loopw [5] (fun op wr => ∃ k : Int, op = .int .i64 k ∧ (k = 1 ∨ k = 3 ∨ k = 5) ∧ Hid (Below w.heap.size w wr) ∧ wr.cell? ⟨w.heap.size, 0, none⟩ = some (.int .i64 s) ∧ wr.cell? ⟨w.heap.size, 1, none⟩ = some (.int .i64 m) ∧ wr.cell? ⟨w.heap.size + 1, 0, none⟩ = some (.int .i64 t) ∧ wr.cell? ⟨w.heap.size + 1, 1, none⟩ = some (.int .i64 n) ∧ TabIs4 wr) (fun op _ => (10 - intOf op).toNat)
  case atStart =>
    refine ⟨1, rfl, Or.inl rfl, ((Below.refl _ _).alloc (Nat.le_refl _) _).alloc (by simp) _, ?_, ?_, ?_, ?_, alC _ (alC _ ht)⟩ <;> simp [go_sem]
  case round =>
    obtain ⟨k, rfl, hk, HB, c1, c2, c3, c4, ht⟩ := hrel
    rcases hk with rfl | rfl | rfl
    · go_wp2_with fail
      refine (Op_any _ _ _ _ _ _ g1 g2 h1 h2).mono ?_
      rintro e w1 ⟨rfl, hb⟩
      have HB := chain HB hb
      have ht := cell_later hb ht
      have c1 := cell_later hb c1
      have c2 := cell_later hb c2
      have c3 := cell_later hb c3
      have c4 := cell_later hb c4
      clear hb
      have HB := alB (.cells #[(.int .i64 (opT 1 s m t n)), (.int .i64 (opN 1 s m t n))] 23) HB
      have ht := alC (.cells #[(.int .i64 (opT 1 s m t n)), (.int .i64 (opN 1 s m t n))] 23) ht
      have c1 := alC (.cells #[(.int .i64 (opT 1 s m t n)), (.int .i64 (opN 1 s m t n))] 23) c1
      have c2 := alC (.cells #[(.int .i64 (opT 1 s m t n)), (.int .i64 (opN 1 s m t n))] 23) c2
      have c3 := alC (.cells #[(.int .i64 (opT 1 s m t n)), (.int .i64 (opN 1 s m t n))] 23) c3
      have c4 := alC (.cells #[(.int .i64 (opT 1 s m t n)), (.int .i64 (opN 1 s m t n))] 23) c4
      have x0 := new0 w1 (.int .i64 (opT 1 s m t n)) (.int .i64 (opN 1 s m t n))
      have x1 := new1 w1 (.int .i64 (opT 1 s m t n)) (.int .i64 (opN 1 s m t n))
      go_wp2_with fail
      refine (Op_turned _ s m t n _ (by omega) g1 g2 h1 h2).mono ?_
      rintro e w2 ⟨rfl, hb⟩
      have HB := chain HB hb
      have ht := cell_later hb ht
      have c1 := cell_later hb c1
      have c2 := cell_later hb c2
      have c3 := cell_later hb c3
      have c4 := cell_later hb c4
      have x0 := cell_later hb x0
      have x1 := cell_later hb x1
      clear hb
      have HB := alB (.cells #[(.int .i64 (opT 1 s m t n)), (.int .i64 (opN 1 s m t n))] 23) HB
      have ht := alC (.cells #[(.int .i64 (opT 1 s m t n)), (.int .i64 (opN 1 s m t n))] 23) ht
      have c1 := alC (.cells #[(.int .i64 (opT 1 s m t n)), (.int .i64 (opN 1 s m t n))] 23) c1
      have c2 := alC (.cells #[(.int .i64 (opT 1 s m t n)), (.int .i64 (opN 1 s m t n))] 23) c2
      have c3 := alC (.cells #[(.int .i64 (opT 1 s m t n)), (.int .i64 (opN 1 s m t n))] 23) c3
      have c4 := alC (.cells #[(.int .i64 (opT 1 s m t n)), (.int .i64 (opN 1 s m t n))] 23) c4
      have x0 := alC (.cells #[(.int .i64 (opT 1 s m t n)), (.int .i64 (opN 1 s m t n))] 23) x0
      have x1 := alC (.cells #[(.int .i64 (opT 1 s m t n)), (.int .i64 (opN 1 s m t n))] 23) x1
      have y0 := new0 w2 (.int .i64 (opT 1 s m t n)) (.int .i64 (opN 1 s m t n))
      have y1 := new1 w2 (.int .i64 (opT 1 s m t n)) (.int .i64 (opN 1 s m t n))
      go_wp2_with fail
      refine ⟨⟨3, rfl, by omega, HB, c1, c2, c3, c4, ht⟩, by simp [intOf]⟩
    · go_wp2_with fail
      refine (Op_any _ _ _ _ _ _ g1 g2 h1 h2).mono ?_
      rintro e w1 ⟨rfl, hb⟩
      have HB := chain HB hb
      have ht := cell_later hb ht
      have c1 := cell_later hb c1
      have c2 := cell_later hb c2
      have c3 := cell_later hb c3
      have c4 := cell_later hb c4
      clear hb
      have HB := alB (.cells #[(.int .i64 (opT 3 s m t n)), (.int .i64 (opN 3 s m t n))] 23) HB
      have ht := alC (.cells #[(.int .i64 (opT 3 s m t n)), (.int .i64 (opN 3 s m t n))] 23) ht
      have c1 := alC (.cells #[(.int .i64 (opT 3 s m t n)), (.int .i64 (opN 3 s m t n))] 23) c1
      have c2 := alC (.cells #[(.int .i64 (opT 3 s m t n)), (.int .i64 (opN 3 s m t n))] 23) c2
      have c3 := alC (.cells #[(.int .i64 (opT 3 s m t n)), (.int .i64 (opN 3 s m t n))] 23) c3
      have c4 := alC (.cells #[(.int .i64 (opT 3 s m t n)), (.int .i64 (opN 3 s m t n))] 23) c4
      have x0 := new0 w1 (.int .i64 (opT 3 s m t n)) (.int .i64 (opN 3 s m t n))
      have x1 := new1 w1 (.int .i64 (opT 3 s m t n)) (.int .i64 (opN 3 s m t n))
      go_wp2_with fail
      refine (Op_turned _ s m t n _ (by omega) g1 g2 h1 h2).mono ?_
      rintro e w2 ⟨rfl, hb⟩
      have HB := chain HB hb
      have ht := cell_later hb ht
      have c1 := cell_later hb c1
      have c2 := cell_later hb c2
      have c3 := cell_later hb c3
      have c4 := cell_later hb c4
      have x0 := cell_later hb x0
      have x1 := cell_later hb x1
      clear hb
      have HB := alB (.cells #[(.int .i64 (opT 3 s m t n)), (.int .i64 (opN 3 s m t n))] 23) HB
      have ht := alC (.cells #[(.int .i64 (opT 3 s m t n)), (.int .i64 (opN 3 s m t n))] 23) ht
      have c1 := alC (.cells #[(.int .i64 (opT 3 s m t n)), (.int .i64 (opN 3 s m t n))] 23) c1
      have c2 := alC (.cells #[(.int .i64 (opT 3 s m t n)), (.int .i64 (opN 3 s m t n))] 23) c2
      have c3 := alC (.cells #[(.int .i64 (opT 3 s m t n)), (.int .i64 (opN 3 s m t n))] 23) c3
      have c4 := alC (.cells #[(.int .i64 (opT 3 s m t n)), (.int .i64 (opN 3 s m t n))] 23) c4
      have x0 := alC (.cells #[(.int .i64 (opT 3 s m t n)), (.int .i64 (opN 3 s m t n))] 23) x0
      have x1 := alC (.cells #[(.int .i64 (opT 3 s m t n)), (.int .i64 (opN 3 s m t n))] 23) x1
      have y0 := new0 w2 (.int .i64 (opT 3 s m t n)) (.int .i64 (opN 3 s m t n))
      have y1 := new1 w2 (.int .i64 (opT 3 s m t n)) (.int .i64 (opN 3 s m t n))
      go_wp2_with fail
      refine ⟨⟨5, rfl, by omega, HB, c1, c2, c3, c4, ht⟩, by simp [intOf]⟩
    · by_cases hn : isNum t n = true
      · by_cases hs : s = t
        · subst hs
          have HD : Hid (opE 1 s m (ngT s n) (ngN s n) = opE 2 s m s n ∧ opT 1 s m (ngT s n) (ngN s n) = opT 2 s m s n ∧ opN 1 s m (ngT s n) (ngN s n) = opN 2 s m s n) := diff_eq s m n hn
          have HE : Hid (ngE s n = 0) := by show _ = _; simp [ngE, hn]
          go_wp2_with fail
          refine (Neg_any _ _ _ h1 h2).mono ?_
          rintro e w1 ⟨rfl, hb⟩
          have HB := chain HB hb
          have ht := cell_later hb ht
          have c1 := cell_later hb c1
          have c2 := cell_later hb c2
          have c3 := cell_later hb c3
          have c4 := cell_later hb c4
          clear hb
          rw [HE.out]
          have HB := alB (.cells #[(.int .i64 (ngT s n)), (.int .i64 (ngN s n))] 23) HB
          have ht := alC (.cells #[(.int .i64 (ngT s n)), (.int .i64 (ngN s n))] 23) ht
          have c1 := alC (.cells #[(.int .i64 (ngT s n)), (.int .i64 (ngN s n))] 23) c1
          have c2 := alC (.cells #[(.int .i64 (ngT s n)), (.int .i64 (ngN s n))] 23) c2
          have c3 := alC (.cells #[(.int .i64 (ngT s n)), (.int .i64 (ngN s n))] 23) c3
          have c4 := alC (.cells #[(.int .i64 (ngT s n)), (.int .i64 (ngN s n))] 23) c4
          have n0 := new0 w1 (.int .i64 (ngT s n)) (.int .i64 (ngN s n))
          have n1 := new1 w1 (.int .i64 (ngT s n)) (.int .i64 (ngN s n))
          go_wp2_with fail
          refine (Op_any _ _ _ _ _ _ g1 g2 h1 h2).mono ?_
          rintro e w2 ⟨rfl, hb⟩
          have HB := chain HB hb
          have ht := cell_later hb ht
          have c1 := cell_later hb c1
          have c2 := cell_later hb c2
          have c3 := cell_later hb c3
          have c4 := cell_later hb c4
          have n0 := cell_later hb n0
          have n1 := cell_later hb n1
          clear hb
          have HB := alB (.cells #[(.int .i64 (opT 2 s m s n)), (.int .i64 (opN 2 s m s n))] 23) HB
          have ht := alC (.cells #[(.int .i64 (opT 2 s m s n)), (.int .i64 (opN 2 s m s n))] 23) ht
          have c1 := alC (.cells #[(.int .i64 (opT 2 s m s n)), (.int .i64 (opN 2 s m s n))] 23) c1
          have c2 := alC (.cells #[(.int .i64 (opT 2 s m s n)), (.int .i64 (opN 2 s m s n))] 23) c2
          have c3 := alC (.cells #[(.int .i64 (opT 2 s m s n)), (.int .i64 (opN 2 s m s n))] 23) c3
          have c4 := alC (.cells #[(.int .i64 (opT 2 s m s n)), (.int .i64 (opN 2 s m s n))] 23) c4
          have n0 := alC (.cells #[(.int .i64 (opT 2 s m s n)), (.int .i64 (opN 2 s m s n))] 23) n0
          have n1 := alC (.cells #[(.int .i64 (opT 2 s m s n)), (.int .i64 (opN 2 s m s n))] 23) n1
          have x0 := new0 w2 (.int .i64 (opT 2 s m s n)) (.int .i64 (opN 2 s m s n))
          have x1 := new1 w2 (.int .i64 (opT 2 s m s n)) (.int .i64 (opN 2 s m s n))
          go_wp2_with fail
          refine (Op_any _ _ _ _ _ _ g1 g2 ng_bounds.1 ng_bounds.2).mono ?_
          rintro e w3 ⟨rfl, hb⟩
          rw [HD.out.1, HD.out.2.1, HD.out.2.2]
          have HB := chain HB hb
          have ht := cell_later hb ht
          have c1 := cell_later hb c1
          have c2 := cell_later hb c2
          have c3 := cell_later hb c3
          have c4 := cell_later hb c4
          have n0 := cell_later hb n0
          have n1 := cell_later hb n1
          have x0 := cell_later hb x0
          have x1 := cell_later hb x1
          clear hb
          have HB := alB (.cells #[(.int .i64 (opT 2 s m s n)), (.int .i64 (opN 2 s m s n))] 23) HB
          have ht := alC (.cells #[(.int .i64 (opT 2 s m s n)), (.int .i64 (opN 2 s m s n))] 23) ht
          have c1 := alC (.cells #[(.int .i64 (opT 2 s m s n)), (.int .i64 (opN 2 s m s n))] 23) c1
          have c2 := alC (.cells #[(.int .i64 (opT 2 s m s n)), (.int .i64 (opN 2 s m s n))] 23) c2
          have c3 := alC (.cells #[(.int .i64 (opT 2 s m s n)), (.int .i64 (opN 2 s m s n))] 23) c3
          have c4 := alC (.cells #[(.int .i64 (opT 2 s m s n)), (.int .i64 (opN 2 s m s n))] 23) c4
          have n0 := alC (.cells #[(.int .i64 (opT 2 s m s n)), (.int .i64 (opN 2 s m s n))] 23) n0
          have n1 := alC (.cells #[(.int .i64 (opT 2 s m s n)), (.int .i64 (opN 2 s m s n))] 23) n1
          have x0 := alC (.cells #[(.int .i64 (opT 2 s m s n)), (.int .i64 (opN 2 s m s n))] 23) x0
          have x1 := alC (.cells #[(.int .i64 (opT 2 s m s n)), (.int .i64 (opN 2 s m s n))] 23) x1
          have y0 := new0 w3 (.int .i64 (opT 2 s m s n)) (.int .i64 (opN 2 s m s n))
          have y1 := new1 w3 (.int .i64 (opT 2 s m s n)) (.int .i64 (opN 2 s m s n))
          go_wp2_with (first | (go_at_call 24; refine (no_any _ _).mono ?_; rintro e w' ⟨rfl, rfl⟩) | (go_at_call 25; refine (alive_any _ (by exact ht)).mono ?_; rintro e wz ⟨rfl, hb⟩; have HB := chain HB hb; clear hb))
          go_ret
          exact ⟨rfl, HB.out⟩
        · have hst : (s != t) = true := by simp [hs]
          have HE : Hid (ngE t n = 0) := by show _ = _; simp [ngE, hn]
          go_wp2_with fail
          refine (Neg_any _ _ _ h1 h2).mono ?_
          rintro e w1 ⟨rfl, hb⟩
          have HB := chain HB hb
          have ht := cell_later hb ht
          have c1 := cell_later hb c1
          have c2 := cell_later hb c2
          have c3 := cell_later hb c3
          have c4 := cell_later hb c4
          clear hb
          rw [HE.out]
          have HB := alB (.cells #[(.int .i64 (ngT t n)), (.int .i64 (ngN t n))] 23) HB
          have ht := alC (.cells #[(.int .i64 (ngT t n)), (.int .i64 (ngN t n))] 23) ht
          have c1 := alC (.cells #[(.int .i64 (ngT t n)), (.int .i64 (ngN t n))] 23) c1
          have c2 := alC (.cells #[(.int .i64 (ngT t n)), (.int .i64 (ngN t n))] 23) c2
          have c3 := alC (.cells #[(.int .i64 (ngT t n)), (.int .i64 (ngN t n))] 23) c3
          have c4 := alC (.cells #[(.int .i64 (ngT t n)), (.int .i64 (ngN t n))] 23) c4
          have n0 := new0 w1 (.int .i64 (ngT t n)) (.int .i64 (ngN t n))
          have n1 := new1 w1 (.int .i64 (ngT t n)) (.int .i64 (ngN t n))
          go_wp2_with fail
          refine (Op_any _ _ _ _ _ _ g1 g2 h1 h2).mono ?_
          rintro e w2 ⟨rfl, hb⟩
          have HB := chain HB hb
          have ht := cell_later hb ht
          have c1 := cell_later hb c1
          have c2 := cell_later hb c2
          have c3 := cell_later hb c3
          have c4 := cell_later hb c4
          have n0 := cell_later hb n0
          have n1 := cell_later hb n1
          clear hb
          have HB := alB (.cells #[(.int .i64 (opT 2 s m t n)), (.int .i64 (opN 2 s m t n))] 23) HB
          have ht := alC (.cells #[(.int .i64 (opT 2 s m t n)), (.int .i64 (opN 2 s m t n))] 23) ht
          have c1 := alC (.cells #[(.int .i64 (opT 2 s m t n)), (.int .i64 (opN 2 s m t n))] 23) c1
          have c2 := alC (.cells #[(.int .i64 (opT 2 s m t n)), (.int .i64 (opN 2 s m t n))] 23) c2
          have c3 := alC (.cells #[(.int .i64 (opT 2 s m t n)), (.int .i64 (opN 2 s m t n))] 23) c3
          have c4 := alC (.cells #[(.int .i64 (opT 2 s m t n)), (.int .i64 (opN 2 s m t n))] 23) c4
          have n0 := alC (.cells #[(.int .i64 (opT 2 s m t n)), (.int .i64 (opN 2 s m t n))] 23) n0
          have n1 := alC (.cells #[(.int .i64 (opT 2 s m t n)), (.int .i64 (opN 2 s m t n))] 23) n1
          have x0 := new0 w2 (.int .i64 (opT 2 s m t n)) (.int .i64 (opN 2 s m t n))
          have x1 := new1 w2 (.int .i64 (opT 2 s m t n)) (.int .i64 (opN 2 s m t n))
          go_wp2_with fail
          refine (Op_any _ _ _ _ _ _ g1 g2 ng_bounds.1 ng_bounds.2).mono ?_
          rintro e w3 ⟨rfl, hb⟩
          have HB := chain HB hb
          have ht := cell_later hb ht
          have c1 := cell_later hb c1
          have c2 := cell_later hb c2
          have c3 := cell_later hb c3
          have c4 := cell_later hb c4
          have n0 := cell_later hb n0
          have n1 := cell_later hb n1
          have x0 := cell_later hb x0
          have x1 := cell_later hb x1
          clear hb
          have HB := alB (.cells #[(.int .i64 (opT 1 s m (ngT t n) (ngN t n))), (.int .i64 (opN 1 s m (ngT t n) (ngN t n)))] 23) HB
          have ht := alC (.cells #[(.int .i64 (opT 1 s m (ngT t n) (ngN t n))), (.int .i64 (opN 1 s m (ngT t n) (ngN t n)))] 23) ht
          have c1 := alC (.cells #[(.int .i64 (opT 1 s m (ngT t n) (ngN t n))), (.int .i64 (opN 1 s m (ngT t n) (ngN t n)))] 23) c1
          have c2 := alC (.cells #[(.int .i64 (opT 1 s m (ngT t n) (ngN t n))), (.int .i64 (opN 1 s m (ngT t n) (ngN t n)))] 23) c2
          have c3 := alC (.cells #[(.int .i64 (opT 1 s m (ngT t n) (ngN t n))), (.int .i64 (opN 1 s m (ngT t n) (ngN t n)))] 23) c3
          have c4 := alC (.cells #[(.int .i64 (opT 1 s m (ngT t n) (ngN t n))), (.int .i64 (opN 1 s m (ngT t n) (ngN t n)))] 23) c4
          have n0 := alC (.cells #[(.int .i64 (opT 1 s m (ngT t n) (ngN t n))), (.int .i64 (opN 1 s m (ngT t n) (ngN t n)))] 23) n0
          have n1 := alC (.cells #[(.int .i64 (opT 1 s m (ngT t n) (ngN t n))), (.int .i64 (opN 1 s m (ngT t n) (ngN t n)))] 23) n1
          have x0 := alC (.cells #[(.int .i64 (opT 1 s m (ngT t n) (ngN t n))), (.int .i64 (opN 1 s m (ngT t n) (ngN t n)))] 23) x0
          have x1 := alC (.cells #[(.int .i64 (opT 1 s m (ngT t n) (ngN t n))), (.int .i64 (opN 1 s m (ngT t n) (ngN t n)))] 23) x1
          have y0 := new0 w3 (.int .i64 (opT 1 s m (ngT t n) (ngN t n))) (.int .i64 (opN 1 s m (ngT t n) (ngN t n)))
          have y1 := new1 w3 (.int .i64 (opT 1 s m (ngT t n) (ngN t n))) (.int .i64 (opN 1 s m (ngT t n) (ngN t n)))
          go_wp2_with (first | (go_at_call 24; refine (no_any _ _).mono ?_; rintro e w' ⟨rfl, rfl⟩) | (go_at_call 25; refine (alive_any _ (by exact ht)).mono ?_; rintro e wz ⟨rfl, hb⟩; have HB := chain HB hb; clear hb))
          go_ret
          exact ⟨rfl, HB.out⟩
      · have HE : Hid (ngE t n = 10) := by show _ = _; simp [ngE, hn]
        have HO : Hid (opE 2 s m t n = 10) := by show _ = _; simp [opE, hn]
        go_wp2_with fail
        refine (Neg_any _ _ _ h1 h2).mono ?_
        rintro e w1 ⟨rfl, hb⟩
        have HB := chain HB hb
        have ht := cell_later hb ht
        have c1 := cell_later hb c1
        have c2 := cell_later hb c2
        have c3 := cell_later hb c3
        have c4 := cell_later hb c4
        clear hb
        rw [HE.out]
        have HB := alB (.cells #[(.int .i64 (ngT t n)), (.int .i64 (ngN t n))] 23) HB
        have ht := alC (.cells #[(.int .i64 (ngT t n)), (.int .i64 (ngN t n))] 23) ht
        have c1 := alC (.cells #[(.int .i64 (ngT t n)), (.int .i64 (ngN t n))] 23) c1
        have c2 := alC (.cells #[(.int .i64 (ngT t n)), (.int .i64 (ngN t n))] 23) c2
        have c3 := alC (.cells #[(.int .i64 (ngT t n)), (.int .i64 (ngN t n))] 23) c3
        have c4 := alC (.cells #[(.int .i64 (ngT t n)), (.int .i64 (ngN t n))] 23) c4
        have n0 := new0 w1 (.int .i64 (ngT t n)) (.int .i64 (ngN t n))
        have n1 := new1 w1 (.int .i64 (ngT t n)) (.int .i64 (ngN t n))
        go_wp2_with fail
        refine (Op_any _ _ _ _ _ _ g1 g2 h1 h2).mono ?_
        rintro e w2 ⟨rfl, hb⟩
        have HB := chain HB hb
        have ht := cell_later hb ht
        have c1 := cell_later hb c1
        have c2 := cell_later hb c2
        have c3 := cell_later hb c3
        have c4 := cell_later hb c4
        have n0 := cell_later hb n0
        have n1 := cell_later hb n1
        clear hb
        rw [HO.out]
        have HB := alB (.cells #[(.int .i64 (opT 2 s m t n)), (.int .i64 (opN 2 s m t n))] 23) HB
        have ht := alC (.cells #[(.int .i64 (opT 2 s m t n)), (.int .i64 (opN 2 s m t n))] 23) ht
        have c1 := alC (.cells #[(.int .i64 (opT 2 s m t n)), (.int .i64 (opN 2 s m t n))] 23) c1
        have c2 := alC (.cells #[(.int .i64 (opT 2 s m t n)), (.int .i64 (opN 2 s m t n))] 23) c2
        have c3 := alC (.cells #[(.int .i64 (opT 2 s m t n)), (.int .i64 (opN 2 s m t n))] 23) c3
        have c4 := alC (.cells #[(.int .i64 (opT 2 s m t n)), (.int .i64 (opN 2 s m t n))] 23) c4
        have n0 := alC (.cells #[(.int .i64 (opT 2 s m t n)), (.int .i64 (opN 2 s m t n))] 23) n0
        have n1 := alC (.cells #[(.int .i64 (opT 2 s m t n)), (.int .i64 (opN 2 s m t n))] 23) n1
        have x0 := new0 w2 (.int .i64 (opT 2 s m t n)) (.int .i64 (opN 2 s m t n))
        have x1 := new1 w2 (.int .i64 (opT 2 s m t n)) (.int .i64 (opN 2 s m t n))
        go_wp2_with fail
        refine (Op_any _ _ _ _ _ _ g1 g2 ng_bounds.1 ng_bounds.2).mono ?_
        rintro e w3 ⟨rfl, hb⟩
        have HB := chain HB hb
        have ht := cell_later hb ht
        have c1 := cell_later hb c1
        have c2 := cell_later hb c2
        have c3 := cell_later hb c3
        have c4 := cell_later hb c4
        have n0 := cell_later hb n0
        have n1 := cell_later hb n1
        have x0 := cell_later hb x0
        have x1 := cell_later hb x1
        clear hb
        have HB := alB (.cells #[(.int .i64 (opT 1 s m (ngT t n) (ngN t n))), (.int .i64 (opN 1 s m (ngT t n) (ngN t n)))] 23) HB
        have ht := alC (.cells #[(.int .i64 (opT 1 s m (ngT t n) (ngN t n))), (.int .i64 (opN 1 s m (ngT t n) (ngN t n)))] 23) ht
        have c1 := alC (.cells #[(.int .i64 (opT 1 s m (ngT t n) (ngN t n))), (.int .i64 (opN 1 s m (ngT t n) (ngN t n)))] 23) c1
        have c2 := alC (.cells #[(.int .i64 (opT 1 s m (ngT t n) (ngN t n))), (.int .i64 (opN 1 s m (ngT t n) (ngN t n)))] 23) c2
        have c3 := alC (.cells #[(.int .i64 (opT 1 s m (ngT t n) (ngN t n))), (.int .i64 (opN 1 s m (ngT t n) (ngN t n)))] 23) c3
        have c4 := alC (.cells #[(.int .i64 (opT 1 s m (ngT t n) (ngN t n))), (.int .i64 (opN 1 s m (ngT t n) (ngN t n)))] 23) c4
        have n0 := alC (.cells #[(.int .i64 (opT 1 s m (ngT t n) (ngN t n))), (.int .i64 (opN 1 s m (ngT t n) (ngN t n)))] 23) n0
        have n1 := alC (.cells #[(.int .i64 (opT 1 s m (ngT t n) (ngN t n))), (.int .i64 (opN 1 s m (ngT t n) (ngN t n)))] 23) n1
        have x0 := alC (.cells #[(.int .i64 (opT 1 s m (ngT t n) (ngN t n))), (.int .i64 (opN 1 s m (ngT t n) (ngN t n)))] 23) x0
        have x1 := alC (.cells #[(.int .i64 (opT 1 s m (ngT t n) (ngN t n))), (.int .i64 (opN 1 s m (ngT t n) (ngN t n)))] 23) x1
        have y0 := new0 w3 (.int .i64 (opT 1 s m (ngT t n) (ngN t n))) (.int .i64 (opN 1 s m (ngT t n) (ngN t n)))
        have y1 := new1 w3 (.int .i64 (opT 1 s m (ngT t n) (ngN t n))) (.int .i64 (opN 1 s m (ngT t n) (ngN t n)))
        go_wp2_with (first | (go_at_call 24; refine (no_any _ _).mono ?_; rintro e w' ⟨rfl, rfl⟩) | (go_at_call 25; refine (alive_any _ (by exact ht)).mono ?_; rintro e wz ⟨rfl, hb⟩; have HB := chain HB hb; clear hb))
        go_ret
        exact ⟨rfl, HB.out⟩
end Go.Proofs.YtakpmefkddplhaaGreatDoor
