/- TableNil: the walk. -/
import Derived.Test.YthefmfjlinpepaaC1
import Derived.Test.YthefmfjlinpepaaNL
namespace Go.Proofs.Ythefmfjlinpepaa
open Go.RowKit Go.Shelf
set_option linter.unusedSimpArgs false
set_option linter.unusedVariables false
attribute [local go_sem] Oper.semAt_some

/-- The boxes of keys and answers. -/
structure NB (w : World) (k1 k2 v1 v2 : Int) (W : World) : Prop where
  b0 : W.heap[w.heap.size]? = some (.cells #[.int .i64 k1, .int .i64 k2] 33 (0, 0))
  b1 : W.heap[w.heap.size + 1]? = some (.cells #[.int .i64 v1, .int .i64 v2] 33 (0, 0))
  kp : Kept No w W
theorem NB.later {w : World} {k1 k2 v1 v2 : Int} {W W' : World} (h : NB w k1 k2 v1 v2 W) (hk : Kept No W W') : NB w k1 k2 v1 v2 W' := ⟨hk.heap h.b0 id, hk.heap h.b1 id, h.kp.trans hk⟩
theorem NB.cells {w : World} {k1 k2 v1 v2 : Int} {W : World} (h : NB w k1 k2 v1 v2 W) : W.cell? ⟨w.heap.size, 0, none⟩ = some (.int .i64 k1) ∧ W.cell? ⟨w.heap.size, 1, none⟩ = some (.int .i64 k2) ∧ W.cell? ⟨w.heap.size + 1, 0, none⟩ = some (.int .i64 v1) ∧ W.cell? ⟨w.heap.size + 1, 1, none⟩ = some (.int .i64 v2) := by
  refine ⟨?_, ?_, ?_, ?_⟩
  · rw [cell_of h.b0]; rfl
  · rw [cell_of h.b0]; rfl
  · rw [cell_of h.b1]; rfl
  · rw [cell_of h.b1]; rfl
/-- The two answers' boxes. -/
structure NC (Ba : Nat) (W : World) : Prop where
  b0 : W.heap[Ba]? = some (.cells #[.int .i64 0, .int .i64 0] 33 (0, 0))
  b1 : W.heap[Ba + 1]? = some (.cells #[.int .i64 0, .int .i64 0] 33 (0, 0))
theorem NC.later {Ba : Nat} {W W' : World} (h : NC Ba W) (hk : Kept No W W') : NC Ba W' := ⟨hk.heap h.b0 id, hk.heap h.b1 id⟩
theorem NC.cells {Ba : Nat} {W : World} (h : NC Ba W) : W.cell? ⟨Ba, 0, none⟩ = some (.int .i64 0) ∧ W.cell? ⟨Ba, 1, none⟩ = some (.int .i64 0) ∧ W.cell? ⟨Ba + 1, 0, none⟩ = some (.int .i64 0) ∧ W.cell? ⟨Ba + 1, 1, none⟩ = some (.int .i64 0) := by
  refine ⟨?_, ?_, ?_, ?_⟩
  · rw [cell_of h.b0]; rfl
  · rw [cell_of h.b0]; rfl
  · rw [cell_of h.b1]; rfl
  · rw [cell_of h.b1]; rfl

theorem eqz (w : World) : (Op.equalIn 10000 33 (.agg #[.int .i64 0, .int .i64 0]) (.agg #[.int .i64 0, .int .i64 0])).run Try.prog w = .ok true w := (eq33 0 0 0 0 w).trans (by simp)

set_option maxRecDepth 100000 in
set_option maxHeartbeats 8000000 in
theorem TableNil_any (k1 k2 v1 v2 i : Int) (w : World) (_ : I64 k1) (_ : I64 k2) (_ : I64 v1) (_ : I64 v2) (_ : I64 i) : Calls Try.prog 11 #[AV k1 k2, AV v1 v2, .int .i64 i] w fun e w' => e = .returned (.bool true) ∧ Kept No w w' := by
  have N0 : Hid (NB w k1 k2 v1 v2 ((w.alloc (.cells #[.int .i64 k1, .int .i64 k2] 33)).alloc (.cells #[.int .i64 v1, .int .i64 v2] 33))) := by
    refine ⟨heap_old (heap_new1 _ _) _, ?_, ((Kept.refl _ _).alloc _).alloc _⟩
    have := heap_new1 (w.alloc (.cells #[.int .i64 k1, .int .i64 k2] 33)) (.cells #[.int .i64 v1, .int .i64 v2] 33); rw [World.size_alloc] at this; exact this
  have heq := eqz
  go_enter Try.func11, Try.ntmps11
  go_wp2_with fail
  generalize (w.alloc _).alloc _ = w0 at N0 ⊢
  refine (Next_nil k1 k2 _).mono ?_
  rintro e w1 ⟨rfl, hk⟩
  have N1 : Hid (NB w k1 k2 v1 v2 w1) := N0.out.later hk
  clear N0 hk
  go_wp2_with fail
  have N2 : Hid (NB w k1 k2 v1 v2 ((w1.alloc (.cells #[.int .i64 0, .int .i64 0] 33)).alloc (.cells #[.int .i64 0, .int .i64 0] 33))) := N1.out.later (((Kept.refl _ _).alloc _).alloc _)
  have M2 : Hid (NC w1.heap.size ((w1.alloc (.cells #[.int .i64 0, .int .i64 0] 33)).alloc (.cells #[.int .i64 0, .int .i64 0] 33))) := by
    refine ⟨heap_old (heap_new1 _ _) _, ?_⟩
    have := heap_new1 (w1.alloc (.cells #[.int .i64 0, .int .i64 0] 33)) (.cells #[.int .i64 0, .int .i64 0] 33); rw [World.size_alloc] at this; exact this
  generalize (w1.alloc _).alloc _ = w2 at N2 M2 ⊢
  generalize w1.heap.size = Ba at M2 ⊢
  clear N1
  refine (Kill_nil i _).mono ?_
  rintro e w' ⟨rfl, rfl⟩
  obtain ⟨c0, c1, c2, c3⟩ := N2.out.cells
  obtain ⟨d0, d1, d2, d3⟩ := M2.out.cells
  go_wp2_with fail
  refine (SetSlot_nil i v1 v2 _).mono ?_
  rintro e w3 ⟨rfl, hk⟩
  have N3 : Hid (NB w k1 k2 v1 v2 w3) := N2.out.later (Kept.of_below hk)
  have M3 : Hid (NC Ba w3) := M2.out.later (Kept.of_below hk)
  clear N2 M2 hk c0 c1 c2 c3 d0 d1 d2 d3
  obtain ⟨c0, c1, c2, c3⟩ := N3.out.cells
  obtain ⟨d0, d1, d2, d3⟩ := M3.out.cells
  go_wp2_with fail
  refine (Get_nil k1 k2 _).mono ?_
  rintro e w4 ⟨rfl, hk⟩
  have N4 : Hid (NB w k1 k2 v1 v2 w4) := N3.out.later (Kept.of_below hk)
  have M4 : Hid (NC Ba w4) := M3.out.later (Kept.of_below hk)
  clear N3 M3 hk c0 c1 c2 c3 d0 d1 d2 d3
  obtain ⟨c0, c1, c2, c3⟩ := N4.out.cells
  obtain ⟨d0, d1, d2, d3⟩ := M4.out.cells
  go_wp2_with fail
  refine (Set_nil k1 k2 v1 v2 _).mono ?_
  rintro e w5 ⟨rfl, hk⟩
  have N5 : Hid (NB w k1 k2 v1 v2 w5) := N4.out.later (Kept.of_below hk)
  have M5 : Hid (NC Ba w5) := M4.out.later (Kept.of_below hk)
  clear N4 M4 hk c0 c1 c2 c3 d0 d1 d2 d3
  obtain ⟨c0, c1, c2, c3⟩ := N5.out.cells
  obtain ⟨d0, d1, d2, d3⟩ := M5.out.cells
  go_wp2_with fail
  refine (no_any 2 _).mono ?_
  rintro e w' ⟨rfl, rfl⟩
  go_wp2_with fail
  refine (Len_nil _).mono ?_
  rintro e w6 ⟨rfl, hk⟩
  have N6 : Hid (NB w k1 k2 v1 v2 w6) := N5.out.later hk
  have M6 : Hid (NC Ba w6) := M5.out.later hk
  clear N5 M5 hk c0 c1 c2 c3 d0 d1 d2 d3
  obtain ⟨c0, c1, c2, c3⟩ := N6.out.cells
  obtain ⟨d0, d1, d2, d3⟩ := M6.out.cells
  go_wp2_with fail
  refine (no_any 2 _).mono ?_
  rintro e w' ⟨rfl, rfl⟩
  go_wp2_with fail
  refine (Array_nil _).mono ?_
  rintro e w' ⟨rfl, rfl⟩
  go_wp2_with fail
  refine (Nodes_nil _).mono ?_
  rintro e w' ⟨rfl, rfl⟩
  go_wp2_with fail
  refine (Slot_nil i _).mono ?_
  rintro e w7 ⟨rfl, hk⟩
  have N7 : Hid (NB w k1 k2 v1 v2 w7) := N6.out.later (Kept.of_below hk)
  have M7 : Hid (NC Ba w7) := M6.out.later (Kept.of_below hk)
  clear N6 M6 hk c0 c1 c2 c3 d0 d1 d2 d3
  obtain ⟨c0, c1, c2, c3⟩ := N7.out.cells
  obtain ⟨d0, d1, d2, d3⟩ := M7.out.cells
  go_wp2_with fail
  refine (Resize_nil 1 1 _).mono ?_
  rintro e w' ⟨rfl, rfl⟩
  go_wp2_with fail
  refine (no_any 2 _).mono ?_
  rintro e w' ⟨rfl, rfl⟩
  go_wp2_with fail
  refine (Hash_nil k1 k2 _).mono ?_
  rintro e w8 ⟨rfl, hk⟩
  have N8 : Hid (NB w k1 k2 v1 v2 w8) := N7.out.later (Kept.of_below hk)
  have M8 : Hid (NC Ba w8) := M7.out.later (Kept.of_below hk)
  clear N7 M7 hk c0 c1 c2 c3 d0 d1 d2 d3
  obtain ⟨c0, c1, c2, c3⟩ := N8.out.cells
  obtain ⟨d0, d1, d2, d3⟩ := M8.out.cells
  go_wp2_with fail
  refine (alive_any _).mono ?_
  rintro e w9 ⟨rfl, hk⟩
  have HE : Hid (Kept No w w9) := N8.out.kp.trans hk
  clear N8 M8 hk c0 c1 c2 c3 d0 d1 d2 d3
  go_wp2
  go_ret
  exact ⟨rfl, HE.out⟩
end Go.Proofs.Ythefmfjlinpepaa
