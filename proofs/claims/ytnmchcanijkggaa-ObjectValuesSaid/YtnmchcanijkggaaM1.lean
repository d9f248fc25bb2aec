/- ObjectValues, ObjectApart: the walks. -/
import Derived.Test.YtnmchcanijkggaaV1
namespace Go.Proofs.Ytnmchcanijkggaa
open Go.RowKit Go.Lib
set_option linter.unusedVariables false

set_option maxHeartbeats 2000000 in
theorem ObjectValues_any (t n : Int) (w : World) (hn : I64 n) :
    Calls Try.prog 4 #[AV t n] w fun e w' => e = .returned (.bool true) ∧ Below w.heap.size w w' := by
  have HV : Hid (∀ W, Calls Try.prog 23 #[AV t n] W fun e w' => e = .returned (.bool (valB t n)) ∧ Below W.heap.size W w') := fun W => Value_any t n W hn.1 hn.2
  clear hn
  go_enter Try.func4, Try.ntmps4
  go_wp2
  have HB0 : Hid (Below w.heap.size w (w.alloc (.cells #[.int .i64 t, .int .i64 n] 38))) := (Below.refl _ _).alloc (Nat.le_refl _) _
  have c0 : (w.alloc (.cells #[.int .i64 t, .int .i64 n] 38)).cell? ⟨w.heap.size, 0, none⟩ = some (.int .i64 t) := by rw [World.cell?_alloc_at _ _ _ _ rfl]; rfl
  have c1 : (w.alloc (.cells #[.int .i64 t, .int .i64 n] 38)).cell? ⟨w.heap.size, 1, none⟩ = some (.int .i64 n) := by rw [World.cell?_alloc_at _ _ _ _ rfl]; rfl
  generalize w.alloc (.cells #[.int .i64 t, .int .i64 n] 38) = W at HB0 c0 c1 ⊢
  refine region_quiet_class (C := fun w' => Below W.heap.size W w') (by kernel_rfl) (by kernel_rfl) (Below.refl _ _).drew ?_
  refine q_op (AV t n) (by kernel_rfl) (fun w2 hw2 => by simp [go_sem, cell_later hw2 c0, cell_later hw2 c1]) ?_
  simp only [Act.put, List.setIfInBounds_toArray, List.set_cons_zero, List.set_cons_succ]
  refine q_call 23 #[AV t n] (.bool (valB t n)) (by kernel_rfl) (fun w2 hw2 => by simp [go_sem]) (fun w2 hw2 => (HV.out w2).mono (fun e w3 ⟨he, hb⟩ => ⟨he, Below.trans hw2 (hb.mono (Below.size hw2))⟩)) ?_
  simp only [Act.put, List.setIfInBounds_toArray, List.set_cons_zero, List.set_cons_succ]
  refine q_op (AV t n) (by kernel_rfl) (fun w2 hw2 => by simp [go_sem, cell_later hw2 c0, cell_later hw2 c1]) ?_
  simp only [Act.put, List.setIfInBounds_toArray, List.set_cons_zero, List.set_cons_succ]
  refine q_call 24 #[AV t n] (.bool (valB t n)) (by kernel_rfl) (fun w2 hw2 => by simp [go_sem]) (fun w2 hw2 => (RValue_any t n w2).mono (fun e w3 ⟨he, hb⟩ => ⟨he, Below.trans hw2 (hb.mono (Below.size hw2))⟩)) ?_
  simp only [Act.put, List.setIfInBounds_toArray, List.set_cons_zero, List.set_cons_succ]
  refine q_op (.bool true) (by kernel_rfl) (fun w2 hw2 => by simp [go_sem]) ?_
  simp only [Act.put, List.setIfInBounds_toArray, List.set_cons_zero, List.set_cons_succ]
  refine q_op (.bool true) (by kernel_rfl) (fun w2 hw2 => by simp [go_sem]) ?_
  simp only [Act.put, List.setIfInBounds_toArray, List.set_cons_zero, List.set_cons_succ]
  refine q_call 22 #[] (.bool true) (by kernel_rfl) (fun w2 hw2 => by simp [go_sem]) (fun w2 hw2 => (alive_any w2).mono (fun e w3 ⟨he, hb⟩ => ⟨he, Below.trans hw2 (hb.mono (Below.size hw2))⟩)) ?_
  simp only [Act.put, List.setIfInBounds_toArray, List.set_cons_zero, List.set_cons_succ]
  refine q_op (.bool true) (by kernel_rfl) (fun w2 hw2 => by simp [go_sem]) ?_
  simp only [Act.put, List.setIfInBounds_toArray, List.set_cons_zero, List.set_cons_succ]
  refine q_op (.bool true) (by kernel_rfl) (fun w2 hw2 => by simp [go_sem]) ?_
  simp only [Act.put, List.setIfInBounds_toArray, List.set_cons_zero, List.set_cons_succ]
  refine wpQuiet_nil ?_
  intro w3 H3
  have HB3 : Hid (Below w.heap.size w w3) := HB0.out.trans (Below.mono H3 HB0.out.size)
  clear H3
  go_wp2
  go_ret
  exact ⟨rfl, HB3.out⟩
end Go.Proofs.Ytnmchcanijkggaa
