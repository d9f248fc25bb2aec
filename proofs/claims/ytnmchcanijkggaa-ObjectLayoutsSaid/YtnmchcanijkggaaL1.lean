/- Layouts by kinds. -/
import Derived.Test.YtnmchcanijkggaaP8
namespace Go.Proofs.Ytnmchcanijkggaa
open Go.RowKit Go.Lib
set_option linter.unusedVariables false

/-- The table of layouts, and one without anything. -/
def tabF : Array Value := #[.nilFunc, .nilFunc, .nilFunc, .nilFunc, .nilFunc, .nilFunc, .nilFunc, .nilFunc, .func (.func 56) #[] #[], .nilFunc, .func (.func 57) #[] #[], .func (.func 58) #[] #[], .func (.func 59) #[] #[], .nilFunc, .func (.func 60) #[] #[], .nilFunc, .func (.func 61) #[] #[], .nilFunc, .func (.func 62) #[] #[], .nilFunc]
def tabZ : Array Value := #[.nilFunc, .nilFunc, .nilFunc, .nilFunc, .nilFunc, .nilFunc, .nilFunc, .nilFunc, .nilFunc, .nilFunc, .nilFunc, .nilFunc, .nilFunc, .nilFunc, .nilFunc, .nilFunc, .nilFunc, .nilFunc, .nilFunc, .nilFunc]
theorem tab_size : (Try.prog.info? 82).map (·.size) = some tabF.size := by kernel_rfl
theorem tab_one : tabF.all (·.oneCell') = true := by kernel_rfl

theorem heap_tab (w : World) (o : Obj) : ((w.alloc o).alloc (.cells tabZ 82)).heap[w.heap.size + 1]? = some (.cells tabZ 82 (0, 0)) := by
  have := heap_alloc_new (w.alloc o) (.cells tabZ 82)
  simpa using this

theorem store_tab {ops : Array Oper} {rest : List Oper} {o : Oper} {a : Act} {Q : Exit → Act → World → Prop} (w : World) (o1 : Obj) (hgd : o.guard = none) (x y : Operand) (ho : o.op = .store 82 x y)
    (hx : a.eval x = .pointer (some ⟨w.heap.size + 1, 0, none⟩)) (hy : a.eval y = .agg tabF)
    (h : ∀ W2, Hid (W2.heap[w.heap.size + 1]? = some (.cells tabF 82 (0, 0))) → Hid (W2.heap[w.heap.size]? = some o1) → Hid (Below w.heap.size w W2) → wpList Try.prog ops Q rest (a.put o.dst undef) W2) :
    wpList Try.prog ops Q (o :: rest) a ((w.alloc o1).alloc (.cells tabZ 82)) := by
  refine wpList_store_row hgd 82 x y ho (w.heap.size + 1) tabF hx hy 82 tabZ (heap_tab w o1) tab_size rfl tab_one (h _ ?_ ?_ ?_)
  · exact setRow_heap _ (w.heap.size + 1) tabZ tabF 82 (0, 0) (heap_tab w o1)
  · have e := setRow_other ((w.alloc o1).alloc (.cells tabZ 82)) (w.heap.size + 1) w.heap.size tabF (by omega)
    have hb := ((Below.refl (w.alloc o1).heap.size (w.alloc o1)).alloc (Nat.le_refl _) (.cells tabZ 82)).block w.heap.size (by simp)
    show _ = _
    rw [e, hb]; exact heap_alloc_new w o1
  · have hb : Below w.heap.size w ((w.alloc o1).alloc (.cells tabZ 82)) := ((Below.refl _ _).alloc (Nat.le_refl _) o1).alloc (by simp) _
    exact hb.trans ⟨rfl, rfl, rfl, by simp, fun k hk => setRow_other _ _ k _ (by omega)⟩

set_option maxHeartbeats 1000000 in
theorem layoutOf_4 (w : World) :
    Calls Try.prog 48 #[.int .i64 4] w fun e w' => e = .returned (.agg #[.func (.func 56) #[] #[], .nilFunc]) ∧ Below w.heap.size w w' := by
  go_enter Try.func48, Try.ntmps48
  go_wp2_with (refine store_tab w (.cells #[.nilFunc, .nilFunc] 74) rfl (.tmp 3) (.tmp 10) rfl rfl rfl ?_)
  intro W2 HF HR HB
  have a1 : W2.cell? ⟨w.heap.size + 1, 8, none⟩ = some (.func (.func 56) #[] #[]) := by rw [cell_of_row _ _ _ _ _ _ HF.out]; rfl
  have a2 : W2.cell? ⟨w.heap.size + 1, 9, none⟩ = some (.nilFunc) := by rw [cell_of_row _ _ _ _ _ _ HF.out]; rfl
  have z0 : W2.cell? ⟨w.heap.size, 0, none⟩ = some .nilFunc := by rw [cell_of_row _ _ _ _ _ _ HR.out]; rfl
  have z1 : W2.cell? ⟨w.heap.size, 1, none⟩ = some .nilFunc := by rw [cell_of_row _ _ _ _ _ _ HR.out]; rfl
  have f0 : W2.frozen? ⟨w.heap.size, 0, none⟩ = false := frozen_of_row _ _ _ _ _ HR.out
  have f1 : W2.frozen? ⟨w.heap.size, 1, none⟩ = false := frozen_of_row _ _ _ _ _ HR.out
  clear HF HR
  go_wp2
  exact bodyPost_ret (v := .agg #[.func (.func 56) #[] #[], .nilFunc]) (by simp [results, Try.results48, go_sem, z0, z1]) rfl ⟨rfl, (HB.out.setCell (Nat.le_refl _) _).setCell (Nat.le_refl _) _⟩

set_option maxHeartbeats 1000000 in
theorem layoutOf_5 (w : World) :
    Calls Try.prog 48 #[.int .i64 5] w fun e w' => e = .returned (.agg #[.func (.func 57) #[] #[], .func (.func 58) #[] #[]]) ∧ Below w.heap.size w w' := by
  go_enter Try.func48, Try.ntmps48
  go_wp2_with (refine store_tab w (.cells #[.nilFunc, .nilFunc] 74) rfl (.tmp 3) (.tmp 10) rfl rfl rfl ?_)
  intro W2 HF HR HB
  have a1 : W2.cell? ⟨w.heap.size + 1, 10, none⟩ = some (.func (.func 57) #[] #[]) := by rw [cell_of_row _ _ _ _ _ _ HF.out]; rfl
  have a2 : W2.cell? ⟨w.heap.size + 1, 11, none⟩ = some (.func (.func 58) #[] #[]) := by rw [cell_of_row _ _ _ _ _ _ HF.out]; rfl
  have z0 : W2.cell? ⟨w.heap.size, 0, none⟩ = some .nilFunc := by rw [cell_of_row _ _ _ _ _ _ HR.out]; rfl
  have z1 : W2.cell? ⟨w.heap.size, 1, none⟩ = some .nilFunc := by rw [cell_of_row _ _ _ _ _ _ HR.out]; rfl
  have f0 : W2.frozen? ⟨w.heap.size, 0, none⟩ = false := frozen_of_row _ _ _ _ _ HR.out
  have f1 : W2.frozen? ⟨w.heap.size, 1, none⟩ = false := frozen_of_row _ _ _ _ _ HR.out
  clear HF HR
  go_wp2
  exact bodyPost_ret (v := .agg #[.func (.func 57) #[] #[], .func (.func 58) #[] #[]]) (by simp [results, Try.results48, go_sem, z0, z1]) rfl ⟨rfl, (HB.out.setCell (Nat.le_refl _) _).setCell (Nat.le_refl _) _⟩

set_option maxHeartbeats 1000000 in
theorem layoutOf_6 (w : World) :
    Calls Try.prog 48 #[.int .i64 6] w fun e w' => e = .returned (.agg #[.func (.func 59) #[] #[], .nilFunc]) ∧ Below w.heap.size w w' := by
  go_enter Try.func48, Try.ntmps48
  go_wp2_with (refine store_tab w (.cells #[.nilFunc, .nilFunc] 74) rfl (.tmp 3) (.tmp 10) rfl rfl rfl ?_)
  intro W2 HF HR HB
  have a1 : W2.cell? ⟨w.heap.size + 1, 12, none⟩ = some (.func (.func 59) #[] #[]) := by rw [cell_of_row _ _ _ _ _ _ HF.out]; rfl
  have a2 : W2.cell? ⟨w.heap.size + 1, 13, none⟩ = some (.nilFunc) := by rw [cell_of_row _ _ _ _ _ _ HF.out]; rfl
  have z0 : W2.cell? ⟨w.heap.size, 0, none⟩ = some .nilFunc := by rw [cell_of_row _ _ _ _ _ _ HR.out]; rfl
  have z1 : W2.cell? ⟨w.heap.size, 1, none⟩ = some .nilFunc := by rw [cell_of_row _ _ _ _ _ _ HR.out]; rfl
  have f0 : W2.frozen? ⟨w.heap.size, 0, none⟩ = false := frozen_of_row _ _ _ _ _ HR.out
  have f1 : W2.frozen? ⟨w.heap.size, 1, none⟩ = false := frozen_of_row _ _ _ _ _ HR.out
  clear HF HR
  go_wp2
  exact bodyPost_ret (v := .agg #[.func (.func 59) #[] #[], .nilFunc]) (by simp [results, Try.results48, go_sem, z0, z1]) rfl ⟨rfl, (HB.out.setCell (Nat.le_refl _) _).setCell (Nat.le_refl _) _⟩

set_option maxHeartbeats 1000000 in
theorem layoutOf_7 (w : World) :
    Calls Try.prog 48 #[.int .i64 7] w fun e w' => e = .returned (.agg #[.func (.func 60) #[] #[], .nilFunc]) ∧ Below w.heap.size w w' := by
  go_enter Try.func48, Try.ntmps48
  go_wp2_with (refine store_tab w (.cells #[.nilFunc, .nilFunc] 74) rfl (.tmp 3) (.tmp 10) rfl rfl rfl ?_)
  intro W2 HF HR HB
  have a1 : W2.cell? ⟨w.heap.size + 1, 14, none⟩ = some (.func (.func 60) #[] #[]) := by rw [cell_of_row _ _ _ _ _ _ HF.out]; rfl
  have a2 : W2.cell? ⟨w.heap.size + 1, 15, none⟩ = some (.nilFunc) := by rw [cell_of_row _ _ _ _ _ _ HF.out]; rfl
  have z0 : W2.cell? ⟨w.heap.size, 0, none⟩ = some .nilFunc := by rw [cell_of_row _ _ _ _ _ _ HR.out]; rfl
  have z1 : W2.cell? ⟨w.heap.size, 1, none⟩ = some .nilFunc := by rw [cell_of_row _ _ _ _ _ _ HR.out]; rfl
  have f0 : W2.frozen? ⟨w.heap.size, 0, none⟩ = false := frozen_of_row _ _ _ _ _ HR.out
  have f1 : W2.frozen? ⟨w.heap.size, 1, none⟩ = false := frozen_of_row _ _ _ _ _ HR.out
  clear HF HR
  go_wp2
  exact bodyPost_ret (v := .agg #[.func (.func 60) #[] #[], .nilFunc]) (by simp [results, Try.results48, go_sem, z0, z1]) rfl ⟨rfl, (HB.out.setCell (Nat.le_refl _) _).setCell (Nat.le_refl _) _⟩

set_option maxHeartbeats 1000000 in
theorem layoutOf_8 (w : World) :
    Calls Try.prog 48 #[.int .i64 8] w fun e w' => e = .returned (.agg #[.func (.func 61) #[] #[], .nilFunc]) ∧ Below w.heap.size w w' := by
  go_enter Try.func48, Try.ntmps48
  go_wp2_with (refine store_tab w (.cells #[.nilFunc, .nilFunc] 74) rfl (.tmp 3) (.tmp 10) rfl rfl rfl ?_)
  intro W2 HF HR HB
  have a1 : W2.cell? ⟨w.heap.size + 1, 16, none⟩ = some (.func (.func 61) #[] #[]) := by rw [cell_of_row _ _ _ _ _ _ HF.out]; rfl
  have a2 : W2.cell? ⟨w.heap.size + 1, 17, none⟩ = some (.nilFunc) := by rw [cell_of_row _ _ _ _ _ _ HF.out]; rfl
  have z0 : W2.cell? ⟨w.heap.size, 0, none⟩ = some .nilFunc := by rw [cell_of_row _ _ _ _ _ _ HR.out]; rfl
  have z1 : W2.cell? ⟨w.heap.size, 1, none⟩ = some .nilFunc := by rw [cell_of_row _ _ _ _ _ _ HR.out]; rfl
  have f0 : W2.frozen? ⟨w.heap.size, 0, none⟩ = false := frozen_of_row _ _ _ _ _ HR.out
  have f1 : W2.frozen? ⟨w.heap.size, 1, none⟩ = false := frozen_of_row _ _ _ _ _ HR.out
  clear HF HR
  go_wp2
  exact bodyPost_ret (v := .agg #[.func (.func 61) #[] #[], .nilFunc]) (by simp [results, Try.results48, go_sem, z0, z1]) rfl ⟨rfl, (HB.out.setCell (Nat.le_refl _) _).setCell (Nat.le_refl _) _⟩

set_option maxHeartbeats 1000000 in
theorem layoutOf_9 (w : World) :
    Calls Try.prog 48 #[.int .i64 9] w fun e w' => e = .returned (.agg #[.func (.func 62) #[] #[], .nilFunc]) ∧ Below w.heap.size w w' := by
  go_enter Try.func48, Try.ntmps48
  go_wp2_with (refine store_tab w (.cells #[.nilFunc, .nilFunc] 74) rfl (.tmp 3) (.tmp 10) rfl rfl rfl ?_)
  intro W2 HF HR HB
  have a1 : W2.cell? ⟨w.heap.size + 1, 18, none⟩ = some (.func (.func 62) #[] #[]) := by rw [cell_of_row _ _ _ _ _ _ HF.out]; rfl
  have a2 : W2.cell? ⟨w.heap.size + 1, 19, none⟩ = some (.nilFunc) := by rw [cell_of_row _ _ _ _ _ _ HF.out]; rfl
  have z0 : W2.cell? ⟨w.heap.size, 0, none⟩ = some .nilFunc := by rw [cell_of_row _ _ _ _ _ _ HR.out]; rfl
  have z1 : W2.cell? ⟨w.heap.size, 1, none⟩ = some .nilFunc := by rw [cell_of_row _ _ _ _ _ _ HR.out]; rfl
  have f0 : W2.frozen? ⟨w.heap.size, 0, none⟩ = false := frozen_of_row _ _ _ _ _ HR.out
  have f1 : W2.frozen? ⟨w.heap.size, 1, none⟩ = false := frozen_of_row _ _ _ _ _ HR.out
  clear HF HR
  go_wp2
  exact bodyPost_ret (v := .agg #[.func (.func 62) #[] #[], .nilFunc]) (by simp [results, Try.results48, go_sem, z0, z1]) rfl ⟨rfl, (HB.out.setCell (Nat.le_refl _) _).setCell (Nat.le_refl _) _⟩

end Go.Proofs.Ytnmchcanijkggaa
