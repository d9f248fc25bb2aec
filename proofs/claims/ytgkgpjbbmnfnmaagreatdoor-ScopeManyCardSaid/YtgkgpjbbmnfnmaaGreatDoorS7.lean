/- Scope: a new resolver. -/
import Derived.Test.YtgkgpjbbmnfnmaaGreatDoorS5
import Derived.Carry
namespace Go.Proofs.YtgkgpjbbmnfnmaaGreatDoor
open Go.RowKit
set_option linter.unusedSimpArgs false
set_option linter.unusedVariables false

set_option maxRecDepth 20000 in
set_option maxHeartbeats 2000000 in
theorem newKnown_any (w : World) : Calls Tryz.prog 34 #[] w fun e w' => e = .returned (.agg #[kf 63 (w.heap.size + 1), kf 64 (w.heap.size + 1), kf 65 (w.heap.size + 1), kf 66 (w.heap.size + 1)]) ∧ Kept No w w' ∧ w'.heap[w.heap.size + 1]? = some (.cells #[.slice none 0 0] 122 (0, 0)) ∧ w.heap.size + 2 = w'.heap.size := by
  have HF : Hid (∀ o : Obj, Kept No w ((w.alloc o).alloc (.cells #[.slice none 0 0] 122)) ∧ ((w.alloc o).alloc (.cells #[.slice none 0 0] 122)).heap[w.heap.size + 1]? = some (.cells #[.slice none 0 0] 122 (0, 0)) ∧ w.heap.size + 2 = ((w.alloc o).alloc (.cells #[.slice none 0 0] 122)).heap.size) := fun o => by
    refine ⟨((Kept.refl No w).alloc _).alloc _, ?_, by simp⟩
    have := World.alloc_heap_new (w.alloc o) (.cells #[.slice none 0 0] 122)
    rwa [show (w.alloc o).heap.size = w.heap.size + 1 by simp] at this
  go_enter Tryz.func34, Tryz.ntmps34
  go_wp2_with fail
  refine bodyPost_ret (v := .agg #[kf 63 (w.heap.size + 1), kf 64 (w.heap.size + 1), kf 65 (w.heap.size + 1), kf 66 (w.heap.size + 1)]) (by simp [results, Tryz.results34, go_sem, kf]) rfl ?_
  exact ⟨rfl, HF.out _⟩
def s0 : St := ⟨[], 0, 0, 0, 0, fun _ _ => 0, [], 0, 0⟩
set_option maxRecDepth 20000 in
set_option maxHeartbeats 2000000 in
theorem newResolver_any (w : World) : Calls Tryz.prog 19 #[] w fun e w' => e = .returned (PT (w.heap.size + 3)) ∧ Kept No w w' ∧ Rv w' (w.heap.size + 3) (w.heap.size + 1) (w.heap.size + 2) 0 (w.heap.size + 4) (.slice none 0 0) (.slice none 0 0) s0 := by
  have HK : Hid _ := newKnown_any w
  go_enter Tryz.func19, Tryz.ntmps19
  go_wp2_with fail
  refine Calls.mono HK.out ?_
  rintro e W1 ⟨rfl, hk, hb, hz⟩
  obtain ⟨T, hT⟩ : ∃ T, Hid (w.heap.size = T) := ⟨_, show _ = _ from rfl⟩
  rw [hT.out] at hb hz
  have HF : Hid (∀ o : Obj, o = .cells (RCs (T + 1) (T + 2) (.slice none 0 0) s0).toArray 69 (0, 0) → Kept No w ((W1.alloc (.map #[] 0)).alloc o) ∧ Rv ((W1.alloc (.map #[] 0)).alloc o) (T + 3) (T + 1) (T + 2) 0 (T + 4) (.slice none 0 0) (.slice none 0 0) s0) := fun o ho => by
    subst ho
    have k1 : Kept No W1 (W1.alloc (.map #[] 0)) := (Kept.refl No W1).alloc _
    have hm := MapF.made W1
    have hz2 : (W1.alloc (.map #[] 0)).heap.size = T + 3 := by simp; omega
    have k2 : Kept No (W1.alloc (.map #[] 0)) ((W1.alloc (.map #[] 0)).alloc (.cells (RCs (T + 1) (T + 2) (.slice none 0 0) s0).toArray 69 (0, 0))) := (Kept.refl No _).alloc _
    have hr := World.alloc_heap_new (W1.alloc (.map #[] 0)) (.cells (RCs (T + 1) (T + 2) (.slice none 0 0) s0).toArray 69 (0, 0))
    rw [hz2] at hr
    rw [← hz] at hm
    refine ⟨(hk.trans k1).trans k2, hr, ⟨(k1.trans k2).heap hb id, World.ownsRow_nil _ _ _ _, by omega, by simp; omega⟩, World.ownsRow_nil _ _ _ _, hm.kept k2 id, by omega⟩
  have hW : W1.heap.size = T + 2 := hz.symm
  rw [hT.out]
  clear hk hb hz HK
  have hmm := @run_makeMap Tryz.prog
  unfold kf
  go_wp2_with fail
  go_ret
  rw [hT.out]
  exact ⟨rfl, HF.out _ rfl⟩
end Go.Proofs.YtgkgpjbbmnfnmaaGreatDoor
