/- A new cutter. -/
import Derived.Test.YtidokamfppdnaaaGreatDoorC9
namespace Go.Proofs.YtidokamfppdnaaaGreatDoor
open Go.RowKit
set_option linter.unusedSimpArgs false
set_option linter.unusedVariables false

set_option maxRecDepth 20000 in
set_option maxHeartbeats 2000000 in
theorem newCutter_any (s : ByteArray) (w : World) :
    Calls Tryz.prog 9 #[.string s] w fun r w' => ∃ c, r = .returned (.pointer (some ⟨c, 0, none⟩)) ∧ Cu w' c s ∧ Kept No w w' := by
  have HWd : Hid (∀ w, Calls Tryz.prog 15 #[] w fun e w' => e = .returned (.map (some w.heap.size)) ∧ WIs w' w.heap.size 18 wordsL ∧ Kept No w w') := words_any
  go_enter Tryz.func9, Tryz.ntmps9
  go_wp2_with fail
  refine Calls.mono (HWd.out _) ?_
  rintro e W1 ⟨rfl, h1, k1⟩
  have H1 : Hid (WIs W1 w.heap.size 18 wordsL ∧ Kept No w W1) := ⟨h1, k1⟩
  clear h1 k1 HWd
  go_wp2_with fail
  go_ret
  refine ⟨W1.heap.size, rfl, ⟨w.heap.size, W1.heap.size + 1, ?_, ?_, ?_⟩, ?_⟩
  · exact ((Kept.refl No (W1.alloc _)).alloc _).heap (World.alloc_heap_new W1 _) id
  · have := World.alloc_heap_new (W1.alloc (Obj.cells #[Value.string s, Value.map (some w.heap.size), Value.slice (some { block := W1.heap.size + 1, off := 0 }) 4 4] 47)) (Obj.cells #[mth 16 W1.heap.size, mth 17 W1.heap.size, mth 18 W1.heap.size, mth 19 W1.heap.size] 40)
    have e : ∀ o, (W1.alloc o).heap.size = W1.heap.size + 1 := fun o => by simp
    rw [e] at this
    exact this
  · exact H1.out.1.no (((Kept.refl No W1).alloc _).alloc _)
  · exact (H1.out.2.alloc _).alloc _
end Go.Proofs.YtidokamfppdnaaaGreatDoor
