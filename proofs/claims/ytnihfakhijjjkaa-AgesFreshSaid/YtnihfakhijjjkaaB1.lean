/- alive: the chapter's example. -/
import Derived.Test.YtnihfakhijjjkaaA8
namespace Go.Proofs.Ytnihfakhijjjkaa
open Go.RowKit
set_option linter.unusedSimpArgs false
set_option linter.unusedVariables false

/-- The example's view. -/
def exS : List Sn := [⟨1, 5, 0, 0, [(0, 0), (5, 2)], 0, 3, 4⟩, ⟨2, 5, 0, 0, [], 0, 0, 0⟩]
theorem ex_aud : audTo exS (brG 0 []) mnG 2 = [(1, 1)] := by decide

set_option maxRecDepth 20000 in
set_option maxHeartbeats 1600000 in
theorem alive_any (w : World) : Calls Try.prog 15 #[] w fun e w' => e = .returned (.bool true) ∧ Kept No w w' := by
  obtain ⟨W, HWd⟩ : ∃ W, Hid (W = (((w.alloc (.cells #[.int .i64 0, .int .i64 0, .int .i64 5, .int .i64 2] 38)).alloc (.cells #[.int .i64 1, .int .i64 5, .int .i64 0, .int .i64 0, .slice (some ⟨w.heap.size, 0, none⟩) 2 2, .int .i64 0, .int .i64 3, .int .i64 4] 36)).alloc (.cells #[.int .i64 2, .int .i64 5, .int .i64 0, .int .i64 0, .slice none 0 0, .int .i64 0, .int .i64 0, .int .i64 0] 36)).alloc (.cells #[.int .i64 1, .int .i64 5, .int .i64 0, .int .i64 0, .slice (some ⟨w.heap.size, 0, none⟩) 2 2, .int .i64 0, .int .i64 3, .int .i64 4, .int .i64 2, .int .i64 5, .int .i64 0, .int .i64 0, .slice none 0 0, .int .i64 0, .int .i64 0, .int .i64 0] 36)) := ⟨_, rfl⟩
  have hkW : Kept No w W := by rw [HWd.out]; exact ((((Kept.refl _ _).alloc _).alloc _).alloc _).alloc _
  have hs : W.heap[w.heap.size]? = some (.cells #[.int .i64 0, .int .i64 0, .int .i64 5, .int .i64 2] 38 (0, 0)) := by
    rw [HWd.out]
    refine (Below.heap_alloc _ _ _ (by simp only [World.size_alloc]; omega)).trans ?_
    refine (Below.heap_alloc _ _ _ (by simp only [World.size_alloc]; omega)).trans ?_
    refine (Below.heap_alloc _ _ _ (by simp only [World.size_alloc]; omega)).trans ?_
    exact World.alloc_heap_new w _
  have hb : W.heap[w.heap.size + 3]? = some (.cells #[.int .i64 1, .int .i64 5, .int .i64 0, .int .i64 0, .slice (some ⟨w.heap.size, 0, none⟩) 2 2, .int .i64 0, .int .i64 3, .int .i64 4, .int .i64 2, .int .i64 5, .int .i64 0, .int .i64 0, .slice none 0 0, .int .i64 0, .int .i64 0, .int .i64 0] 36 (0, 0)) := by
    rw [HWd.out]
    have := World.alloc_heap_new (((w.alloc (.cells #[.int .i64 0, .int .i64 0, .int .i64 5, .int .i64 2] 38)).alloc (.cells #[.int .i64 1, .int .i64 5, .int .i64 0, .int .i64 0, .slice (some ⟨w.heap.size, 0, none⟩) 2 2, .int .i64 0, .int .i64 3, .int .i64 4] 36)).alloc (.cells #[.int .i64 2, .int .i64 5, .int .i64 0, .int .i64 0, .slice none 0 0, .int .i64 0, .int .i64 0, .int .i64 0] 36)) (.cells #[.int .i64 1, .int .i64 5, .int .i64 0, .int .i64 0, .slice (some ⟨w.heap.size, 0, none⟩) 2 2, .int .i64 0, .int .i64 3, .int .i64 4, .int .i64 2, .int .i64 5, .int .i64 0, .int .i64 0, .slice none 0 0, .int .i64 0, .int .i64 0, .int .i64 0] 36)
    rwa [World.size_alloc, World.size_alloc, World.size_alloc] at this
  have HKW : Hid (Kept No w W) := hkW
  have HA : Hid (Calls Try.prog 17 #[AW 1 0 0 (some ⟨w.heap.size + 3, 0, none⟩) 2 2 none 0 0 none 0 0 none 0 0] W fun e w' => ∃ v, e = .returned v ∧ VRow w' W.heap.size v [(1, 1)] ∧ Kept No W w') := by
    have hr : RdS W (.slice (some ⟨w.heap.size + 3, 0, none⟩) 2 2) exS := by
      have c := cell_of hb
      have d := cell_of hs
      refine ⟨some ⟨w.heap.size + 3, 0, none⟩, 2, rfl, fun j hj => ?_⟩
      obtain rfl | rfl : j = 0 ∨ j = 1 := by simp [exS] at hj; omega
      · refine ⟨_, 0, .slice (some ⟨w.heap.size, 0, none⟩) 2 2, rfl, by rw [c]; rfl, by rw [c]; rfl, by rw [c]; rfl, by rw [c]; rfl, by rw [c]; rfl, by rw [c]; rfl, by rw [c]; rfl, by rw [c]; rfl, ⟨some ⟨w.heap.size, 0, none⟩, 2, rfl, fun i hi => ?_⟩⟩
        obtain rfl | rfl : i = 0 ∨ i = 1 := by simp [exS] at hi; omega
        · exact ⟨_, 0, rfl, by rw [d]; rfl, by rw [d]; rfl⟩
        · exact ⟨_, 0, rfl, by rw [d]; rfl, by rw [d]; rfl⟩
      · exact ⟨_, 0, .slice none 0 0, rfl, by rw [c]; rfl, by rw [c]; rfl, by rw [c]; rfl, by rw [c]; rfl, by rw [c]; rfl, by rw [c]; rfl, by rw [c]; rfl, by rw [c]; rfl, ⟨none, 0, rfl, fun i hi => by simp [exS] at hi⟩⟩
    have hl : RdI W (.slice none 0 0) [] := ⟨none, 0, rfl, fun j hj => by simp at hj⟩
    have := Audit_gen (wh := 0) (go := none) (gn := 0) (gc := 0) (po := none) (pn := 0) (pc := 0) hr (by decide) (by decide) (by
      intro s hs
      simp only [exS, List.mem_cons, List.not_mem_nil, or_false] at hs
      rcases hs with rfl | rfl
      · refine ⟨⟨rfl, rfl⟩, fun v hv => ?_⟩
        simp only [List.mem_cons, List.not_mem_nil, or_false] at hv
        rcases hv with rfl | rfl <;> exact ⟨rfl, rfl⟩
      · exact ⟨⟨rfl, rfl⟩, fun v hv => by simp at hv⟩) hl (by decide) (by simp)
    have e : audTo exS (brG 0 []) mnG exS.length = [(1, 1)] := ex_aud
    rw [e] at this
    exact this
  clear hkW hs hb
  go_enter Try.func15, Try.ntmps15
  go_wp2_with (first | rw [← HWd.out])
  refine Calls.mono HA.out ?_
  rintro e w2 ⟨v, rfl, hv, hk2⟩
  obtain ⟨eo, ec, rfl⟩ := hv.form
  have HK2 : Hid (Kept No w w2) := HKW.out.trans hk2
  obtain ⟨bb, rfl⟩ : ∃ bb, eo = some ⟨bb, 0, none⟩ := by
    rcases hv.2 with ⟨e, h0⟩ | ⟨g, cap, cur, e, _⟩
    · cases h0
    · injection e with e1; exact ⟨g, e1⟩
  have m0 : w2.cell? ⟨bb, 0, none⟩ = some (.int .i64 1) := (World.ownsRow.cellAt hv 0 (by decide)).trans rfl
  have m1 : w2.cell? ⟨bb, 1, none⟩ = some (.int .i64 1) := (World.ownsRow.cellAt hv 1 (by decide)).trans rfl
  have H7 : Hid (Calls Try.prog 7 #[.int .i64 0] w2 fun e w' => e = .returned (.int .i64 1) ∧ w2 = w') := Next_any 0 w2
  have H11 : Hid (Calls Try.prog 11 #[.int .i64 4] w2 fun e w' => e = .returned (.int .i64 5) ∧ w2 = w') := Back_any 4 w2
  have H11' : Hid (Calls Try.prog 11 #[.int .i64 1] w2 fun e w' => e = .returned (.int .i64 1) ∧ w2 = w') := Back_any 1 w2
  have H13 : Hid (Calls Try.prog 13 #[.int .i64 3, .int .i64 0] w2 fun e w' => e = .returned (.int .i64 2) ∧ w2 = w') := Forward_any 3 0 w2
  clear hv hk2 HA HWd HKW
  go_wp2_with (first | (refine Calls.mono H7.out ?_; rintro e w' ⟨rfl, rfl⟩) | (with_reducible refine Calls.mono H11.out ?_; rintro e w' ⟨rfl, rfl⟩) | (with_reducible refine Calls.mono H11'.out ?_; rintro e w' ⟨rfl, rfl⟩) | (refine Calls.mono H13.out ?_; rintro e w' ⟨rfl, rfl⟩))
  go_ret
  exact ⟨rfl, HK2.out⟩
end Go.Proofs.Ytnihfakhijjjkaa
