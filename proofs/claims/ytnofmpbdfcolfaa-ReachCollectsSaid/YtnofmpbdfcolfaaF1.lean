/- alive: the chapter's example. -/
import Derived.Test.YtnofmpbdfcolfaaE1
namespace Go.Proofs.Ytnofmpbdfcolfaa
open Go.RowKit Go.Shelf
set_option linter.unusedSimpArgs false
set_option linter.unusedVariables false

theorem to_any (h : Int) (w : World) : Calls Try.prog 26 #[.int .i64 h] w fun e w' => e = .returned (AV (5, h)) ∧ Kept No w w' := by
  have HK : Hid (∀ o, Kept No w (w.alloc o)) := fun o => (Kept.refl _ _).alloc _
  go_enter Try.func26, Try.ntmps26
  go_wp2
  refine bodyPost_ret (v := AV (5, h)) (by simp [results, Try.results26, go_sem]) rfl ⟨rfl, ?_⟩
  first | exact HK.out _ | (repeat refine Kept.set ?_ _ _ _ (.inr (Nat.le_refl _)); exact HK.out _)
theorem table_any (k : Int) (so : Option Addr) (n c : Nat) (w : World) : Calls Try.prog 25 #[.int .i64 k, .slice so n c] w fun e w' => e = .returned (.agg #[.int .i64 5, .int .i64 k, .int .i64 0, .slice so n c, .int .i64 0]) ∧ Kept No w w' := by
  have HK : Hid (∀ o, Kept No w (w.alloc o)) := fun o => (Kept.refl _ _).alloc _
  go_enter Try.func25, Try.ntmps25
  go_wp2
  refine bodyPost_ret (v := .agg #[.int .i64 5, .int .i64 k, .int .i64 0, .slice so n c, .int .i64 0]) (by simp [results, Try.results25, go_sem]) rfl ⟨rfl, ?_⟩
  first | exact HK.out _ | (repeat refine Kept.set ?_ _ _ _ (.inr (Nat.le_refl _)); exact HK.out _)

/-- The example's graph. -/
def exT : List Th := [⟨5, 1, 0, [(0, 0), (5, 2), (5, 2)], 0⟩, ⟨5, 0, 0, [], 0⟩]
def exR : List V := [(5, 1)]
theorem ex_strong : strong exT exR [] = [true, false] := by decide
theorem ex_clr : clrTo exT [true, false] [true, false] 2 = [(1, 2)] := by decide
theorem ex_right : rGraph exT exR = true := by decide

set_option maxRecDepth 20000 in
set_option maxHeartbeats 1600000 in
theorem alive_any (w : World) : Calls Try.prog 11 #[] w fun e w' => e = .returned (.bool true) ∧ Kept No w w' := by
  have HTo : Hid (∀ h W, Calls Try.prog 26 #[.int .i64 h] W fun e w' => e = .returned (AV (5, h)) ∧ Kept No W w') := fun h W => to_any h W
  go_enter Try.func11, Try.ntmps11
  go_wp2_with fail
  refine Calls.mono (HTo.out 2 _) ?_
  rintro e w1 ⟨rfl, hk1⟩
  go_wp2_with fail
  refine Calls.mono (HTo.out 2 _) ?_
  rintro e w2 ⟨rfl, hk2⟩
  have HK2 : Hid (Kept No w w2) := hk1.trans hk2
  clear hk1 hk2
  go_wp2_with fail
  refine Calls.mono (table_any 1 _ 3 3 _) ?_
  rintro e w3 ⟨rfl, hk3⟩
  have HS3 : Hid (w3.heap[w2.heap.size]? = some (.cells #[.int .i64 0, .int .i64 0, .int .i64 5, .int .i64 2, .int .i64 5, .int .i64 2] 40 (0, 0))) := hk3.heap (World.alloc_heap_new w2 _) id
  have HK3 : Hid (Kept No w w3) := (HK2.out.alloc _).trans hk3
  generalize w2.heap.size = sb at HS3 ⊢
  clear hk3 HK2
  go_wp2_with fail
  refine Calls.mono (table_any 0 none 0 0 _) ?_
  rintro e w4 ⟨rfl, hk4⟩
  have HS4 : Hid _ := hk4.heap HS3.out id
  have HK4 : Hid (Kept No w w4) := HK3.out.trans hk4
  clear hk4 HK3 HS3
  go_wp2_with fail
  refine Calls.mono (HTo.out 1 _) ?_
  rintro e w5 ⟨rfl, hk5⟩
  have HS5 : Hid (w5.heap[sb]? = some (.cells #[.int .i64 0, .int .i64 0, .int .i64 5, .int .i64 2, .int .i64 5, .int .i64 2] 40 (0, 0))) := hk5.heap (((Kept.refl No w4).alloc _).heap HS4.out id) id
  have HT5 : Hid (w5.heap[w4.heap.size]? = some (.cells #[.int .i64 5, .int .i64 1, .int .i64 0, .slice (some ⟨sb, 0, none⟩) 3 3, .int .i64 0, .int .i64 5, .int .i64 0, .int .i64 0, .slice none 0 0, .int .i64 0] 43 (0, 0))) := hk5.heap (World.alloc_heap_new w4 _) id
  have HK5 : Hid (Kept No w w5) := (HK4.out.alloc _).trans hk5
  generalize w4.heap.size = tb at HT5 ⊢
  clear hk5 HK4 HS4
  obtain ⟨W6, HW6⟩ : ∃ W6, Hid (W6 = (w5.alloc (.cells #[.int .i64 5, .int .i64 1] 40)).alloc (.cells #[.slice (some ⟨tb, 0, none⟩) 2 2, .slice (some ⟨w5.heap.size, 0, none⟩) 1 1] 25)) := ⟨_, rfl⟩
  have hk6 : Kept No w5 W6 := by rw [HW6.out]; exact ((Kept.refl _ _).alloc _).alloc _
  have HK6 : Hid (Kept No w W6) := HK5.out.trans hk6
  have HS6 := hk6.heap HS5.out id
  have HT6 := hk6.heap HT5.out id
  have hr6 : W6.heap[w5.heap.size]? = some (.cells #[.int .i64 5, .int .i64 1] 40 (0, 0)) := by rw [HW6.out]; exact (Below.heap_alloc _ _ _ (by simp)).trans (World.alloc_heap_new w5 _)
  have HG6 : Hid (W6.heap[w5.heap.size + 1]? = some (.cells #[.slice (some ⟨tb, 0, none⟩) 2 2, .slice (some ⟨w5.heap.size, 0, none⟩) 1 1] 25 (0, 0))) := by
    show _ = _
    rw [HW6.out]; have := World.alloc_heap_new (w5.alloc (.cells #[.int .i64 5, .int .i64 1] 40)) (.cells #[.slice (some ⟨tb, 0, none⟩) 2 2, .slice (some ⟨w5.heap.size, 0, none⟩) 1 1] 25); rwa [World.size_alloc] at this
  have HRT : Hid (RdT W6 (.slice (some ⟨tb, 0, none⟩) 2 2) exT) := by
    have c := cell_of HT6
    have d := cell_of HS6
    refine ⟨some ⟨tb, 0, none⟩, 2, rfl, fun j hj => ?_⟩
    obtain rfl | rfl : j = 0 ∨ j = 1 := by simp [exT] at hj; omega
    · refine ⟨tb, 0, .slice (some ⟨sb, 0, none⟩) 3 3, rfl, by rw [c]; rfl, by rw [c]; rfl, by rw [c]; rfl, by rw [c]; rfl, by rw [c]; rfl, ⟨some ⟨sb, 0, none⟩, 3, rfl, fun i hi => ?_⟩⟩
      obtain rfl | rfl | rfl : i = 0 ∨ i = 1 ∨ i = 2 := by simp [exT] at hi; omega
      · exact ⟨sb, 0, rfl, by rw [d]; rfl, by rw [d]; rfl⟩
      · exact ⟨sb, 0, rfl, by rw [d]; rfl, by rw [d]; rfl⟩
      · exact ⟨sb, 0, rfl, by rw [d]; rfl, by rw [d]; rfl⟩
    · exact ⟨tb, 0, .slice none 0 0, rfl, by rw [c]; rfl, by rw [c]; rfl, by rw [c]; rfl, by rw [c]; rfl, by rw [c]; rfl, ⟨none, 0, rfl, fun i hi => by simp [exT] at hi⟩⟩
  have HRR : Hid (RdV W6 (.slice (some ⟨w5.heap.size, 0, none⟩) 1 1) exR) := by
    have c := cell_of hr6
    refine ⟨some ⟨w5.heap.size, 0, none⟩, 1, rfl, fun j hj => ?_⟩
    obtain rfl : j = 0 := by simp [exR] at hj; omega
    exact ⟨w5.heap.size, 0, rfl, by rw [c]; rfl, by rw [c]; rfl⟩
  have g0 : W6.cell? ⟨w5.heap.size + 1, 0, none⟩ = some (.slice (some ⟨tb, 0, none⟩) 2 2) := by rw [cell_of HG6.out]; rfl
  have g1 : W6.cell? ⟨w5.heap.size + 1, 1, none⟩ = some (.slice (some ⟨w5.heap.size, 0, none⟩) 1 1) := by rw [cell_of HG6.out]; rfl
  have HCo : Hid (Calls Try.prog 18 #[.agg #[.slice (some ⟨tb, 0, none⟩) 2 2, .slice (some ⟨w5.heap.size, 0, none⟩) 1 1]] W6 fun e w' => ∃ nb ev, e = .returned (.agg #[SLN nb 2, .slice none 0 0, ev]) ∧ w'.heap[nb]? = some (.cells (bc [true, false]).toArray 4 (0, 0)) ∧ EnRow w' W6.heap.size ev [(1, 2)] ∧ Kept No W6 w') := by
    have := Collect_zero HRT.out HRR.out (by decide) (by decide) (by decide) (by decide)
    rw [ex_strong] at this
    have e : clrTo exT [true, false] [true, false] exT.length = [(1, 2)] := ex_clr
    rw [e] at this
    exact this
  clear hk6 HS6 HT6 hr6 HK5 HS5 HT5
  go_wp2_with (first | rw [← HW6.out])
  refine Calls.mono HCo.out ?_
  rintro e w7 ⟨nb, ev, rfl, hnb, hev, hk7⟩
  obtain ⟨eo, ec, hef⟩ := hev.form
  rw [show ([(1, 2)] : List V).length = 1 from rfl] at hef
  subst hef
  have HRi : Hid (∀ W', Kept No W6 W' → Calls Try.prog 15 #[.agg #[.slice (some ⟨tb, 0, none⟩) 2 2, .slice (some ⟨w5.heap.size, 0, none⟩) 1 1]] W' fun e w' => e = .returned (.bool true) ∧ Kept No W' w') := fun W' hk => by
    have := Right_any (HRT.out.no hk) (HRR.out.no hk) (by decide) (by decide) (by decide) (fun t ht => by
      simp only [exT, List.mem_cons, List.not_mem_nil, or_false] at ht
      rcases ht with rfl | rfl <;> rfl)
    rw [ex_right] at this
    exact this
  obtain ⟨W8, HW8⟩ : ∃ W8, Hid (W8 = w7.alloc (.cells #[SLN nb 2, .slice none 0 0, .slice eo 1 ec] 37)) := ⟨_, rfl⟩
  have hk8 : Kept No w7 W8 := by rw [HW8.out]; exact (Kept.refl _ _).alloc _
  have hb8 : W8.heap[w7.heap.size]? = some (.cells #[SLN nb 2, .slice none 0 0, .slice eo 1 ec] 37 (0, 0)) := by rw [HW8.out]; exact World.alloc_heap_new w7 _
  have hg8 := (hk7.trans hk8).heap HG6.out id
  have g2 : W8.cell? ⟨w5.heap.size + 1, 0, none⟩ = some (.slice (some ⟨tb, 0, none⟩) 2 2) := by rw [cell_of hg8]; rfl
  have g3 : W8.cell? ⟨w5.heap.size + 1, 1, none⟩ = some (.slice (some ⟨w5.heap.size, 0, none⟩) 1 1) := by rw [cell_of hg8]; rfl
  have HR8 : Hid _ := HRi.out W8 (hk7.trans hk8)
  have HN8 : Hid (W8.heap[nb]? = some (.cells (bc [true, false]).toArray 4 (0, 0))) := hk8.heap hnb id
  have HE8 : Hid (EnRow W8 W6.heap.size (.slice eo 1 ec) [(1, 2)]) := hev.cellsKept (fun k c e f hh => hk8.heap hh id)
  have HB8 : Hid _ := hb8
  have HK8 : Hid (Kept No w W8) := HK6.out.trans (hk7.trans hk8)
  clear hnb hev hk7 hk8 hb8 hg8 g0 g1 HCo HW6 HRT HRR HG6 HRi HK6
  go_wp2_with (first | rw [← HW8.out])
  refine Calls.mono HR8.out ?_
  rintro e w9 ⟨rfl, hk9⟩
  have hb9 := hk9.heap HB8.out id
  have hn9 := hk9.heap HN8.out id
  have he9 : EnRow w9 W6.heap.size (.slice eo 1 ec) [(1, 2)] := EnRow.cellsKept HE8.out (fun k c e f hh => hk9.heap hh id)
  have HK9 : Hid (Kept No w w9) := HK8.out.trans hk9
  have c0 : w9.cell? ⟨w7.heap.size, 0, none⟩ = some (SLN nb 2) := by rw [cell_of hb9]; rfl
  have c1 : w9.cell? ⟨w7.heap.size, 1, none⟩ = some (.slice none 0 0) := by rw [cell_of hb9]; rfl
  have c2 : w9.cell? ⟨w7.heap.size, 2, none⟩ = some (.slice eo 1 ec) := by rw [cell_of hb9]; rfl
  have n0 : w9.cell? ⟨nb, 0, none⟩ = some (.bool true) := by rw [cell_of hn9]; rfl
  have n1 : w9.cell? ⟨nb, 1, none⟩ = some (.bool false) := by rw [cell_of hn9]; rfl
  obtain ⟨bb, hbb⟩ : ∃ bb, eo = some ⟨bb, 0, none⟩ := by
    rcases he9.2 with ⟨e, h0⟩ | ⟨g, cap, cur, e, _⟩
    · cases h0
    · injection e with e1; exact ⟨g, e1⟩
  subst hbb
  have m0 : w9.cell? ⟨bb, 0, none⟩ = some (.int .i64 1) := (World.ownsRow.cellAt he9 0 (by decide)).trans rfl
  have m1 : w9.cell? ⟨bb, 1, none⟩ = some (.int .i64 2) := (World.ownsRow.cellAt he9 1 (by decide)).trans rfl
  clear hb9 hn9 he9 hk9 HR8 HB8 HN8 HE8 HW8 g2 g3 HK8
  go_wp2
  go_ret
  exact ⟨rfl, HK9.out⟩
end Go.Proofs.Ytnofmpbdfcolfaa
