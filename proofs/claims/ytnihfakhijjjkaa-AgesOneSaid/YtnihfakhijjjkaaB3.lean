/- AgesOne. -/
import Derived.Test.YtnihfakhijjjkaaB1
namespace Go.Proofs.Ytnihfakhijjjkaa
open Go.RowKit
set_option linter.unusedSimpArgs false
set_option linter.unusedVariables false

/-- The colour that an age has there. -/
def colOf (a : Int) : Int := if a = 0 then 0 else if a = 1 then 0 else if a = 2 then 2 else if a = 5 then 2 else 3
/-- The view. -/
def oneS (a b : Int) : List Sn := [⟨1, 7, 0, 0, [(7, 2)], 0, colOf a, a⟩, ⟨2, 7, 0, 0, [], 0, colOf b, b⟩]
/-- How many rules are broken. -/
def oneN (a b : Int) : Int := if (decide (a = 4) && decide (b ≤ 1)) || ((decide (a = 3) || decide (a = 6)) && decide (b = 0)) then 1 else 0
theorem age_in' {a : Int} (h : 0 ≤ a ∧ a ≤ 6) : a = 0 ∨ a = 1 ∨ a = 2 ∨ a = 3 ∨ a = 4 ∨ a = 5 ∨ a = 6 := by omega
theorem one_aud {a b : Int} (ha : 0 ≤ a ∧ a ≤ 6) (hb : 0 ≤ b ∧ b ≤ 6) : ((audTo (oneS a b) (brG 0 [1, 2]) mnG 2).length : Int) = oneN a b := by
  rcases age_in' ha with rfl | rfl | rfl | rfl | rfl | rfl | rfl <;> rcases age_in' hb with rfl | rfl | rfl | rfl | rfl | rfl | rfl <;> decide

theorem cell_al {W : World} {b o : Nat} {v : Value} (h : W.cell? ⟨b, o, none⟩ = some v) (x : Obj) : (W.alloc x).cell? ⟨b, o, none⟩ = some v :=
  (World.cell?_of_block (Below.heap_alloc W x b (cell_blk h).1)).trans h
theorem cell_al2 {W : World} {b o : Nat} {v : Value} (h : W.cell? ⟨b, o, none⟩ = some v) {x y : Obj} : ((W.alloc x).alloc y).drew.cell? ⟨b, o, none⟩ = some v := cell_al (cell_al h x) y

set_option maxRecDepth 20000 in
set_option maxHeartbeats 1600000 in
theorem AgesOne_any (a b : Int) (w : World) : Calls Try.prog 6 #[.int .i64 a, .int .i64 b] w fun e w' => e = .returned (.bool true) ∧ Kept No w w' := by
  have HA : Hid (∀ W, Calls Try.prog 15 #[] W fun e w' => e = .returned (.bool true) ∧ Kept No W w') := fun W => alive_any W
  by_cases hin : (0 ≤ a ∧ a ≤ 6) ∧ (0 ≤ b ∧ b ≤ 6)
  · obtain ⟨ha, hb⟩ := hin
    have HN : Hid _ := one_aud ha hb
    obtain ⟨m, rfl⟩ : ∃ m : Nat, a = (m : Int) := ⟨a.toNat, by omega⟩
    obtain ⟨n, rfl⟩ : ∃ n : Nat, b = (n : Int) := ⟨b.toNat, by omega⟩
    have h1 : ¬ (m : Int) < 0 := by omega
    have h2 : ¬ 6 < (m : Int) := by omega
    have h3 : ¬ (n : Int) < 0 := by omega
    have h4 : ¬ 6 < (n : Int) := by omega
    have hm : m < 7 := by omega
    have hn : n < 7 := by omega
    have m7 : (m : Int) < 7 := by omega
    have n7 : (n : Int) < 7 := by omega
    obtain ⟨W, HWd⟩ : ∃ W, Hid (W = ((w.alloc (.cells #[.int .i64 1, .int .i64 2] 3)).alloc (.cells #[.int .i64 1, .int .i64 0, .int .i64 0, .slice none 0 0, .slice none 0 0, .slice (some ⟨w.heap.size, 0, none⟩) 2 2, .slice none 0 0] 30)).alloc (.cells #[.int .i64 0, .int .i64 0, .int .i64 2, .int .i64 3, .int .i64 3, .int .i64 2, .int .i64 3] 3)) := ⟨_, rfl⟩
    have hkW : Kept No w W := by rw [HWd.out]; exact (((Kept.refl _ _).alloc _).alloc _).alloc _
    have ga : W.heap[w.heap.size]? = some (.cells #[.int .i64 1, .int .i64 2] 3 (0, 0)) := by
      rw [HWd.out]
      refine (Below.heap_alloc _ _ _ (by simp only [World.size_alloc]; omega)).trans ?_
      refine (Below.heap_alloc _ _ _ (by simp only [World.size_alloc]; omega)).trans ?_
      exact World.alloc_heap_new w _
    have gv : W.heap[w.heap.size + 1]? = some (.cells #[.int .i64 1, .int .i64 0, .int .i64 0, .slice none 0 0, .slice none 0 0, .slice (some ⟨w.heap.size, 0, none⟩) 2 2, .slice none 0 0] 30 (0, 0)) := by
      rw [HWd.out]
      refine (Below.heap_alloc _ _ _ (by simp only [World.size_alloc]; omega)).trans ?_
      have := World.alloc_heap_new (w.alloc (.cells #[.int .i64 1, .int .i64 2] 3)) (.cells #[.int .i64 1, .int .i64 0, .int .i64 0, .slice none 0 0, .slice none 0 0, .slice (some ⟨w.heap.size, 0, none⟩) 2 2, .slice none 0 0] 30)
      rwa [World.size_alloc] at this
    have gc : W.heap[w.heap.size + 1 + 1]? = some (.cells #[.int .i64 0, .int .i64 0, .int .i64 2, .int .i64 3, .int .i64 3, .int .i64 2, .int .i64 3] 3 (0, 0)) := by
      rw [HWd.out]
      have := World.alloc_heap_new ((w.alloc (.cells #[.int .i64 1, .int .i64 2] 3)).alloc (.cells #[.int .i64 1, .int .i64 0, .int .i64 0, .slice none 0 0, .slice none 0 0, .slice (some ⟨w.heap.size, 0, none⟩) 2 2, .slice none 0 0] 30)) (.cells #[.int .i64 0, .int .i64 0, .int .i64 2, .int .i64 3, .int .i64 3, .int .i64 2, .int .i64 3] 3)
      rwa [World.size_alloc, World.size_alloc] at this
    have HG : Hid (W.heap[w.heap.size]? = some (.cells #[.int .i64 1, .int .i64 2] 3 (0, 0)) ∧ W.heap[w.heap.size + 1]? = some (.cells #[.int .i64 1, .int .i64 0, .int .i64 0, .slice none 0 0, .slice none 0 0, .slice (some ⟨w.heap.size, 0, none⟩) 2 2, .slice none 0 0] 30 (0, 0)) ∧ Kept No w W) := ⟨ga, gv, hkW⟩
    have hcol : ∀ k, k < 7 → W.cell? ⟨w.heap.size + 1 + 1, k, none⟩ = some (.int .i64 (colOf k)) := fun k hk => by
      rw [cell_of gc]
      match k, hk with
      | 0, _ => rfl
      | 1, _ => rfl
      | 2, _ => rfl
      | 3, _ => rfl
      | 4, _ => rfl
      | 5, _ => rfl
      | 6, _ => rfl
    have cm := hcol m hm
    have cn := hcol n hn
    generalize hcm : colOf (m : Int) = x at cm
    generalize hcn : colOf (n : Int) = y at cn
    have HC : Hid (oneS m n = [⟨1, 7, 0, 0, [(7, 2)], 0, x, m⟩, ⟨2, 7, 0, 0, [], 0, y, n⟩]) := by show _ = _; unfold oneS; rw [hcm, hcn]
    have GC : Hid (W.drew.heap[w.heap.size + 1 + 1]? = some (.cells #[.int .i64 0, .int .i64 0, .int .i64 2, .int .i64 3, .int .i64 3, .int .i64 2, .int .i64 3] 3 (0, 0))) := gc
    have HCol : Hid (∀ X : World, X.heap[w.heap.size + 1 + 1]? = some (.cells #[.int .i64 0, .int .i64 0, .int .i64 2, .int .i64 3, .int .i64 3, .int .i64 2, .int .i64 3] 3 (0, 0)) → X.cell? ⟨w.heap.size + 1 + 1, m, none⟩ = some (.int .i64 x) ∧ X.cell? ⟨w.heap.size + 1 + 1, n, none⟩ = some (.int .i64 y)) := fun X hX => ⟨by rw [cell_of hX, ← cell_of gc]; exact cm, by rw [cell_of hX, ← cell_of gc]; exact cn⟩
    clear hcol ga gv gc hkW ha hb hcm hcn
    go_enter Try.func6, Try.ntmps6
    go_wp2_with (first | rw [← HWd.out])
    refine wp_region_held_drew (S := fun X => X.heap[w.heap.size + 1 + 1]? = some (.cells #[.int .i64 0, .int .i64 0, .int .i64 2, .int .i64 3, .int .i64 3, .int .i64 2, .int .i64 3] 3 (0, 0))) mixed GC.out (fun hSS => ?_)
    obtain ⟨X0, hX0⟩ : ∃ X0, X0 = W.drew := ⟨_, rfl⟩
    have HG0 : Hid (X0.heap[w.heap.size]? = some (.cells #[.int .i64 1, .int .i64 2] 3 (0, 0)) ∧ X0.heap[w.heap.size + 1]? = some (.cells #[.int .i64 1, .int .i64 0, .int .i64 0, .slice none 0 0, .slice none 0 0, .slice (some ⟨w.heap.size, 0, none⟩) 2 2, .slice none 0 0] 30 (0, 0)) ∧ Kept No w X0) := by rw [hX0]; exact ⟨HG.out.1, HG.out.2.1, HG.out.2.2.drew⟩
    rw [← hX0] at hSS ⊢
    clear hX0 HG
    refine wpAnyH_take (i := 0) (v := .agg #[.int .i64 7, .int .i64 2]) rfl (by kernel_rfl) (by kernel_rfl) (by kernel_rfl) (fun _ _ _ h => h) (Or.inl ⟨by rfl, by intro w' hw; go_simp⟩) hSS ?_
    try simp only [Act.put, List.setIfInBounds_toArray, List.set_cons_zero, List.set_cons_succ, List.getElem_toArray, List.getElem_cons_zero, List.getElem_cons_succ]
    refine wpAnyH_take (i := 3) (v := .slice (some ⟨w.heap.size + 1 + 1, 0, none⟩) 7 7) rfl (by kernel_rfl) (by kernel_rfl) (by kernel_rfl) (fun _ _ _ h => h) (Or.inl ⟨by rfl, by intro w' hw; go_simp⟩) hSS ?_
    try simp only [Act.put, List.setIfInBounds_toArray, List.set_cons_zero, List.set_cons_succ, List.getElem_toArray, List.getElem_cons_zero, List.getElem_cons_succ]
    refine wpAnyH_take (i := 4) (v := .int .i64 m) rfl (by kernel_rfl) (by kernel_rfl) (by kernel_rfl) (fun _ _ _ h => h) (Or.inl ⟨by rfl, by intro w' hw; go_simp⟩) hSS ?_
    try simp only [Act.put, List.setIfInBounds_toArray, List.set_cons_zero, List.set_cons_succ, List.getElem_toArray, List.getElem_cons_zero, List.getElem_cons_succ]
    refine wpAnyH_take (i := 5) (v := .pointer (some ⟨w.heap.size + 1 + 1, m, none⟩)) rfl (by kernel_rfl) (by kernel_rfl) (by kernel_rfl) (fun _ _ _ h => h) (Or.inl ⟨by rfl, by intro w' hw; go_simp⟩) hSS ?_
    try simp only [Act.put, List.setIfInBounds_toArray, List.set_cons_zero, List.set_cons_succ, List.getElem_toArray, List.getElem_cons_zero, List.getElem_cons_succ]
    refine wpAnyH_take (i := 6) (v := .int .i64 x) rfl (by kernel_rfl) (by kernel_rfl) (by kernel_rfl) (fun _ _ _ h => h) (Or.inl ⟨by rfl, by intro w' hw; have q := HCol.out w' hw; have q1 := q.1; go_simp⟩) hSS ?_
    try simp only [Act.put, List.setIfInBounds_toArray, List.set_cons_zero, List.set_cons_succ, List.getElem_toArray, List.getElem_cons_zero, List.getElem_cons_succ]
    refine wpAnyH_take (i := 7) (v := .int .i64 m) rfl (by kernel_rfl) (by kernel_rfl) (by kernel_rfl) (fun _ _ _ h => h) (Or.inl ⟨by rfl, by intro w' hw; go_simp⟩) hSS ?_
    try simp only [Act.put, List.setIfInBounds_toArray, List.set_cons_zero, List.set_cons_succ, List.getElem_toArray, List.getElem_cons_zero, List.getElem_cons_succ]
    refine wpAnyH_take (i := 9) (v := .agg #[.int .i64 7, .int .i64 0, .int .i64 0, .slice none 0 0, .int .i64 0]) rfl (by kernel_rfl) (by kernel_rfl) (by kernel_rfl) (fun _ _ _ h => h) (Or.inl ⟨by rfl, by intro w' hw; go_simp⟩) hSS ?_
    try simp only [Act.put, List.setIfInBounds_toArray, List.set_cons_zero, List.set_cons_succ, List.getElem_toArray, List.getElem_cons_zero, List.getElem_cons_succ]
    refine wpAnyH_take (i := 10) (v := .slice (some ⟨w.heap.size + 1 + 1, 0, none⟩) 7 7) rfl (by kernel_rfl) (by kernel_rfl) (by kernel_rfl) (fun _ _ _ h => h) (Or.inl ⟨by rfl, by intro w' hw; go_simp⟩) hSS ?_
    try simp only [Act.put, List.setIfInBounds_toArray, List.set_cons_zero, List.set_cons_succ, List.getElem_toArray, List.getElem_cons_zero, List.getElem_cons_succ]
    refine wpAnyH_take (i := 11) (v := .int .i64 n) rfl (by kernel_rfl) (by kernel_rfl) (by kernel_rfl) (fun _ _ _ h => h) (Or.inl ⟨by rfl, by intro w' hw; go_simp⟩) hSS ?_
    try simp only [Act.put, List.setIfInBounds_toArray, List.set_cons_zero, List.set_cons_succ, List.getElem_toArray, List.getElem_cons_zero, List.getElem_cons_succ]
    refine wpAnyH_take (i := 12) (v := .pointer (some ⟨w.heap.size + 1 + 1, n, none⟩)) rfl (by kernel_rfl) (by kernel_rfl) (by kernel_rfl) (fun _ _ _ h => h) (Or.inl ⟨by rfl, by intro w' hw; go_simp⟩) hSS ?_
    try simp only [Act.put, List.setIfInBounds_toArray, List.set_cons_zero, List.set_cons_succ, List.getElem_toArray, List.getElem_cons_zero, List.getElem_cons_succ]
    refine wpAnyH_take (i := 13) (v := .int .i64 y) rfl (by kernel_rfl) (by kernel_rfl) (by kernel_rfl) (fun _ _ _ h => h) (Or.inl ⟨by rfl, by intro w' hw; have q := HCol.out w' hw; have q2 := q.2; go_simp⟩) hSS ?_
    try simp only [Act.put, List.setIfInBounds_toArray, List.set_cons_zero, List.set_cons_succ, List.getElem_toArray, List.getElem_cons_zero, List.getElem_cons_succ]
    refine wpAnyH_take (i := 14) (v := .int .i64 n) rfl (by kernel_rfl) (by kernel_rfl) (by kernel_rfl) (fun _ _ _ h => h) (Or.inl ⟨by rfl, by intro w' hw; go_simp⟩) hSS ?_
    try simp only [Act.put, List.setIfInBounds_toArray, List.set_cons_zero, List.set_cons_succ, List.getElem_toArray, List.getElem_cons_zero, List.getElem_cons_succ]
    refine wpAnyH_take (i := 15) (v := .agg #[.int .i64 2, .int .i64 7, .int .i64 0, .int .i64 0, .slice none 0 0, .int .i64 0, .int .i64 y, .int .i64 n]) rfl (by kernel_rfl) (by kernel_rfl) (by kernel_rfl) (fun _ _ _ h => h) (Or.inl ⟨by rfl, by intro w' hw; go_simp⟩) hSS ?_
    try simp only [Act.put, List.setIfInBounds_toArray, List.set_cons_zero, List.set_cons_succ, List.getElem_toArray, List.getElem_cons_zero, List.getElem_cons_succ]
    refine wpAnyH_ready (rs := [1]) (by kernel_rfl) (by simp) ?_
    refine AllReadyH.cons rfl (fun K hK => ?_) AllReadyH.nil
    go_simp
    refine hK.out _ _ ((Below.heap_alloc _ _ _ (hp_lt hSS)).trans hSS) (fun hSS => ?_)
    clear hK K
    obtain ⟨X2, hX2⟩ : ∃ X2, X2 = X0.alloc (.cells #[.int .i64 7, .int .i64 2] 38) := ⟨_, rfl⟩
    have HG2 : Hid (X2.heap[w.heap.size]? = some (.cells #[.int .i64 1, .int .i64 2] 3 (0, 0)) ∧ X2.heap[w.heap.size + 1]? = some (.cells #[.int .i64 1, .int .i64 0, .int .i64 0, .slice none 0 0, .slice none 0 0, .slice (some ⟨w.heap.size, 0, none⟩) 2 2, .slice none 0 0] 30 (0, 0)) ∧ Kept No w X2 ∧ X2.heap[X0.heap.size]? = some (.cells #[.int .i64 7, .int .i64 2] 38 (0, 0))) := by
      rw [hX2]; exact ⟨(Below.heap_alloc _ _ _ (hp_lt HG0.out.1)).trans HG0.out.1, (Below.heap_alloc _ _ _ (hp_lt HG0.out.2.1)).trans HG0.out.2.1, HG0.out.2.2.alloc _, World.alloc_heap_new _ _⟩
    rw [← hX2] at hSS ⊢
    clear hX2 HG0
    try simp only [Act.put, List.setIfInBounds_toArray, List.set_cons_zero, List.set_cons_succ, List.getElem_toArray, List.getElem_cons_zero, List.getElem_cons_succ]
    refine wpAnyH_take (i := 2) (v := .agg #[.int .i64 7, .int .i64 0, .int .i64 0, .slice (some ⟨X0.heap.size, 0, none⟩) 1 1, .int .i64 0]) rfl (by kernel_rfl) (by kernel_rfl) (by kernel_rfl) (fun _ _ _ h => h) (Or.inl ⟨by rfl, by intro w' hw; go_simp⟩) hSS ?_
    try simp only [Act.put, List.setIfInBounds_toArray, List.set_cons_zero, List.set_cons_succ, List.getElem_toArray, List.getElem_cons_zero, List.getElem_cons_succ]
    refine wpAnyH_take (i := 8) (v := .agg #[.int .i64 1, .int .i64 7, .int .i64 0, .int .i64 0, .slice (some ⟨X0.heap.size, 0, none⟩) 1 1, .int .i64 0, .int .i64 x, .int .i64 m]) rfl (by kernel_rfl) (by kernel_rfl) (by kernel_rfl) (fun _ _ _ h => h) (Or.inl ⟨by rfl, by intro w' hw; go_simp⟩) hSS ?_
    try simp only [Act.put, List.setIfInBounds_toArray, List.set_cons_zero, List.set_cons_succ, List.getElem_toArray, List.getElem_cons_zero, List.getElem_cons_succ]
    generalize X0.heap.size = sb at HG2 ⊢
    refine wpAnyH_ready (rs := [16]) (by kernel_rfl) (by simp) ?_
    refine AllReadyH.cons rfl (fun K hK => ?_) AllReadyH.nil
    go_simp
    refine hK.out _ _ ((Below.heap_alloc _ _ _ (hp_lt hSS)).trans hSS) (fun hSS => ?_)
    clear hK K
    obtain ⟨X3, hX3⟩ : ∃ X3, X3 = X2.alloc (.cells #[.int .i64 1, .int .i64 7, .int .i64 0, .int .i64 0, .slice (some ⟨sb, 0, none⟩) 1 1, .int .i64 0, .int .i64 x, .int .i64 m, .int .i64 2, .int .i64 7, .int .i64 0, .int .i64 0, .slice none 0 0, .int .i64 0, .int .i64 y, .int .i64 n] 36) := ⟨_, rfl⟩
    have HG3 : Hid (X3.heap[w.heap.size]? = some (.cells #[.int .i64 1, .int .i64 2] 3 (0, 0)) ∧ X3.heap[w.heap.size + 1]? = some (.cells #[.int .i64 1, .int .i64 0, .int .i64 0, .slice none 0 0, .slice none 0 0, .slice (some ⟨w.heap.size, 0, none⟩) 2 2, .slice none 0 0] 30 (0, 0)) ∧ Kept No w X3 ∧ X3.heap[sb]? = some (.cells #[.int .i64 7, .int .i64 2] 38 (0, 0)) ∧ X3.heap[X2.heap.size]? = some (.cells #[.int .i64 1, .int .i64 7, .int .i64 0, .int .i64 0, .slice (some ⟨sb, 0, none⟩) 1 1, .int .i64 0, .int .i64 x, .int .i64 m, .int .i64 2, .int .i64 7, .int .i64 0, .int .i64 0, .slice none 0 0, .int .i64 0, .int .i64 y, .int .i64 n] 36 (0, 0))) := by
      rw [hX3]; exact ⟨(Below.heap_alloc _ _ _ (hp_lt HG2.out.1)).trans HG2.out.1, (Below.heap_alloc _ _ _ (hp_lt HG2.out.2.1)).trans HG2.out.2.1, HG2.out.2.2.1.alloc _, (Below.heap_alloc _ _ _ (hp_lt HG2.out.2.2.2)).trans HG2.out.2.2.2, World.alloc_heap_new _ _⟩
    rw [← hX3] at hSS ⊢
    clear hX3 HG2
    try simp only [Act.put, List.setIfInBounds_toArray, List.set_cons_zero, List.set_cons_succ, List.getElem_toArray, List.getElem_cons_zero, List.getElem_cons_succ]
    generalize X2.heap.size = rb at HG3 ⊢
    have v3 : X3.cell? ⟨w.heap.size + 1, 3, none⟩ = some (.slice none 0 0) := by rw [cell_of HG3.out.2.1]; rfl
    have z3 : X3.frozen? ⟨w.heap.size + 1, 3, none⟩ = false := frozen_of HG3.out.2.1 _
    refine wpAnyH_take (i := 17) (v := .pointer (some ⟨w.heap.size + 1, 3, none⟩)) rfl (by kernel_rfl) (by kernel_rfl) (by kernel_rfl) (fun _ _ _ h => h) (Or.inl ⟨by rfl, by intro w' hw; go_simp⟩) hSS ?_
    try simp only [Act.put, List.setIfInBounds_toArray, List.set_cons_zero, List.set_cons_succ, List.getElem_toArray, List.getElem_cons_zero, List.getElem_cons_succ]
    refine wpAnyH_ready (rs := [18]) (by kernel_rfl) (by simp) ?_
    refine AllReadyH.cons rfl (fun K hK => ?_) AllReadyH.nil
    go_simp
    refine hK.out _ _ (hp_set_other hSS 3 _ (by omega)) (fun hSS => ?_)
    clear hK K v3 z3
    obtain ⟨X4, hX4⟩ : ∃ X4, X4 = X3.setCell ⟨w.heap.size + 1, 3, none⟩ (.slice (some ⟨rb, 0, none⟩) 2 2) := ⟨_, rfl⟩
    have hbv : X4.heap[w.heap.size + 1]? = some (.cells #[.int .i64 1, .int .i64 0, .int .i64 0, .slice (some ⟨rb, 0, none⟩) 2 2, .slice none 0 0, .slice (some ⟨w.heap.size, 0, none⟩) 2 2, .slice none 0 0] 30 (0, 0)) := by
      rw [hX4]; exact hp_set_same HG3.out.2.1 3 _
    have HG4 : Hid (X4.heap[w.heap.size]? = some (.cells #[.int .i64 1, .int .i64 2] 3 (0, 0)) ∧ Kept No w X4 ∧ X4.heap[sb]? = some (.cells #[.int .i64 7, .int .i64 2] 38 (0, 0)) ∧ X4.heap[rb]? = some (.cells #[.int .i64 1, .int .i64 7, .int .i64 0, .int .i64 0, .slice (some ⟨sb, 0, none⟩) 1 1, .int .i64 0, .int .i64 x, .int .i64 m, .int .i64 2, .int .i64 7, .int .i64 0, .int .i64 0, .slice none 0 0, .int .i64 0, .int .i64 y, .int .i64 n] 36 (0, 0))) := by
      obtain ⟨g1, g2, g3, g4, g5⟩ := HG3.out
      have d1 : sb ≠ w.heap.size + 1 := by rintro rfl; rw [g2] at g4; cases g4
      have d2 : rb ≠ w.heap.size + 1 := by rintro rfl; rw [g2] at g5; cases g5
      rw [hX4]; exact ⟨hp_set_other g1 _ _ (by omega), g3.set _ _ _ (.inr (by omega)), hp_set_other g4 _ _ d1, hp_set_other g5 _ _ d2⟩
    rw [← hX4] at hSS ⊢
    clear hX4 HG3 hSS
    try simp only [Act.put, List.setIfInBounds_toArray, List.set_cons_zero, List.set_cons_succ, List.getElem_toArray, List.getElem_cons_zero, List.getElem_cons_succ]
    refine wpAnyH_done (by kernel_rfl) ?_ _
    have f0 : X4.cell? ⟨w.heap.size + 1, 0, none⟩ = some (.int .i64 1) := by rw [cell_of hbv]; rfl
    have f1 : X4.cell? ⟨w.heap.size + 1, 1, none⟩ = some (.int .i64 0) := by rw [cell_of hbv]; rfl
    have f2 : X4.cell? ⟨w.heap.size + 1, 2, none⟩ = some (.int .i64 0) := by rw [cell_of hbv]; rfl
    have f3 : X4.cell? ⟨w.heap.size + 1, 3, none⟩ = some (.slice (some ⟨rb, 0, none⟩) 2 2) := by rw [cell_of hbv]; rfl
    have f4 : X4.cell? ⟨w.heap.size + 1, 4, none⟩ = some (.slice none 0 0) := by rw [cell_of hbv]; rfl
    have f5 : X4.cell? ⟨w.heap.size + 1, 5, none⟩ = some (.slice (some ⟨w.heap.size, 0, none⟩) 2 2) := by rw [cell_of hbv]; rfl
    have f6 : X4.cell? ⟨w.heap.size + 1, 6, none⟩ = some (.slice none 0 0) := by rw [cell_of hbv]; rfl
    clear hbv
    have HAu : Hid (Calls Try.prog 17 #[AW 1 0 0 (some ⟨rb, 0, none⟩) 2 2 none 0 0 (some ⟨w.heap.size, 0, none⟩) 2 2 none 0 0] X4 fun e w' => ∃ v, e = .returned v ∧ VRow w' X4.heap.size v (audTo (oneS m n) (brG 0 [1, 2]) mnG 2) ∧ Kept No X4 w') := by
      obtain ⟨g1, g2, g3, g4⟩ := HG4.out
      have c := cell_of g4
      have d := cell_of g3
      have d1 := cell_of g1
      rw [HC.out]
      refine Audit_gen (S := [⟨1, 7, 0, 0, [(7, 2)], 0, x, m⟩, ⟨2, 7, 0, 0, [], 0, y, n⟩]) (L := [1, 2]) (wh := 0) (go := none) (gn := 0) (gc := 0) (po := none) (pn := 0) (pc := 0) ?_ (by simp) ?_ ?_ ?_ (by decide) ?_
      · refine ⟨some ⟨rb, 0, none⟩, 2, rfl, fun j hj => ?_⟩
        obtain rfl | rfl : j = 0 ∨ j = 1 := by simp at hj; omega
        · refine ⟨_, 0, .slice (some ⟨sb, 0, none⟩) 1 1, rfl, by rw [c]; rfl, by rw [c]; rfl, by rw [c]; rfl, by rw [c]; rfl, by rw [c]; rfl, by rw [c]; rfl, by rw [c]; rfl, by rw [c]; rfl, ⟨some ⟨sb, 0, none⟩, 1, rfl, fun i hi => ?_⟩⟩
          obtain rfl : i = 0 := by simp at hi; omega
          exact ⟨_, 0, rfl, by rw [d]; rfl, by rw [d]; rfl⟩
        · exact ⟨_, 0, .slice none 0 0, rfl, by rw [c]; rfl, by rw [c]; rfl, by rw [c]; rfl, by rw [c]; rfl, by rw [c]; rfl, by rw [c]; rfl, by rw [c]; rfl, by rw [c]; rfl, ⟨none, 0, rfl, fun i hi => by simp at hi⟩⟩
      · intro s hs
        simp only [List.mem_cons, List.not_mem_nil, or_false] at hs
        rcases hs with rfl | rfl <;> simp
      · intro s hs
        simp only [List.mem_cons, List.not_mem_nil, or_false] at hs
        rcases hs with rfl | rfl
        · refine ⟨⟨rfl, rfl⟩, fun v hv => ?_⟩
          simp only [List.mem_cons, List.not_mem_nil, or_false] at hv
          subst hv; exact ⟨rfl, rfl⟩
        · exact ⟨⟨rfl, rfl⟩, fun v hv => by simp at hv⟩
      · refine ⟨some ⟨w.heap.size, 0, none⟩, 2, rfl, fun j hj => ?_⟩
        obtain rfl | rfl : j = 0 ∨ j = 1 := by simp at hj; omega
        · exact ⟨_, 0, rfl, by rw [d1]; rfl⟩
        · exact ⟨_, 0, rfl, by rw [d1]; rfl⟩
      · intro h hh
        simp only [List.mem_cons, List.not_mem_nil, or_false] at hh
        rcases hh with rfl | rfl <;> rfl
    go_wp2_with fail
    refine Calls.mono HAu.out ?_
    rintro e X5 ⟨v, rfl, hv, hk5⟩
    obtain ⟨vo, vc, rfl⟩ := hv.form
    have HK5 : Hid (Kept No w X5) := HG4.out.2.1.trans hk5
    have HN2 : Hid (((audTo (oneS m n) (brG 0 [1, 2]) mnG 2).length : Int) = oneN m n) := HN.out
    clear hv hk5 HAu HG4 f0 f1 f2 f3 f4 f5 f6 HN HC HCol GC
    generalize (audTo (oneS m n) (brG 0 [1, 2]) mnG 2).length = q at HN2 ⊢
    by_cases hw : oneN (m : Int) (n : Int) = 1
    · obtain rfl : q = 1 := by have := HN2.out; omega
      have hcase : ((m : Int) = 4 ∧ (n : Int) ≤ 1) ∨ (¬ ((m : Int) = 4 ∧ (n : Int) ≤ 1) ∧ (m : Int) = 3 ∧ (n : Int) = 0) ∨ (¬ ((m : Int) = 4 ∧ (n : Int) ≤ 1) ∧ (m : Int) ≠ 3 ∧ (m : Int) = 6 ∧ (n : Int) = 0) := by
        unfold oneN at hw; simp at hw; omega
      clear hw HN2
      rcases hcase with ⟨p1, p2⟩ | ⟨_, p1, p2⟩ | ⟨_, _, p1, p2⟩
      all_goals
        try (have p3 : ¬ (m : Int) = 4 := by omega)
        try (have p4 : ¬ (m : Int) = 3 := by omega)
        go_wp2_with fail
        go_at_call 15
        refine Calls.mono (HA.out _) ?_
        rintro e w2 ⟨rfl, hk2⟩
        have HK2 : Hid (Kept No w w2) := HK5.out.trans hk2
        clear hk2
        go_wp2
        go_ret
        exact ⟨rfl, HK2.out⟩
    · have h0 : oneN (m : Int) (n : Int) = 0 := by
        have : oneN (m : Int) (n : Int) = 1 ∨ oneN (m : Int) (n : Int) = 0 := by
          unfold oneN; split
          · exact .inl rfl
          · exact .inr rfl
        omega
      obtain rfl : q = 0 := by have := HN2.out; omega
      have hcase : ((m : Int) = 4 ∧ ¬ (n : Int) ≤ 1) ∨ ((m : Int) ≠ 4 ∧ (m : Int) = 3 ∧ (n : Int) ≠ 0) ∨ ((m : Int) ≠ 4 ∧ (m : Int) ≠ 3 ∧ (m : Int) = 6 ∧ (n : Int) ≠ 0) ∨ ((m : Int) ≠ 4 ∧ (m : Int) ≠ 3 ∧ (m : Int) ≠ 6) := by
        unfold oneN at hw; simp at hw; omega
      clear hw HN2 h0
      rcases hcase with ⟨p1, p2⟩ | ⟨p0, p1, p2⟩ | ⟨p0, p3, p1, p2⟩ | ⟨p0, p3, p4⟩
      all_goals
        try (have p5 : ¬ (m : Int) = 4 := by omega)
        try (have p6 : ¬ (m : Int) = 3 := by omega)
        try (have p7 : ¬ (m : Int) = 6 := by omega)
        go_wp2_with fail
        go_at_call 15
        refine Calls.mono (HA.out _) ?_
        rintro e w2 ⟨rfl, hk2⟩
        have HK2 : Hid (Kept No w w2) := HK5.out.trans hk2
        clear hk2
        go_wp2
        go_ret
        exact ⟨rfl, HK2.out⟩
  · have key : (a < 0 ∨ 6 < a) ∨ (¬ a < 0 ∧ ¬ 6 < a ∧ (b < 0 ∨ 6 < b)) := by omega
    clear hin
    rcases key with (h | h) | ⟨h1, h2, (h | h)⟩
    all_goals
      try (have h' : ¬ a < 0 := by omega)
      try (have h'' : ¬ b < 0 := by omega)
      go_enter Try.func6, Try.ntmps6
      go_wp2_with fail
      go_at_call 15
      refine Calls.mono (HA.out _) ?_
      rintro e w2 ⟨rfl, hk2⟩
      have HK2 : Hid (Kept No w w2) := hk2
      clear hk2
      go_wp2
      go_ret
      exact ⟨rfl, HK2.out⟩
end Go.Proofs.Ytnihfakhijjjkaa
