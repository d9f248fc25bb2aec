/- Resize. -/
import Derived.Test.YthefmfjlinpepaaP1
namespace Go.Proofs.Ythefmfjlinpepaa
open Go.RowKit Go.Shelf
set_option linter.unusedSimpArgs false
set_option linter.unusedVariables false
attribute [local go_sem] Oper.semAt_some

set_option maxRecDepth 20000 in
set_option maxHeartbeats 2000000 in
/-- There is no room. -/
theorem Resize_full {w : World} {P : Nat} {most : Int} {a n nn : Nat} {sl : Sl} (h : Tb w P most a n nn sl) (hm : I64 most) (a' n' : Nat) (ha : a' ≤ 100000) (hn : n' ≤ 100000) (hp : bits .and .i64 (n' : Int) ((n' : Int) - 1) = 0) (hf : most < (a' : Int) + 2 * (n' : Int)) :
    Calls Try.prog 32 #[MP P, .int .i64 a', .int .i64 n'] w fun e w' => e = .returned (.int .i64 8) ∧ w = w' := by
  obtain ⟨M, h1, h2, h3⟩ := h.ex
  obtain ⟨c0, c1, c2, c3⟩ := mb_cells h1
  have HM : Hid (I64 most) := hm
  obtain ⟨m1, m2⟩ := hm
  have e1 : ¬ ((a' : Int) < 0) := by omega
  have e2 : ¬ ((n' : Int) < 0) := by omega
  clear h h1 h2 h3
  by_cases hg : most < (a' : Int)
  · go_enter Try.func32, Try.ntmps32
    go_wp2
    go_ret
    exact ⟨rfl, rfl⟩
  · have e3 : (most - (a' : Int)).tdiv 2 < (n' : Int) := by
      rw [Int.tdiv_eq_ediv_of_nonneg (by omega)]; omega
    go_enter Try.func32, Try.ntmps32
    go_wp2
    go_ret
    exact ⟨rfl, rfl⟩

set_option maxRecDepth 20000 in
set_option maxHeartbeats 2000000 in
/-- There is room. -/
theorem Resize_ok {w : World} {P : Nat} {most : Int} {a n nn : Nat} {sl : Sl} (h : Tb w P most a n nn sl) (hm : I64 most) (a' n' : Nat) (ha : a' ≤ 100000) (hn : n' ≤ 100000) (hp : bits .and .i64 (n' : Int) ((n' : Int) - 1) = 0) (hf : (a' : Int) + 2 * (n' : Int) ≤ most) :
    Calls Try.prog 32 #[MP P, .int .i64 a', .int .i64 n'] w fun e w' => e = .returned (.int .i64 0) ∧ Tb w' P most a' n' 0 (fun _ => (0, 0)) ∧ Own w P w' := by
  obtain ⟨M, h1, h2, h3⟩ := h.ex
  obtain ⟨m1, m2⟩ := hm
  have e1 : ¬ ((a' : Int) < 0) := by omega
  have e2 : ¬ ((n' : Int) < 0) := by omega
  have hg : ¬ most < (a' : Int) := by omega
  have e3 : ¬ (most - (a' : Int)).tdiv 2 < (n' : Int) := by
    rw [Int.tdiv_eq_ediv_of_nonneg (by omega)]; omega
  have hlt := h.lt
  obtain ⟨c0, c1, c2, c3⟩ := mb_cells h1
  have f0 := mb_frozen h1
  have HE : Hid (Tb ((((w.setCell ⟨P, 1, none⟩ (.int .i64 a')).setCell ⟨P, 2, none⟩ (.int .i64 n')).setCell ⟨P, 3, none⟩ (.map (some w.heap.size))).alloc (.map #[] 0)) P most a' n' 0 (fun _ => (0, 0)) ∧ Own w P ((((w.setCell ⟨P, 1, none⟩ (.int .i64 a')).setCell ⟨P, 2, none⟩ (.int .i64 n')).setCell ⟨P, 3, none⟩ (.map (some w.heap.size))).alloc (.map #[] 0))) := by
    obtain ⟨X, hX⟩ : ∃ X, X = (((w.setCell ⟨P, 1, none⟩ (.int .i64 a')).setCell ⟨P, 2, none⟩ (.int .i64 n')).setCell ⟨P, 3, none⟩ (.map (some w.heap.size))) := ⟨_, rfl⟩
    rw [← hX]
    have hz : X.heap.size = w.heap.size := by rw [hX]; simp
    have hP0 : X.heap[P]? = some (mb most a' n' (some w.heap.size)) := by rw [hX]; exact hp_set_same (hp_set_same (hp_set_same h1 1 _) 2 _) 3 _
    have hP := heap_old hP0 (.map #[] 0)
    have hk0 : Kept (fun k => k = P) w X := by rw [hX]; exact (((Kept.refl (fun k => k = P) _).set P 1 _ (.inl rfl)).set P 2 _ (.inl rfl)).set P 3 _ (.inl rfl)
    have hM := MapIs.made X
    rw [hz] at hM
    refine ⟨⟨⟨some w.heap.size, hP, fun e => (by cases e), fun m e => by cases e; exact hM⟩, fun i hi => absurd rfl hi, by omega⟩, ⟨(hk0.mono (fun k e => Or.inl e)).alloc _, fun k hk => ?_⟩⟩
    rcases hk with rfl | ⟨most', a2, n2, e⟩
    · exact .inl (.inl rfl)
    · rw [hP] at e
      simp [mb] at e
      exact .inr (by omega)
  clear h h1 h2 h3
  have hmm := @run_makeMap Try.prog
  go_enter Try.func32, Try.ntmps32
  go_wp2
  go_ret
  exact ⟨rfl, HE.out⟩
end Go.Proofs.Ythefmfjlinpepaa
