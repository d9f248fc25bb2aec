import Derived.Test.YtgkgpjbbmnfnmaaGreatDoorGD
import Derived.Test.YtgkgpjbbmnfnmaaGreatDoorGE
import Derived.Deep.RegionHeld3
/- The tokens that are handed out. -/
namespace Go.Proofs.YtgkgpjbbmnfnmaaGreatDoor
open Go.RowKit
set_option linter.unusedSimpArgs false
set_option linter.unusedVariables false

/-- A parser at c, with these tokens, at the p-th. -/
structure Ps (w : World) (c : Nat) (V : Env) (p : Nat) : Prop where
  ex : ∃ ao cap, w.heap[c]? = some (.cells #[.slice ao V.L.length cap, .int .i64 (p : Int), .int .i64 V.E] 119 (0, 0)) ∧
    ∀ j (hj : j < V.L.length), ∃ g o, ao = some ⟨g, o, none⟩ ∧ g < c ∧ ∀ i, i < 7 → w.cell? ⟨g, o + j * 7 + i, none⟩ = (tc V.L[j])[i]?
  len : V.L.length ≤ 8192
  le : p ≤ V.L.length
theorem Ps.lt {w : World} {c : Nat} {V : Env} {p : Nat} (h : Ps w c V p) : c < w.heap.size := by
  obtain ⟨ao, cap, h1, _⟩ := h.ex
  rcases Nat.lt_or_ge c w.heap.size with h' | h'
  · exact h'
  · simp [Array.getElem?_eq_none h'] at h1
theorem Ps.no {w w' : World} {c : Nat} {V : Env} {p : Nat} (h : Ps w c V p) (hk : Kept No w w') : Ps w' c V p := by
  obtain ⟨ao, cap, h1, h2⟩ := h.ex
  refine ⟨⟨ao, cap, hk.heap h1 id, fun j hj => ?_⟩, h.len, h.le⟩
  obtain ⟨g, o, e, hg, hc⟩ := h2 j hj
  refine ⟨g, o, e, hg, fun i hi => ?_⟩
  have := hc i hi
  rw [List.getElem?_eq_getElem (show i < (tc V.L[j]).length by simp [tc]; omega)] at this ⊢
  exact kept_cell hk id this
/-- The next token's number is turned. -/
theorem Ps.next {w : World} {c : Nat} {V : Env} {p : Nat} (h : Ps w c V p) (q : Nat) (hq : q ≤ V.L.length) : Ps (w.setCell ⟨c, 1, none⟩ (.int .i64 (q : Int))) c V q := by
  obtain ⟨ao, cap, h1, h2⟩ := h.ex
  have hs : (w.setCell ⟨c, 1, none⟩ (.int .i64 (q : Int))).heap[c]? = some (.cells #[.slice ao V.L.length cap, .int .i64 (q : Int), .int .i64 V.E] 119 (0, 0)) := by
    show (w.heap.modify c _)[c]? = _
    rw [Array.getElem?_modify, if_pos rfl, h1]
    rfl
  refine ⟨⟨ao, cap, hs, fun j hj => ?_⟩, h.len, hq⟩
  obtain ⟨g, o, e, hg, hc⟩ := h2 j hj
  refine ⟨g, o, e, hg, fun i hi => ?_⟩
  have := hc i hi
  rw [List.getElem?_eq_getElem (show i < (tc V.L[j]).length by simp [tc]; omega)] at this ⊢
  exact kept_cell ((Kept.refl (fun b => b = c) w).set c 1 _ (.inl rfl)) (Nat.ne_of_lt hg) this
theorem Ps.cells {w : World} {c : Nat} {V : Env} {p : Nat} (h : Ps w c V p) : ∃ ao cap, (∀ w', Kept No w w' → w'.cell? ⟨c, 0, none⟩ = some (.slice ao V.L.length cap) ∧ w'.cell? ⟨c, 1, none⟩ = some (.int .i64 (p : Int)) ∧ w'.cell? ⟨c, 2, none⟩ = some (.int .i64 V.E) ∧ (∀ o, w'.frozen? ⟨c, o, none⟩ = false)) ∧
    ∀ j (hj : j < V.L.length), ∃ g o, ao = some ⟨g, o, none⟩ ∧ ∀ w', Kept No w w' → ∀ i, i < 7 → w'.cell? ⟨g, o + j * 7 + i, none⟩ = (tc V.L[j])[i]? := by
  obtain ⟨ao, cap, h1, h2⟩ := h.ex
  refine ⟨ao, cap, fun w' hk => ?_, fun j hj => ?_⟩
  · have := hk.heap h1 id
    exact ⟨by rw [cell_of this]; rfl, by rw [cell_of this]; rfl, by rw [cell_of this]; rfl, fun o => frozen_of this o⟩
  · obtain ⟨g, o, e, hg, hc⟩ := h2 j hj
    refine ⟨g, o, e, fun w' hk i hi => ?_⟩
    have := hc i hi
    rw [List.getElem?_eq_getElem (show i < (tc V.L[j]).length by simp [tc]; omega)] at this ⊢
    exact kept_cell hk id this
theorem set_same {w : World} {b : Nat} {c : Array Value} {e : TypeId} {f : Nat × Nat} (h : w.heap[b]? = some (.cells c e f)) (o : Nat) (v : Value) : (w.setCell ⟨b, o, none⟩ v).heap[b]? = some (.cells (c.setIfInBounds o v) e f) := by
  show (w.heap.modify b _)[b]? = _
  rw [Array.getElem?_modify, if_pos rfl, h]
  rfl
theorem set_other {w : World} {b k : Nat} {x : Obj} (h : w.heap[k]? = some x) (o : Nat) (v : Value) (hn : k ≠ b) : (w.setCell ⟨b, o, none⟩ v).heap[k]? = some x := by
  show (w.heap.modify b _)[k]? = _
  rw [Array.getElem?_modify, if_neg (fun e => hn e.symm), h]
/-- Where all but the parser is kept, and it has gone on. -/
theorem Ps.turn {w w' : World} {c : Nat} {V : Env} {p : Nat} (h : Ps w c V p) (q : Nat) (hq : q ≤ V.L.length) (hk : Kept (fun b => b = c) w w')
    (hb : ∀ ao cap, w.heap[c]? = some (.cells #[.slice ao V.L.length cap, .int .i64 (p : Int), .int .i64 V.E] 119 (0, 0)) → w'.heap[c]? = some (.cells #[.slice ao V.L.length cap, .int .i64 (q : Int), .int .i64 V.E] 119 (0, 0))) : Ps w' c V q := by
  obtain ⟨ao, cap, h1, h2⟩ := h.ex
  refine ⟨⟨ao, cap, hb ao cap h1, fun j hj => ?_⟩, h.len, hq⟩
  obtain ⟨g, o, e, hg, hc⟩ := h2 j hj
  refine ⟨g, o, e, hg, fun i hi => ?_⟩
  have := hc i hi
  rw [List.getElem?_eq_getElem (show i < (tc V.L[j]).length by simp [tc]; omega)] at this ⊢
  exact kept_cell hk (Nat.ne_of_lt hg) this
/-- Where all up to the parser is as it was. -/
theorem Ps.low {w w' : World} {c : Nat} {V : Env} {p : Nat} (h : Ps w c V p) (hk : ∀ k, k ≤ c → w'.heap[k]? = w.heap[k]?) : Ps w' c V p := by
  obtain ⟨ao, cap, h1, h2⟩ := h.ex
  refine ⟨⟨ao, cap, by rw [hk c (Nat.le_refl _)]; exact h1, fun j hj => ?_⟩, h.len, h.le⟩
  obtain ⟨g, o, e, hg, hc⟩ := h2 j hj
  refine ⟨g, o, e, hg, fun i hi => ?_⟩
  have := hc i hi
  rw [← this]
  simp only [World.cell?, hk g (Nat.le_of_lt hg)]
theorem set_low (w : World) {b k : Nat} (o : Nat) (v : Value) (hn : k ≠ b) : (w.setCell ⟨b, o, none⟩ v).heap[k]? = w.heap[k]? := by
  show (w.heap.modify b _)[k]? = _
  rw [Array.getElem?_modify, if_neg (fun e => hn e.symm)]
theorem alloc_low (w : World) (o : Obj) {k : Nat} (hk : k < w.heap.size) : (w.alloc o).heap[k]? = w.heap[k]? := Lib.alloc_old w o k hk
theorem tk_in {V : Env} {p : Nat} (h : p < V.L.length) : V.tk p = V.L[p] := by
  unfold Env.tk; rw [List.getD_eq_getElem?_getD, List.getElem?_eq_getElem h]; rfl
theorem tk_out {V : Env} {p : Nat} (h : V.L.length ≤ p) : V.tk p = ⟨0, ⟨#[]⟩, 0, 0, ⟨#[]⟩, V.E, 0⟩ := by
  unfold Env.tk; rw [List.getD_eq_getElem?_getD, List.getElem?_eq_none h]; rfl

set_option maxRecDepth 20000 in
set_option maxHeartbeats 4000000 in
theorem ahead_any {w : World} {c : Nat} {V : Env} {p : Nat} (h : Ps w c V p) (n : Nat) (hn : n ≤ 1) :
    Calls Tryz.prog 162 #[.pointer (some ⟨c, 0, none⟩), .int .i64 (n : Int)] w fun r w' => r = .returned (tv (V.tk (p + n))) ∧ Kept No w w' := by
  obtain ⟨ao, cap, hC, hR⟩ := h.cells
  have HC : Hid (∀ w', Kept No w w' → w'.cell? ⟨c, 0, none⟩ = some (.slice ao V.L.length cap) ∧ w'.cell? ⟨c, 1, none⟩ = some (.int .i64 (p : Int)) ∧ w'.cell? ⟨c, 2, none⟩ = some (.int .i64 V.E) ∧ (∀ o, w'.frozen? ⟨c, o, none⟩ = false)) := hC
  have hlen := h.len
  have hle := h.le
  obtain ⟨W0, HW0⟩ : ∃ W0, Hid (w.alloc (tb t0) = W0) := ⟨_, show _ = _ from rfl⟩
  have HK0 : Hid (Kept No w W0) := by show Kept _ _ _; rw [← HW0.out]; exact (Kept.refl No w).alloc _
  have HT0 : Hid (W0.heap[w.heap.size]? = some (tb t0)) := by show _ = _; rw [← HW0.out]; exact World.alloc_heap_new w _
  unfold tb t0 at HW0
  dsimp only at HW0
  have u1 : IntKind.i64.wrap ((p : Int) + (n : Int)) = (p : Int) + (n : Int) := by rw [IntKind.wrap_i64]; omega
  clear hC h
  by_cases hlt : p + n < V.L.length
  · have dlt : decide ((p : Int) + (n : Int) < (V.L.length : Int)) = true := decide_eq_true (by omega)
    have lt : (p : Int) + (n : Int) < (V.L.length : Int) := by omega
    have ge0 : (0 : Int) ≤ (p : Int) + (n : Int) := by omega
    have ei : ((p : Int) + (n : Int)).toNat = p + n := by omega
    obtain ⟨g, o, rfl, hc⟩ := hR (p + n) hlt
    rw [tk_in hlt]
    have HX : Hid (∀ w', Kept No w w' → ∀ i, i < 7 → w'.cell? ⟨g, o + (p + n) * 7 + i, none⟩ = (tc V.L[p + n])[i]?) := hc
    clear hR hc
    go_enter Tryz.func162, Tryz.ntmps162
    go_wp2_with fail
    rw [HW0.out]
    have HX2 : Hid (∀ w', Kept No w w' → w'.cell? ⟨g, o + (p + n) * 7, none⟩ = some (.int .i64 V.L[p + n].k) ∧ w'.cell? ⟨g, o + (p + n) * 7 + 1, none⟩ = some (.string V.L[p + n].t) ∧ w'.cell? ⟨g, o + (p + n) * 7 + 2, none⟩ = some (.int .i64 V.L[p + n].vt) ∧ w'.cell? ⟨g, o + (p + n) * 7 + 3, none⟩ = some (.int .i64 V.L[p + n].vn) ∧ w'.cell? ⟨g, o + (p + n) * 7 + 4, none⟩ = some (.string V.L[p + n].sy) ∧ w'.cell? ⟨g, o + (p + n) * 7 + 5, none⟩ = some (.int .i64 V.L[p + n].a) ∧ w'.cell? ⟨g, o + (p + n) * 7 + 6, none⟩ = some (.int .i64 V.L[p + n].e)) :=
      fun w' hw => ⟨HX.out w' hw 0 (by omega), HX.out w' hw 1 (by omega), HX.out w' hw 2 (by omega), HX.out w' hw 3 (by omega), HX.out w' hw 4 (by omega), HX.out w' hw 5 (by omega), HX.out w' hw 6 (by omega)⟩
    clear HX
    have HX := HX2
    clear HX2
    obtain ⟨x, HXE⟩ : ∃ x, Hid (V.L[p + n] = x) := ⟨_, show _ = _ from rfl⟩
    rw [HXE.out] at HX
    obtain ⟨xk, xt, xvt, xvn, xsy, xa, xe⟩ := x
    dsimp only at HX
    refine wp_region_held_drew (S := fun w' => Kept No w w') (by kernel_rfl) HK0.out.drew (fun hSS => ?_)
    have HT1 : Hid (W0.drew.heap[w.heap.size]? = some (tb t0)) := HT0.out
    clear HT0 HK0 HW0
    generalize W0.drew = W1 at hSS HT1 ⊢
    refine wpAnyH_take (i := 0) (v := ?vA0) rfl (by kernel_rfl) (by kernel_rfl) (by kernel_rfl) (fun _ _ _ h => h) (Or.inl ⟨by rfl, ?yA0⟩) hSS ?rA0
    case yA0 => (intro w' hw; obtain ⟨f0, f1, f2, f3⟩ := HC.out w' hw; go_simp; try with_reducible rfl)
    case rA0 =>
    try simp only [Act.put, List.setIfInBounds_toArray, List.set_cons_zero, List.set_cons_succ, List.getElem_toArray, List.getElem_cons_zero, List.getElem_cons_succ]
    refine wpAnyH_take (i := 1) (v := ?vA1) rfl (by kernel_rfl) (by kernel_rfl) (by kernel_rfl) (fun _ _ _ h => h) (Or.inl ⟨by rfl, ?yA1⟩) hSS ?rA1
    case yA1 => (intro w' hw; obtain ⟨f0, f1, f2, f3⟩ := HC.out w' hw; go_simp; try with_reducible rfl)
    case rA1 =>
    try simp only [Act.put, List.setIfInBounds_toArray, List.set_cons_zero, List.set_cons_succ, List.getElem_toArray, List.getElem_cons_zero, List.getElem_cons_succ]
    refine wpAnyH_take (i := 2) (v := ?vA2) rfl (by kernel_rfl) (by kernel_rfl) (by kernel_rfl) (fun _ _ _ h => h) (Or.inl ⟨by rfl, ?yA2⟩) hSS ?rA2
    case yA2 => (intro w' hw; obtain ⟨f0, f1, f2, f3⟩ := HC.out w' hw; go_simp; try with_reducible rfl)
    case rA2 =>
    try simp only [Act.put, List.setIfInBounds_toArray, List.set_cons_zero, List.set_cons_succ, List.getElem_toArray, List.getElem_cons_zero, List.getElem_cons_succ]
    refine wpAnyH_take (i := 3) (v := ?vA3) rfl (by kernel_rfl) (by kernel_rfl) (by kernel_rfl) (fun _ _ _ h => h) (Or.inl ⟨by rfl, ?yA3⟩) hSS ?rA3
    case yA3 => (intro w' hw; obtain ⟨f0, f1, f2, f3⟩ := HC.out w' hw; go_simp; try with_reducible rfl)
    case rA3 =>
    try simp only [Act.put, List.setIfInBounds_toArray, List.set_cons_zero, List.set_cons_succ, List.getElem_toArray, List.getElem_cons_zero, List.getElem_cons_succ]
    refine wpAnyH_take (i := 4) (v := ?vA4) rfl (by kernel_rfl) (by kernel_rfl) (by kernel_rfl) (fun _ _ _ h => h) (Or.inl ⟨by rfl, ?yA4⟩) hSS ?rA4
    case yA4 => (intro w' hw; obtain ⟨f0, f1, f2, f3⟩ := HC.out w' hw; go_simp; try with_reducible rfl)
    case rA4 =>
    try simp only [Act.put, List.setIfInBounds_toArray, List.set_cons_zero, List.set_cons_succ, List.getElem_toArray, List.getElem_cons_zero, List.getElem_cons_succ]
    refine wpAnyH_take (i := 5) (v := ?vA5) rfl (by kernel_rfl) (by kernel_rfl) (by kernel_rfl) (fun _ _ _ h => h) (Or.inl ⟨by rfl, ?yA5⟩) hSS ?rA5
    case yA5 => (intro w' hw; obtain ⟨f0, f1, f2, f3⟩ := HC.out w' hw; go_simp; try with_reducible rfl)
    case rA5 =>
    try simp only [Act.put, List.setIfInBounds_toArray, List.set_cons_zero, List.set_cons_succ, List.getElem_toArray, List.getElem_cons_zero, List.getElem_cons_succ]
    refine wpAnyH_take (i := 6) (v := ?vA6) rfl (by kernel_rfl) (by kernel_rfl) (by kernel_rfl) (fun _ _ _ h => h) (Or.inl ⟨by rfl, ?yA6⟩) hSS ?rA6
    case yA6 => (intro w' hw; obtain ⟨f0, f1, f2, f3⟩ := HC.out w' hw; go_simp; try with_reducible rfl)
    case rA6 =>
    try simp only [Act.put, List.setIfInBounds_toArray, List.set_cons_zero, List.set_cons_succ, List.getElem_toArray, List.getElem_cons_zero, List.getElem_cons_succ]
    refine wpAnyH_take (i := 7) (v := ?vA7) rfl (by kernel_rfl) (by kernel_rfl) (by kernel_rfl) (fun _ _ _ h => h) (Or.inl ⟨by rfl, ?yA7⟩) hSS ?rA7
    case yA7 => (intro w' hw; obtain ⟨f0, f1, f2, f3⟩ := HC.out w' hw; go_simp; try with_reducible rfl)
    case rA7 =>
    try simp only [Act.put, List.setIfInBounds_toArray, List.set_cons_zero, List.set_cons_succ, List.getElem_toArray, List.getElem_cons_zero, List.getElem_cons_succ]
    refine wpAnyH_take (i := 8) (v := ?vA8) rfl (by kernel_rfl) (by kernel_rfl) (by kernel_rfl) (fun _ _ _ h => h) (Or.inl ⟨by rfl, ?yA8⟩) hSS ?rA8
    case yA8 => (intro w' hw; obtain ⟨f0, f1, f2, f3⟩ := HC.out w' hw; go_simp; try with_reducible rfl)
    case rA8 =>
    try simp only [Act.put, List.setIfInBounds_toArray, List.set_cons_zero, List.set_cons_succ, List.getElem_toArray, List.getElem_cons_zero, List.getElem_cons_succ]
    refine wpAnyH_take (i := 9) (v := ?vA9) rfl (by kernel_rfl) (by kernel_rfl) (by kernel_rfl) (fun _ _ _ h => h) (Or.inl ⟨by rfl, ?yA9⟩) hSS ?rA9
    case yA9 => (intro w' hw; obtain ⟨f0, f1, f2, f3⟩ := HC.out w' hw; go_simp; try with_reducible rfl)
    case rA9 =>
    try simp only [Act.put, List.setIfInBounds_toArray, List.set_cons_zero, List.set_cons_succ, List.getElem_toArray, List.getElem_cons_zero, List.getElem_cons_succ]
    refine wpAnyH_take (i := 10) (v := ?vA10) rfl (by kernel_rfl) (by kernel_rfl) (by kernel_rfl) (fun _ _ _ h => h) (Or.inl ⟨by rfl, ?yA10⟩) hSS ?rA10
    case yA10 => (intro w' hw; obtain ⟨f0, f1, f2, f3⟩ := HC.out w' hw; go_simp; try with_reducible rfl)
    case rA10 =>
    try simp only [Act.put, List.setIfInBounds_toArray, List.set_cons_zero, List.set_cons_succ, List.getElem_toArray, List.getElem_cons_zero, List.getElem_cons_succ]
    refine wpAnyH_take (i := 11) (v := .bool true) rfl (by kernel_rfl) (by kernel_rfl) (by kernel_rfl) (fun _ _ _ h => h) (Or.inl ⟨by rfl, ?yA11⟩) hSS ?rA11
    case yA11 => (intro w' hw; obtain ⟨f0, f1, f2, f3⟩ := HC.out w' hw; go_simp; try with_reducible rfl)
    case rA11 =>
    try simp only [Act.put, List.setIfInBounds_toArray, List.set_cons_zero, List.set_cons_succ, List.getElem_toArray, List.getElem_cons_zero, List.getElem_cons_succ]
    refine wpAnyH_done (by kernel_rfl) ?_ _
    go_wp2_with fail
    have HT2 : Hid (W1.drew.heap[w.heap.size]? = some (tb t0)) := HT1.out
    have hS1 := hSS.drew
    refine wp_region_held_drew (S := fun w' => Kept No w w') (by kernel_rfl) hS1 (fun hSS => ?_)
    clear HT1 hS1
    generalize W1.drew = W2 at hSS HT2 ⊢
    refine wpAnyH_take (i := 0) (v := ?vB0) rfl (by kernel_rfl) (by kernel_rfl) (by kernel_rfl) (fun _ _ _ h => h) (Or.inl ⟨by rfl, ?yB0⟩) hSS ?rB0
    case yB0 => (intro w' hw; obtain ⟨f0, f1, f2, f3⟩ := HC.out w' hw; obtain ⟨a0, a1, a2, a3, a4, a5, a6⟩ := HX.out w' hw; go_simp; try with_reducible rfl)
    case rB0 =>
    try simp only [Act.put, List.setIfInBounds_toArray, List.set_cons_zero, List.set_cons_succ, List.getElem_toArray, List.getElem_cons_zero, List.getElem_cons_succ]
    refine wpAnyH_take (i := 1) (v := ?vB1) rfl (by kernel_rfl) (by kernel_rfl) (by kernel_rfl) (fun _ _ _ h => h) (Or.inl ⟨by rfl, ?yB1⟩) hSS ?rB1
    case yB1 => (intro w' hw; obtain ⟨f0, f1, f2, f3⟩ := HC.out w' hw; obtain ⟨a0, a1, a2, a3, a4, a5, a6⟩ := HX.out w' hw; go_simp; try with_reducible rfl)
    case rB1 =>
    try simp only [Act.put, List.setIfInBounds_toArray, List.set_cons_zero, List.set_cons_succ, List.getElem_toArray, List.getElem_cons_zero, List.getElem_cons_succ]
    refine wpAnyH_take (i := 2) (v := ?vB2) rfl (by kernel_rfl) (by kernel_rfl) (by kernel_rfl) (fun _ _ _ h => h) (Or.inl ⟨by rfl, ?yB2⟩) hSS ?rB2
    case yB2 => (intro w' hw; obtain ⟨f0, f1, f2, f3⟩ := HC.out w' hw; obtain ⟨a0, a1, a2, a3, a4, a5, a6⟩ := HX.out w' hw; go_simp; try with_reducible rfl)
    case rB2 =>
    try simp only [Act.put, List.setIfInBounds_toArray, List.set_cons_zero, List.set_cons_succ, List.getElem_toArray, List.getElem_cons_zero, List.getElem_cons_succ]
    refine wpAnyH_take (i := 3) (v := ?vB3) rfl (by kernel_rfl) (by kernel_rfl) (by kernel_rfl) (fun _ _ _ h => h) (Or.inl ⟨by rfl, ?yB3⟩) hSS ?rB3
    case yB3 => (intro w' hw; obtain ⟨f0, f1, f2, f3⟩ := HC.out w' hw; obtain ⟨a0, a1, a2, a3, a4, a5, a6⟩ := HX.out w' hw; go_simp; try with_reducible rfl)
    case rB3 =>
    try simp only [Act.put, List.setIfInBounds_toArray, List.set_cons_zero, List.set_cons_succ, List.getElem_toArray, List.getElem_cons_zero, List.getElem_cons_succ]
    refine wpAnyH_take (i := 4) (v := ?vB4) rfl (by kernel_rfl) (by kernel_rfl) (by kernel_rfl) (fun _ _ _ h => h) (Or.inl ⟨by rfl, ?yB4⟩) hSS ?rB4
    case yB4 => (intro w' hw; obtain ⟨f0, f1, f2, f3⟩ := HC.out w' hw; obtain ⟨a0, a1, a2, a3, a4, a5, a6⟩ := HX.out w' hw; go_simp; try with_reducible rfl)
    case rB4 =>
    try simp only [Act.put, List.setIfInBounds_toArray, List.set_cons_zero, List.set_cons_succ, List.getElem_toArray, List.getElem_cons_zero, List.getElem_cons_succ]
    refine wpAnyH_take (i := 5) (v := ?vB5) rfl (by kernel_rfl) (by kernel_rfl) (by kernel_rfl) (fun _ _ _ h => h) (Or.inl ⟨by rfl, ?yB5⟩) hSS ?rB5
    case yB5 => (intro w' hw; obtain ⟨f0, f1, f2, f3⟩ := HC.out w' hw; obtain ⟨a0, a1, a2, a3, a4, a5, a6⟩ := HX.out w' hw; go_simp; try with_reducible rfl)
    case rB5 =>
    try simp only [Act.put, List.setIfInBounds_toArray, List.set_cons_zero, List.set_cons_succ, List.getElem_toArray, List.getElem_cons_zero, List.getElem_cons_succ]
    refine wpAnyH_take (i := 6) (v := ?vB6) rfl (by kernel_rfl) (by kernel_rfl) (by kernel_rfl) (fun _ _ _ h => h) (Or.inl ⟨by rfl, ?yB6⟩) hSS ?rB6
    case yB6 => (intro w' hw; obtain ⟨f0, f1, f2, f3⟩ := HC.out w' hw; obtain ⟨a0, a1, a2, a3, a4, a5, a6⟩ := HX.out w' hw; go_simp; try with_reducible rfl)
    case rB6 =>
    try simp only [Act.put, List.setIfInBounds_toArray, List.set_cons_zero, List.set_cons_succ, List.getElem_toArray, List.getElem_cons_zero, List.getElem_cons_succ]
    refine wpAnyH_take (i := 7) (v := ?vB7) rfl (by kernel_rfl) (by kernel_rfl) (by kernel_rfl) (fun _ _ _ h => h) (Or.inl ⟨by rfl, ?yB7⟩) hSS ?rB7
    case yB7 => (intro w' hw; obtain ⟨f0, f1, f2, f3⟩ := HC.out w' hw; obtain ⟨a0, a1, a2, a3, a4, a5, a6⟩ := HX.out w' hw; go_simp; try with_reducible rfl)
    case rB7 =>
    try simp only [Act.put, List.setIfInBounds_toArray, List.set_cons_zero, List.set_cons_succ, List.getElem_toArray, List.getElem_cons_zero, List.getElem_cons_succ]
    refine wpAnyH_take (i := 8) (v := ?vB8) rfl (by kernel_rfl) (by kernel_rfl) (by kernel_rfl) (fun _ _ _ h => h) (Or.inl ⟨by rfl, ?yB8⟩) hSS ?rB8
    case yB8 => (intro w' hw; obtain ⟨f0, f1, f2, f3⟩ := HC.out w' hw; obtain ⟨a0, a1, a2, a3, a4, a5, a6⟩ := HX.out w' hw; go_simp; try with_reducible rfl)
    case rB8 =>
    try simp only [Act.put, List.setIfInBounds_toArray, List.set_cons_zero, List.set_cons_succ, List.getElem_toArray, List.getElem_cons_zero, List.getElem_cons_succ]
    refine wpAnyH_take (i := 9) (v := ?vB9) rfl (by kernel_rfl) (by kernel_rfl) (by kernel_rfl) (fun _ _ _ h => h) (Or.inl ⟨by rfl, ?yB9⟩) hSS ?rB9
    case yB9 => (intro w' hw; obtain ⟨f0, f1, f2, f3⟩ := HC.out w' hw; obtain ⟨a0, a1, a2, a3, a4, a5, a6⟩ := HX.out w' hw; go_simp; try with_reducible rfl)
    case rB9 =>
    try simp only [Act.put, List.setIfInBounds_toArray, List.set_cons_zero, List.set_cons_succ, List.getElem_toArray, List.getElem_cons_zero, List.getElem_cons_succ]
    refine wpAnyH_take (i := 10) (v := .pointer (some ⟨g, o + (p + n) * 7, none⟩)) rfl (by kernel_rfl) (by kernel_rfl) (by kernel_rfl) (fun _ _ _ h => h) (Or.inl ⟨by rfl, ?yB10⟩) hSS ?rB10
    case yB10 => (intro w' hw; obtain ⟨f0, f1, f2, f3⟩ := HC.out w' hw; obtain ⟨a0, a1, a2, a3, a4, a5, a6⟩ := HX.out w' hw; go_simp; try with_reducible rfl)
    case rB10 =>
    try simp only [Act.put, List.setIfInBounds_toArray, List.set_cons_zero, List.set_cons_succ, List.getElem_toArray, List.getElem_cons_zero, List.getElem_cons_succ]
    refine wpAnyH_take (i := 11) (v := .agg #[.int .i64 xk, .string xt, .int .i64 xvt, .int .i64 xvn, .string xsy, .int .i64 xa, .int .i64 xe]) rfl (by kernel_rfl) (by kernel_rfl) (by kernel_rfl) (fun _ _ _ h => h) (Or.inl ⟨by rfl, ?yB11⟩) hSS ?rB11
    case yB11 => (intro w' hw; obtain ⟨f0, f1, f2, f3⟩ := HC.out w' hw; obtain ⟨a0, a1, a2, a3, a4, a5, a6⟩ := HX.out w' hw; go_simp; try with_reducible rfl)
    case rB11 =>
    try simp only [Act.put, List.setIfInBounds_toArray, List.set_cons_zero, List.set_cons_succ, List.getElem_toArray, List.getElem_cons_zero, List.getElem_cons_succ]
    refine wpAnyH_ready (rs := [12]) (by kernel_rfl) (by simp) ?_
    refine AllReadyH.cons rfl (fun K hK => ?_) AllReadyH.nil
    obtain ⟨t3, t4, t5, t6, t7, t8, t9⟩ := tb_cells HT2.out
    have tf := fun o => tb_frozen HT2.out o
    dsimp only [t0] at t3 t4 t5 t6 t7 t8 t9
    have HKf : Hid (Kept No w W2) := hSS
    go_simp
    try go_wp2_with fail
    refine hK.out _ _ (by (repeat refine Kept.set ?_ _ _ _ (Or.inr (Nat.le_refl _))); exact HKf.out) (fun hS3 => ?_)
    clear hK K
    try simp only [Act.put, List.setIfInBounds_toArray, List.set_cons_zero, List.set_cons_succ, List.getElem_toArray, List.getElem_cons_zero, List.getElem_cons_succ]
    refine wpAnyH_done (by kernel_rfl) ?_ _
    go_wp2_with fail
    exact bodyPost_ret (v := tv ⟨xk, xt, xvt, xvn, xsy, xa, xe⟩) (by simp [results, Tryz.results162, go_sem, tv, t3, t4, t5, t6, t7, t8, t9]) rfl ⟨by rw [HXE.out], hS3⟩
  · have dlt : decide ((p : Int) + (n : Int) < (V.L.length : Int)) = false := decide_eq_false (by omega)
    rw [tk_out (by omega)]
    clear hR
    go_enter Tryz.func162, Tryz.ntmps162
    go_wp2_with fail
    rw [HW0.out]
    refine wp_region_held_drew (S := fun w' => Kept No w w') (by kernel_rfl) HK0.out.drew (fun hSS => ?_)
    have HT1 : Hid (W0.drew.heap[w.heap.size]? = some (tb t0)) := HT0.out
    clear HT0 HK0 HW0
    generalize W0.drew = W1 at hSS HT1 ⊢
    refine wpAnyH_take (i := 0) (v := ?vC0) rfl (by kernel_rfl) (by kernel_rfl) (by kernel_rfl) (fun _ _ _ h => h) (Or.inl ⟨by rfl, ?yC0⟩) hSS ?rC0
    case yC0 => (intro w' hw; obtain ⟨f0, f1, f2, f3⟩ := HC.out w' hw; go_simp; try with_reducible rfl)
    case rC0 =>
    try simp only [Act.put, List.setIfInBounds_toArray, List.set_cons_zero, List.set_cons_succ, List.getElem_toArray, List.getElem_cons_zero, List.getElem_cons_succ]
    refine wpAnyH_take (i := 1) (v := ?vC1) rfl (by kernel_rfl) (by kernel_rfl) (by kernel_rfl) (fun _ _ _ h => h) (Or.inl ⟨by rfl, ?yC1⟩) hSS ?rC1
    case yC1 => (intro w' hw; obtain ⟨f0, f1, f2, f3⟩ := HC.out w' hw; go_simp; try with_reducible rfl)
    case rC1 =>
    try simp only [Act.put, List.setIfInBounds_toArray, List.set_cons_zero, List.set_cons_succ, List.getElem_toArray, List.getElem_cons_zero, List.getElem_cons_succ]
    refine wpAnyH_take (i := 2) (v := ?vC2) rfl (by kernel_rfl) (by kernel_rfl) (by kernel_rfl) (fun _ _ _ h => h) (Or.inl ⟨by rfl, ?yC2⟩) hSS ?rC2
    case yC2 => (intro w' hw; obtain ⟨f0, f1, f2, f3⟩ := HC.out w' hw; go_simp; try with_reducible rfl)
    case rC2 =>
    try simp only [Act.put, List.setIfInBounds_toArray, List.set_cons_zero, List.set_cons_succ, List.getElem_toArray, List.getElem_cons_zero, List.getElem_cons_succ]
    refine wpAnyH_take (i := 3) (v := ?vC3) rfl (by kernel_rfl) (by kernel_rfl) (by kernel_rfl) (fun _ _ _ h => h) (Or.inl ⟨by rfl, ?yC3⟩) hSS ?rC3
    case yC3 => (intro w' hw; obtain ⟨f0, f1, f2, f3⟩ := HC.out w' hw; go_simp; try with_reducible rfl)
    case rC3 =>
    try simp only [Act.put, List.setIfInBounds_toArray, List.set_cons_zero, List.set_cons_succ, List.getElem_toArray, List.getElem_cons_zero, List.getElem_cons_succ]
    refine wpAnyH_take (i := 4) (v := ?vC4) rfl (by kernel_rfl) (by kernel_rfl) (by kernel_rfl) (fun _ _ _ h => h) (Or.inl ⟨by rfl, ?yC4⟩) hSS ?rC4
    case yC4 => (intro w' hw; obtain ⟨f0, f1, f2, f3⟩ := HC.out w' hw; go_simp; try with_reducible rfl)
    case rC4 =>
    try simp only [Act.put, List.setIfInBounds_toArray, List.set_cons_zero, List.set_cons_succ, List.getElem_toArray, List.getElem_cons_zero, List.getElem_cons_succ]
    refine wpAnyH_take (i := 5) (v := ?vC5) rfl (by kernel_rfl) (by kernel_rfl) (by kernel_rfl) (fun _ _ _ h => h) (Or.inl ⟨by rfl, ?yC5⟩) hSS ?rC5
    case yC5 => (intro w' hw; obtain ⟨f0, f1, f2, f3⟩ := HC.out w' hw; go_simp; try with_reducible rfl)
    case rC5 =>
    try simp only [Act.put, List.setIfInBounds_toArray, List.set_cons_zero, List.set_cons_succ, List.getElem_toArray, List.getElem_cons_zero, List.getElem_cons_succ]
    refine wpAnyH_take (i := 6) (v := ?vC6) rfl (by kernel_rfl) (by kernel_rfl) (by kernel_rfl) (fun _ _ _ h => h) (Or.inl ⟨by rfl, ?yC6⟩) hSS ?rC6
    case yC6 => (intro w' hw; obtain ⟨f0, f1, f2, f3⟩ := HC.out w' hw; go_simp; try with_reducible rfl)
    case rC6 =>
    try simp only [Act.put, List.setIfInBounds_toArray, List.set_cons_zero, List.set_cons_succ, List.getElem_toArray, List.getElem_cons_zero, List.getElem_cons_succ]
    refine wpAnyH_take (i := 7) (v := ?vC7) rfl (by kernel_rfl) (by kernel_rfl) (by kernel_rfl) (fun _ _ _ h => h) (Or.inl ⟨by rfl, ?yC7⟩) hSS ?rC7
    case yC7 => (intro w' hw; obtain ⟨f0, f1, f2, f3⟩ := HC.out w' hw; go_simp; try with_reducible rfl)
    case rC7 =>
    try simp only [Act.put, List.setIfInBounds_toArray, List.set_cons_zero, List.set_cons_succ, List.getElem_toArray, List.getElem_cons_zero, List.getElem_cons_succ]
    refine wpAnyH_take (i := 8) (v := ?vC8) rfl (by kernel_rfl) (by kernel_rfl) (by kernel_rfl) (fun _ _ _ h => h) (Or.inl ⟨by rfl, ?yC8⟩) hSS ?rC8
    case yC8 => (intro w' hw; obtain ⟨f0, f1, f2, f3⟩ := HC.out w' hw; go_simp; try with_reducible rfl)
    case rC8 =>
    try simp only [Act.put, List.setIfInBounds_toArray, List.set_cons_zero, List.set_cons_succ, List.getElem_toArray, List.getElem_cons_zero, List.getElem_cons_succ]
    refine wpAnyH_take (i := 9) (v := ?vC9) rfl (by kernel_rfl) (by kernel_rfl) (by kernel_rfl) (fun _ _ _ h => h) (Or.inl ⟨by rfl, ?yC9⟩) hSS ?rC9
    case yC9 => (intro w' hw; obtain ⟨f0, f1, f2, f3⟩ := HC.out w' hw; go_simp; try with_reducible rfl)
    case rC9 =>
    try simp only [Act.put, List.setIfInBounds_toArray, List.set_cons_zero, List.set_cons_succ, List.getElem_toArray, List.getElem_cons_zero, List.getElem_cons_succ]
    refine wpAnyH_take (i := 10) (v := ?vC10) rfl (by kernel_rfl) (by kernel_rfl) (by kernel_rfl) (fun _ _ _ h => h) (Or.inl ⟨by rfl, ?yC10⟩) hSS ?rC10
    case yC10 => (intro w' hw; obtain ⟨f0, f1, f2, f3⟩ := HC.out w' hw; go_simp; try with_reducible rfl)
    case rC10 =>
    try simp only [Act.put, List.setIfInBounds_toArray, List.set_cons_zero, List.set_cons_succ, List.getElem_toArray, List.getElem_cons_zero, List.getElem_cons_succ]
    refine wpAnyH_take (i := 11) (v := .bool false) rfl (by kernel_rfl) (by kernel_rfl) (by kernel_rfl) (fun _ _ _ h => h) (Or.inl ⟨by rfl, ?yC11⟩) hSS ?rC11
    case yC11 => (intro w' hw; obtain ⟨f0, f1, f2, f3⟩ := HC.out w' hw; go_simp; try with_reducible rfl)
    case rC11 =>
    try simp only [Act.put, List.setIfInBounds_toArray, List.set_cons_zero, List.set_cons_succ, List.getElem_toArray, List.getElem_cons_zero, List.getElem_cons_succ]
    refine wpAnyH_done (by kernel_rfl) ?_ _
    obtain ⟨f0, f1, f2, f3⟩ := HC.out W1 hSS
    obtain ⟨t3, t4, t5, t6, t7, t8, t9⟩ := tb_cells HT1.out
    have tf := fun o => tb_frozen HT1.out o
    dsimp only [t0] at t3 t4 t5 t6 t7 t8 t9
    have HKf : Hid (Kept No w W1) := hSS
    clear hSS HT1
    go_wp2_with fail
    refine bodyPost_ret (v := tv ⟨0, ⟨#[]⟩, 0, 0, ⟨#[]⟩, V.E, 0⟩) (by simp [results, Tryz.results162, go_sem, tv, t3, t4, t5, t6, t7, t8, t9]) rfl ⟨rfl, ?_⟩
    repeat refine Kept.set ?_ _ _ _ (Or.inr (Nat.le_refl _))
    exact HKf.out
end Go.Proofs.YtgkgpjbbmnfnmaaGreatDoor
