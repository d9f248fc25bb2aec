/- Plain facts for ArenaTight: an arena behind a compaction; a made row of ints. -/
import Derived.Test.YtdaklohfecinjaaP6
namespace Go.Proofs.Ytdaklohfecinjaa
open Go.RowKit Go.Maps Go.Sort Go.Shelf
set_option linter.unusedSimpArgs false
set_option linter.unusedVariables false

theorem topN_comp : ∀ (o : Nat) (l : List Nd), l ≠ [] → topN (comp o l) = o + sumS l
  | o, [x], _ => by simp [comp, topN, sumS]
  | o, x :: y :: r, _ => by
    have := topN_comp (o + x.s) (y :: r) (by simp)
    rw [sumS_cons]
    show topN (comp (o + x.s) (y :: r)) = _
    rw [this]; omega
theorem gm_zero {l : List Nd} {size : Nat} (h : ∀ i, i + 1 < l.length → gap l size i = 0) : ∀ N, N < l.length → gm l size N = 0
  | 0, _ => rfl
  | N + 1, hN => by
    show max (gm l size N) (gap l size N) = 0
    rw [gm_zero h N (by omega), h N hN]; rfl
theorem gm_comp {l : List Nd} {size : Nat} (hl : l ≠ []) (hs : sumS l ≤ size) : gm (comp 0 l) size (comp 0 l).length = ((size - sumS l : Nat) : Int) := by
  have hlen := comp_length 0 l
  have hpos : 0 < l.length := List.length_pos_iff.2 hl
  obtain ⟨N, hN⟩ : ∃ N, l.length = N + 1 := ⟨l.length - 1, by omega⟩
  rw [hlen, hN]
  show max (gm (comp 0 l) size N) (gap (comp 0 l) size N) = _
  rw [gm_zero (fun i hi => gap_comp 0 l size i (by rw [hlen] at hi; exact hi)) N (by rw [hlen]; omega)]
  have := gap_last 0 l size hl
  rw [hN, Nat.add_sub_cancel] at this
  rw [this]; omega
theorem comp_take : ∀ (o : Nat) (l : List Nd) (k : Nat), (comp o l).take k = comp o (l.take k)
  | o, [], k => by simp [comp]
  | o, x :: r, 0 => by simp [comp]
  | o, x :: r, k + 1 => by simp [comp, comp_take (o + x.s) r k]
theorem mv_comp (l : List Nd) : ∀ k, mv (comp 0 l) k = 0
  | 0 => rfl
  | k + 1 => by
    by_cases hk : k < (comp 0 l).length
    · rw [mv_succ hk, mv_comp l k, comp_at 0 l k (by rw [comp_length] at hk; exact hk), comp_take, sumS_comp]
      simp
    · rw [mv, List.getElem?_eq_none (by omega)]
      exact mv_comp l k

/-- A row of ints in memory. -/
def icl (l : List Int) : Obj := .cells (l.map (Value.int .i64)).toArray 3 (0, 0)
theorem icl_cell {w : World} {G : Nat} {l : List Int} (h : w.heap[G]? = some (icl l)) {j : Nat} (hj : j < l.length) : w.cell? ⟨G, j, none⟩ = some (.int .i64 (l.getD j 0)) := by
  rw [cell_of h]; simp [List.getD, List.getElem?_eq_getElem hj]
theorem icl_frozen {w : World} {G : Nat} {l : List Int} (h : w.heap[G]? = some (icl l)) (j : Nat) : w.frozen? ⟨G, j, none⟩ = false := frozen_of h j
theorem icl_set {w : World} {G : Nat} {l : List Int} (h : w.heap[G]? = some (icl l)) (j : Nat) (x : Int) : (w.setCell ⟨G, j, none⟩ (.int .i64 x)).heap[G]? = some (icl (l.set j x)) := by
  rw [hp_set_same h]; simp [icl, List.map_set]
theorem info3 : (Try.prog.info? 3).map (fun i => (i.zero, i.size, i.bytes)) = some (some (.int .i64 0), 1, 8) := by kernel_rfl
theorem run_mk39 (n : Nat) (hn : n ≤ 65536) (w : World) : (Instr.makeSlice 39 (.int .i64 (n : Int)) (.int .i64 (n : Int))).run Try.prog w = .ok (.slice (some ⟨w.heap.size, 0, none⟩) n n) (w.alloc (icl (List.replicate n 0))) := by
  obtain ⟨i0, hi, hz0, hz1, hz2⟩ := info_parts info3
  rw [run_make w 39 3 i0 (.int .i64 0) Try.underlying39 hi hz0 .i64 .i64 (n : Int) (n : Int) (by omega) (Int.le_refl _) (by rw [hz2]; omega) (by omega)]
  rw [hz1, Int.toNat_natCast, Nat.mul_one]
  have : madeCells (Value.int .i64 0).cells n = ((List.replicate n (0 : Int)).map (Value.int .i64)).toArray := by
    apply Array.ext
    · simp [madeCells]
    · intro i h1 h2
      simp [madeCells, Value.cells, Nat.mod_one]
  rw [this]; rfl
end Go.Proofs.Ytdaklohfecinjaa
