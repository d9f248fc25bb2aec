/- Cells that are moved, and cleared: copy and clear. -/
import Derived.Test.YtdaklohfecinjaaA3
import Derived.Laws.IdiomCopy
import Derived.Lib.SliceRun
namespace Go.Proofs.Ytdaklohfecinjaa
open Go.RowKit

/-- A list with others laid over it from a place on. -/
def putL (xs : List Int) (o : Nat) (ys : List Int) : List Int := xs.take o ++ ys ++ xs.drop (o + ys.length)

theorem putL_length {xs : List Int} {o : Nat} {ys : List Int} (h : o + ys.length ≤ xs.length) : (putL xs o ys).length = xs.length := by
  simp [putL]; omega
theorem putL_nil (xs : List Int) (o : Nat) : putL xs o [] = xs := by simp [putL]
theorem putL_cons (xs : List Int) (o : Nat) (y : Int) (ys : List Int) (h : o + (y :: ys).length ≤ xs.length) : putL xs o (y :: ys) = putL (xs.set o y) (o + 1) ys := by
  simp only [List.length_cons] at h
  unfold putL
  simp only [List.length_cons]
  have e1 : (xs.set o y).take (o + 1) = xs.take o ++ [y] := by
    rw [List.take_set, List.take_succ_eq_append_getElem (by omega), List.set_append_right _ _ (by simp; omega)]
    simp [Nat.min_eq_left (show o ≤ xs.length by omega)]
  have e2 : (xs.set o y).drop (o + 1 + ys.length) = xs.drop (o + (ys.length + 1)) := by
    rw [List.drop_set_of_lt (by omega)]; congr 1; omega
  rw [e1, e2]; simp
theorem putL_getD (xs : List Int) (o : Nat) (ys : List Int) (h : o + ys.length ≤ xs.length) (j : Nat) : (putL xs o ys).getD j 0 = if o ≤ j ∧ j < o + ys.length then ys.getD (j - o) 0 else xs.getD j 0 := by
  unfold putL
  simp only [List.getD_eq_getElem?_getD]
  congr 1
  by_cases h1 : j < o
  · rw [if_neg (by omega), List.append_assoc, List.getElem?_append_left (by simp; omega), List.getElem?_take, if_pos h1]
  · by_cases h2 : j < o + ys.length
    · rw [if_pos ⟨by omega, h2⟩, List.append_assoc, List.getElem?_append_right (by simp; omega), List.getElem?_append_left (by simp; omega)]
      simp [Nat.min_eq_left (show o ≤ xs.length by omega)]
    · rw [if_neg (by omega), List.append_assoc, List.getElem?_append_right (by simp; omega), List.getElem?_append_right (by simp; omega), List.getElem?_drop]
      have e : o + ys.length + (j - (List.take o xs).length - ys.length) = j := by simp only [List.length_take]; omega
      rw [e]

theorem hp_setCells (g : Nat) : ∀ (ys : List Int) (o : Nat) (w : World) (xs : List Int), w.heap[g]? = some (cl xs) → o + ys.length ≤ xs.length → (w.setCells g o (ys.map (Value.int .i64))).heap[g]? = some (cl (putL xs o ys))
  | [], o, w, xs, h, _ => by rw [putL_nil]; exact h
  | y :: ys, o, w, xs, h, hl => by
    rw [putL_cons xs o y ys hl]
    show ((w.setCell ⟨g, o, none⟩ (.int .i64 y)).setCells g (o + 1) (ys.map (Value.int .i64))).heap[g]? = _
    refine hp_setCells g ys (o + 1) _ (xs.set o y) ?_ (by simp only [List.length_cons] at hl; simp; omega)
    rw [hp_set_same h]
    simp [cl, List.map_set]
theorem hp_setCells_other (g : Nat) : ∀ (vs : List Value) (o : Nat) (w : World) (k : Nat), k ≠ g → (w.setCells g o vs).heap[k]? = w.heap[k]?
  | [], _, _, _, _ => rfl
  | v :: r, o, w, k, h => (hp_setCells_other g r (o + 1) _ k h).trans (Below.heap_setCell w ⟨g, o, none⟩ v k h)
theorem kept_setCells {S : Nat → Prop} (g : Nat) (hg : S g) : ∀ (vs : List Value) (o : Nat) (a w : World), Kept S a w → Kept S a (w.setCells g o vs)
  | [], _, _, _, h => h
  | v :: r, o, a, _, h => kept_setCells g hg r (o + 1) a _ (h.set g o v (.inl hg))
theorem size_setCells (g : Nat) : ∀ (vs : List Value) (o : Nat) (w : World), (w.setCells g o vs).heap.size = w.heap.size
  | [], _, _ => rfl
  | v :: r, o, w => (size_setCells g r (o + 1) _).trans (size_set w _ v)

theorem cell_setCells_ne (g : Nat) (vs : List Value) (o : Nat) (w : World) (k i : Nat) (h : k ≠ g) : (w.setCells g o vs).cell? ⟨k, i, none⟩ = w.cell? ⟨k, i, none⟩ :=
  World.cell?_setCells_out g vs o w _ (fun e _ => absurd e h)

theorem cl_cell {w : World} {C : Nat} {xs : List Int} (h : w.heap[C]? = some (cl xs)) {j : Nat} (hj : j < xs.length) : w.cell? ⟨C, j, none⟩ = some (.int .i64 (xs.getD j 0)) := by
  rw [cell_of h]; simp [List.getD, List.getElem?_eq_getElem hj]
theorem cl_frozen {w : World} {C : Nat} {xs : List Int} (h : w.heap[C]? = some (cl xs)) (j : Nat) : w.frozen? ⟨C, j, none⟩ = false := frozen_of h j

theorem size2 : (Try.prog.info? 2).map (·.size) = some 1 := by kernel_rfl
theorem zero2 (w : World) : (zeroValue 2).run Try.prog w = .ok (.int .i64 0) w := by kernel_rfl

theorem run_copy_cl (w : World) (ty : TypeId) (g dO dLen dCap gs sO sLen sCap m : Nat) (xs ys : List Int) (hC : w.heap[g]? = some (cl xs)) (hm : Nat.min sLen dLen = m) (hy : ys.length = m)
    (hs : ∀ j, j < m → w.cell? ⟨gs, sO + j, none⟩ = some (.int .i64 (ys.getD j 0))) (hd : dO + m ≤ xs.length) :
    (Builtin.copy_ #[51, 51] ty #[.slice (some ⟨g, dO, none⟩) dLen dCap, .slice (some ⟨gs, sO, none⟩) sLen sCap]).run Try.prog w = .ok (goInt m) (w.setCells g dO (ys.map (Value.int .i64))) := by
  have h := run_copy_cells (P := Try.prog) w 51 51 ty 2 g dO dLen dCap ⟨gs, sO, none⟩ sLen sCap (ys.map (Value.int .i64)) Try.underlying51 size2 (by rw [List.length_map, hy, hm])
    (by
      intro j v hv
      have hj : j < m := by rw [← hy]; have := (List.getElem?_eq_some_iff.1 hv).1; simpa using this
      have hadd : (⟨gs, sO, none⟩ : Addr).add j = ⟨gs, sO + j, none⟩ := by unfold Addr.add; split <;> simp_all
      rw [hadd, hs j hj, ← hv]
      simp [List.getD, List.getElem?_eq_getElem (show j < ys.length by omega)])
    (by intro j hj; rw [List.length_map, hy] at hj; rw [cl_cell hC (by omega)]; rfl)
    (by intro j _; exact cl_frozen hC _)
    (by intro v hv; obtain ⟨n, _, rfl⟩ := List.mem_map.1 hv; rfl)
  rw [List.length_map, hy] at h
  exact h

theorem run_clear_cl (w : World) (ty : TypeId) (g o n c : Nat) (xs : List Int) (hC : w.heap[g]? = some (cl xs)) (hn : 0 < n) (ho : o + n ≤ xs.length) :
    (Builtin.clear_ #[51] ty #[.slice (some ⟨g, o, none⟩) n c]).run Try.prog w = .ok (.tuple #[]) (w.setCells g o ((List.replicate n (0 : Int)).map (Value.int .i64))) := by
  rw [List.map_replicate]
  exact Lib.run_clear_slice w 51 2 ty (.int .i64 0) Try.underlying51 zero2 rfl rfl g o n c hn (fun j hj => by rw [cl_cell hC (by omega)]; rfl) (fun j _ => cl_frozen hC _)
theorem run_clear_none (w : World) (ty : TypeId) (a : Option Addr) (c : Nat) :
    (Builtin.clear_ #[51] ty #[.slice a 0 c]).run Try.prog w = .ok (.tuple #[]) w := by
  cases a <;> simp [Builtin.clear_, run_underlying Try.underlying51]

/-- copy, as a step of a region that draws its order. -/
theorem step_copy_cl {ops : Array Oper} {o : Oper} {a : Act} {w : World} {K : Act → World → Prop} {Q : Exit → Act → World → Prop} {E : Prop}
    (hgd : o.guard = none) (d x : Operand) (hop : o.op = Op.call { callee := Callee.builtin Builtin.copy, args := #[d, x], argTypes := #[51, 51] })
    (g dO dLen dCap gs sO sLen sCap m : Nat) (xs ys : List Int) (hd : a.eval d = .slice (some ⟨g, dO, none⟩) dLen dCap) (hx : a.eval x = .slice (some ⟨gs, sO, none⟩) sLen sCap)
    (hC : w.heap[g]? = some (cl xs)) (hm : Nat.min sLen dLen = m) (hy : ys.length = m)
    (hs : ∀ j, j < m → w.cell? ⟨gs, sO + j, none⟩ = some (.int .i64 (ys.getD j 0))) (hf : dO + m ≤ xs.length)
    (hK : ∀ w', Hid (w' = w.setCells g dO (ys.map (Value.int .i64))) → K (a.put o.dst (goInt m)) w') :
    if Region.wanted o (yielded ops a.tmps) = true then Oper.wp Try.prog o a w K Q else E := by
  have hw : Region.wanted o (yielded ops a.tmps) = true := by simp [Region.wanted, hgd]
  rw [if_pos hw]
  have hrun := run_copy_cl w o.type g dO dLen dCap gs sO sLen sCap m xs ys hC hm hy hs hf
  unfold Oper.wp
  simp [execOp, hop, resolve, invoke, builtin, hd, hx, hrun, Result.andThen]
  exact hK _ rfl
end Go.Proofs.Ytdaklohfecinjaa
