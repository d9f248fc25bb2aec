/- Scope: what is known, as data and in memory; the four functions over it. -/
import Derived.Test.YtgkgpjbbmnfnmaaGreatDoorRV
namespace Go.Proofs.YtgkgpjbbmnfnmaaGreatDoor
open Go.RowKit
set_option linter.unusedSimpArgs false
set_option linter.unusedVariables false

/-- A name that is known: its text, its variable's function and number. -/
structure Ent where
  t : ByteArray
  o : Int
  n : Int
def entC (e : Ent) : List Value := [.string e.t, .int .i64 e.o, .int .i64 e.n]
def flE (l : List Ent) : List Value := (l.map entC).flatten
theorem flE_len (l : List Ent) : (flE l).length = l.length * 3 := by
  induction l with
  | nil => rfl
  | cons e r ih => simp only [flE, List.map_cons, List.flatten_cons, List.length_append] at ih ⊢; rw [ih]; simp [entC]; omega
theorem flE_app (l m : List Ent) : flE (l ++ m) = flE l ++ flE m := by simp [flE]
theorem flE_take (l : List Ent) (k : Nat) : (flE l).take (k * 3) = flE (l.take k) := by
  induction l generalizing k with
  | nil => simp [flE]
  | cons e r ih =>
    cases k with
    | zero => simp [flE]
    | succ k =>
      have := ih k
      simp only [flE, List.map_cons, List.flatten_cons, List.take_succ_cons] at this ⊢
      rw [show (k + 1) * 3 = (entC e).length + k * 3 by simp [entC]; omega, List.take_length_add_append, this]
theorem flE_at : ∀ (l : List Ent) (j : Nat) (h : j < l.length) (k : Nat), k < 3 → (flE l)[j * 3 + k]? = (entC l[j])[k]?
  | [], j, h, k, hk => by simp at h
  | e :: r, 0, h, k, hk => by
    simp only [flE, List.map_cons, List.flatten_cons, Nat.zero_mul, Nat.zero_add, List.getElem_cons_zero]
    rw [List.getElem?_append_left (by simp [entC]; omega)]
  | e :: r, j + 1, h, k, hk => by
    have := flE_at r j (by simpa using h) k hk
    simp only [flE, List.map_cons, List.flatten_cons, List.getElem_cons_succ] at this ⊢
    rw [show (j + 1) * 3 + k = (entC e).length + (j * 3 + k) by simp [entC]; omega, List.getElem?_append_right (by omega), Nat.add_sub_cancel_left, this]
/-- Whose variable the last name with this text among the first k is. -/
def lookK (l : List Ent) (t : ByteArray) : Nat → Int × Int
  | 0 => (-1, -1)
  | k + 1 => match l[k]? with
    | some e => if (e.t.toList == t.toList) = true then (e.o, e.n) else lookK l t k
    | none => lookK l t k
/-- The stack's box at sb, its row from block B on. -/
structure Sk (w : World) (B sb : Nat) (v : Value) (l : List Ent) : Prop where
  box : w.heap[sb]? = some (.cells #[v] 122 (0, 0))
  row : w.ownsRow B 124 3 v l.length (flE l)
  lt : sb < B
  le : B ≤ w.heap.size
/-- The stack's blocks. -/
def OutK (sb : Nat) (v : Value) (b : Nat) : Prop := b = sb ∨ v.ownBlock = some b
theorem Sk.slice {w : World} {B sb : Nat} {v : Value} {l : List Ent} (h : Sk w B sb v l) : ∃ ao cap, v = .slice ao l.length cap ∧ l.length ≤ cap := by
  obtain ⟨o1, ⟨o2, o3⟩ | ⟨g, cap, cur, o3, _, _, h4, _⟩⟩ := h.row
  · exact ⟨none, 0, by rw [o3]; exact o2, by omega⟩
  · exact ⟨_, cap, o3, h4⟩
theorem Sk.at {w : World} {B sb : Nat} {v : Value} {l : List Ent} (h : Sk w B sb v l) (j : Nat) (hj : j < l.length) : ∃ g cap, v = .slice (some ⟨g, 0, none⟩) l.length cap ∧ w.cell? ⟨g, j * 3, none⟩ = some (.string l[j].t) ∧ w.cell? ⟨g, j * 3 + 1, none⟩ = some (.int .i64 l[j].o) ∧ w.cell? ⟨g, j * 3 + 2, none⟩ = some (.int .i64 l[j].n) := by
  obtain ⟨o1, ⟨o2, o3⟩ | ⟨g, cap, cur, o3, h1, h2, h3, h4, h5, h6⟩⟩ := h.row
  · omega
  · have hc : ∀ k, k < 3 → w.cell? ⟨g, j * 3 + k, none⟩ = (entC l[j])[k]? := fun k hk => by
      rw [cell_of h2, ← flE_at l j hj k hk, ← h6, List.getElem?_take, if_pos (by omega), Array.getElem?_toList]
    exact ⟨g, cap, o3, hc 0 (by omega), hc 1 (by omega), hc 2 (by omega)⟩
theorem info124 : (Tryz.prog.info? 124).map (fun i => (i.zero, i.size, i.bytes)) = some (some (.agg #[.string ⟨#[]⟩, .int .i64 0, .int .i64 0]), 3, 32) := by kernel_rfl
theorem entC_one (e : Ent) : ∀ u ∈ entC e, u.oneCell' = true := by
  intro u hu
  simp only [entC, List.mem_cons, List.not_mem_nil, or_false] at hu
  rcases hu with rfl | rfl | rfl <;> rfl
theorem app_e {ops : Array Oper} {rest : List Oper} {o : Oper} {a : Act} {Q : Exit → Act → World → Prop} {w : World} (hgd : o.guard = none) (s x : Operand)
    (ho : o.op = .call { callee := .builtin .append, args := #[s, x], argTypes := #[122, 122] }) (base : Nat) (v : Value) (L : List Ent) (hs : a.eval s = v) (hrow : w.ownsRow base 124 3 v L.length (flE L))
    (N : Nat) (e : Ent) (hx : a.eval x = .slice (some ⟨N, 0, none⟩) 1 1) (hN : w.heap[N]? = some (.cells (entC e).toArray 124 (0, 0))) (hlen : L.length + 1 ≤ 2000000) (hbase : base ≤ w.heap.size)
    (h : ∀ v' w', Hid (w'.ownsRow base 124 3 v' (L ++ [e]).length (flE (L ++ [e]))) → Hid (w.grownBy w' v.ownBlock) → Hid (v'.ownBlock = v.ownBlock ∨ v'.ownBlock = some w.heap.size) → (∃ ao n cap, v' = .slice ao n cap) → wpList Tryz.prog ops Q rest (a.put o.dst v') w') : wpList Tryz.prog ops Q (o :: rest) a w := by
  obtain ⟨i0, hi, hz0, hz1, hz2⟩ := info_parts info124
  refine wpList_plain hgd fun K hK => ?_
  obtain ⟨v', w', hr, h2, h3, _, h5⟩ := run_append_own_at (P := Tryz.prog) w base 122 o.type 124 i0 _ 3 32 Tryz.underlying122 hi hz0 hz1 hz2 rfl (by decide) v L.length (flE L) hrow ⟨N, 0, none⟩ 1 1 (entC e) rfl (World.news_of_block hN) (entC_one e) (by unfold maxLen; omega) (by omega) hbase
  unfold Oper.wp execOp
  simp only [ho, resolve, invoke, builtin, Sem.run_bind, Sem.run_pure, Result.andThen_ok, List.map_toArray, List.map_cons, List.map_nil, hs, hx, hr]
  have h6 : w'.ownsRow base 124 3 v' (L ++ [e]).length (flE (L ++ [e])) := by
    rw [List.length_append, flE_app, show flE [e] = entC e by simp [flE]]; exact h2
  refine hK _ _ (h v' w' h6 h3 h5 ?_)
  obtain ⟨_, ⟨q, _⟩ | ⟨g, cap, cur, q, _⟩⟩ := h6
  · exact ⟨_, _, _, q⟩
  · exact ⟨_, _, _, q⟩
end Go.Proofs.YtgkgpjbbmnfnmaaGreatDoor
