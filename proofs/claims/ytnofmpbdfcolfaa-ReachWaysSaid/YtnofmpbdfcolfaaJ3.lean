/- A row of things that a call has made. -/
import Derived.Test.YtnofmpbdfcolfaaJ2
namespace Go.Proofs.Ytnofmpbdfcolfaa
open Go.RowKit Go.Shelf
set_option linter.unusedSimpArgs false
set_option linter.unusedVariables false

theorem info43 : (Try.prog.info? 43).map (fun i => (i.zero, i.size, i.bytes)) = some (some (.agg #[.int .i64 0, .int .i64 0, .int .i64 0, .slice none 0 0, .int .i64 0]), 5, 56) := by kernel_rfl

/-- A thing's cells, its slots a slice. -/
def cellsOf (p : Th × Value) : List Value := [.int .i64 p.1.kind, .int .i64 p.1.weak, .int .i64 p.1.arr, p.2, .int .i64 p.1.fin]
def flatT (L : List (Th × Value)) : List Value := L.flatMap cellsOf
theorem flatT_len (L : List (Th × Value)) : (flatT L).length = L.length * 5 := by
  induction L with
  | nil => rfl
  | cons p ps ih => simp only [flatT, List.flatMap_cons, List.length_append, List.length_cons] at ih ⊢; rw [ih]; simp [cellsOf]; omega
theorem flatT_append (a b : List (Th × Value)) : flatT (a ++ b) = flatT a ++ flatT b := by simp [flatT]
theorem flatT_get : ∀ (L : List (Th × Value)) (j : Nat) (hj : j < L.length), (flatT L)[j * 5]? = some (.int .i64 L[j].1.kind) ∧ (flatT L)[j * 5 + 1]? = some (.int .i64 L[j].1.weak) ∧ (flatT L)[j * 5 + 2]? = some (.int .i64 L[j].1.arr) ∧
    (flatT L)[j * 5 + 3]? = some L[j].2 ∧ (flatT L)[j * 5 + 4]? = some (.int .i64 L[j].1.fin)
  | [], _, h => by simp at h
  | p :: L, 0, h => by simp [flatT, cellsOf]
  | p :: L, j + 1, h => by
    have ih := flatT_get L j (by simpa using h)
    have e1 : flatT (p :: L) = Value.int .i64 p.1.kind :: Value.int .i64 p.1.weak :: Value.int .i64 p.1.arr :: p.2 :: Value.int .i64 p.1.fin :: flatT L := rfl
    rw [e1, show (j + 1) * 5 = j * 5 + 1 + 1 + 1 + 1 + 1 by omega]
    simpa using ih

/-- A row of things that a call has made. -/
def TRow (w : World) (base : Nat) (v : Value) (L : List (Th × Value)) : Prop := w.ownsRow base 43 5 v L.length (flatT L)
theorem TRow.nil (w : World) (base : Nat) : TRow w base (.slice none 0 0) [] := World.ownsRow_nil w base 43 5
theorem TRow.turn {w w' : World} {base : Nat} {v : Value} {L : List (Th × Value)} (h : TRow w base v L) (hk : ∀ k, v.ownBlock = some k → w'.heap[k]? = w.heap[k]?) : TRow w' base v L := by
  refine ⟨h.1, h.2.imp id ?_⟩
  rintro ⟨g, cap, cur, e1, e2, e3, r⟩
  refine ⟨g, cap, cur, e1, e2, ?_, r⟩
  rw [hk g (by rw [e1]; rfl)]; exact e3
theorem TRow.block {w : World} {base : Nat} {v : Value} {L : List (Th × Value)} (h : TRow w base v L) {k : Nat} (hk : v.ownBlock = some k) : base ≤ k ∧ ∃ c, w.heap[k]? = some (.cells c 43 (0, 0)) := by
  rcases h.2 with ⟨rfl, h0⟩ | ⟨g, cap, cur, rfl, hb, hg, _⟩
  · cases hk
  · simp only [Value.ownBlock, Option.some.injEq] at hk
    subst hk
    exact ⟨hb, cur, hg⟩
theorem TRow.form {w : World} {base : Nat} {v : Value} {L : List (Th × Value)} (h : TRow w base v L) : ∃ ao c, v = .slice ao L.length c := by
  rcases h.2 with ⟨rfl, h0⟩ | ⟨g, cap, cur, rfl, _⟩
  · exact ⟨_, _, by rw [h0]⟩
  · exact ⟨_, _, rfl⟩
theorem TRow.rd {w : World} {base : Nat} {v : Value} {L : List (Th × Value)} (h : TRow w base v L) (hr : ∀ p ∈ L, RdV w p.2 p.1.sl) : RdT w v (L.map (·.1)) := by
  rcases h.2 with ⟨rfl, h0⟩ | ⟨g, cap, cur, rfl, _⟩
  · exact ⟨none, 0, by rw [List.length_map, h0], fun j hj => by rw [List.length_map] at hj; omega⟩
  · refine ⟨_, _, by rw [List.length_map], fun j hj => ?_⟩
    have hj' : j < L.length := by simpa using hj
    obtain ⟨q0, q1, q2, q3, q4⟩ := flatT_get L j hj'
    have hl := flatT_len L
    have e : (L.map (·.1))[j] = L[j].1 := by simp
    rw [e]
    refine ⟨g, 0, L[j].2, rfl, ?_, ?_, ?_, ?_, ?_, hr _ (List.getElem_mem hj')⟩
    · rw [Nat.zero_add]; exact (World.ownsRow.cellAt h _ (by omega)).trans q0
    · rw [Nat.zero_add]; exact (World.ownsRow.cellAt h _ (by omega)).trans q1
    · rw [Nat.zero_add]; exact (World.ownsRow.cellAt h _ (by omega)).trans q2
    · rw [Nat.zero_add]; exact (World.ownsRow.cellAt h _ (by omega)).trans q3
    · rw [Nat.zero_add]; exact (World.ownsRow.cellAt h _ (by omega)).trans q4
/-- A thing is appended. -/
theorem app_th {ops : Array Oper} {rest : List Oper} {o : Oper} {a : Act} {Q : Exit → Act → World → Prop} {w : World} (hgd : o.guard = none) (s x : Operand)
    (ho : o.op = .call { callee := .builtin .append, args := #[s, x], argTypes := #[22, 22] }) (base : Nat) (v : Value) (L : List (Th × Value)) (hs : a.eval s = v) (hrow : TRow w base v L)
    (N : Nat) (e : Th × Value) (he : e.2.oneCell' = true) (hx : a.eval x = .slice (some ⟨N, 0, none⟩) 1 1) (hN : w.heap[N]? = some (.cells #[.int .i64 e.1.kind, .int .i64 e.1.weak, .int .i64 e.1.arr, e.2, .int .i64 e.1.fin] 43 (0, 0))) (hlen : L.length + 1 ≤ 1000000) (hbase : base ≤ w.heap.size)
    (h : ∀ v' w', Hid (TRow w' base v' (L ++ [e])) → Hid (w.grownBy w' v.ownBlock) → wpList Try.prog ops Q rest (a.put o.dst v') w') : wpList Try.prog ops Q (o :: rest) a w := by
  obtain ⟨i0, hi, hz0, hz1, hz2⟩ := info_parts info43
  refine wpList_append_own _ hgd s x 22 ho base 43 i0 _ 5 56 Try.underlying22 hi hz0 hz1 hz2 rfl (by decide) v L.length (flatT L) hs hrow ⟨N, 0, none⟩ 1 1 (flatT [e]) hx rfl ?_ ?_
      (by unfold maxLen; omega) (by omega) hbase ?_
  · intro j u hu
    have hc := cell_of hN
    rcases j with _ | _ | _ | _ | _ | j
    · simp [flatT, cellsOf] at hu; subst hu; simpa [Addr.add] using hc 0
    · simp [flatT, cellsOf] at hu; subst hu; simpa [Addr.add] using hc 1
    · simp [flatT, cellsOf] at hu; subst hu; simpa [Addr.add] using hc 2
    · simp [flatT, cellsOf] at hu; subst hu; simpa [Addr.add] using hc 3
    · simp [flatT, cellsOf] at hu; subst hu; simpa [Addr.add] using hc 4
    · simp [flatT, cellsOf] at hu
  · intro u hu
    simp [flatT, cellsOf] at hu
    rcases hu with rfl | rfl | rfl | rfl | rfl
    · rfl
    · rfl
    · rfl
    · exact he
    · rfl
  · intro v' w' h1 h2 h3
    refine h v' w' ?_ h2
    show World.ownsRow _ _ _ _ _ _ _
    rw [List.length_append, flatT_append]; exact h1
/-- A row of zeros is made. -/
theorem run_mk26 (n : Nat) (hn : n ≤ 100000) (w : World) : (Instr.makeSlice 26 (.int .i64 (n : Int)) (.int .i64 (n : Int))).run Try.prog w = .ok (SLN w.heap.size n) (w.alloc (.cells (ic (List.replicate n 0)).toArray 3)) := by
  obtain ⟨i0, hi, hz0, hz1, hz2⟩ := info_parts info3
  rw [run_make w 26 3 i0 _ Try.underlying26 hi hz0 .i64 .i64 (n : Int) (n : Int) (by omega) (Int.le_refl _) (by rw [hz2]; omega) (by omega)]
  rw [hz1, Int.toNat_natCast]
  have : madeCells (Value.int .i64 0).cells (n * 1) = (ic (List.replicate n 0)).toArray := by
    rw [show (Value.int .i64 0).cells = #[.int .i64 0] from rfl, made_one]; simp [ic]
  rw [this]
end Go.Proofs.Ytnofmpbdfcolfaa
