/- Rows of values. -/
import Derived.Test.YthefmfjlinpepaaRE
namespace Go.Proofs.Ythefmfjlinpepaa
open Go.RowKit Go.Shelf
set_option linter.unusedSimpArgs false
set_option linter.unusedVariables false

/-- Values as numbers. -/
def flatV (L : List (Int × Int)) : List Int := L.flatMap fun e => [e.1, e.2]
theorem flatV_len (L : List (Int × Int)) : (flatV L).length = L.length * 2 := by
  induction L with
  | nil => rfl
  | cons p ps ih => simp only [flatV, List.flatMap_cons, List.length_append, List.length_cons] at ih ⊢; simp at ih ⊢; omega
theorem flatV_append (a b : List (Int × Int)) : flatV (a ++ b) = flatV a ++ flatV b := by simp [flatV]
theorem flatV_get : ∀ (L : List (Int × Int)) (j : Nat) (e : Int × Int), L[j]? = some e → (ic (flatV L))[j * 2]? = some (.int .i64 e.1) ∧ (ic (flatV L))[j * 2 + 1]? = some (.int .i64 e.2)
  | [], _, _, h => by simp at h
  | p :: L, 0, e, h => by
    simp at h; subst h
    simp [flatV, ic]
  | p :: L, j + 1, e, h => by
    have ih := flatV_get L j e (by simpa using h)
    have e1 : ic (flatV (p :: L)) = Value.int .i64 p.1 :: Value.int .i64 p.2 :: ic (flatV L) := rfl
    rw [e1, show (j + 1) * 2 = j * 2 + 1 + 1 by omega]
    simpa using ih
theorem info33 : (Try.prog.info? 33).map (fun i => (i.zero, i.size, i.bytes)) = some (some (.agg #[.int .i64 0, .int .i64 0]), 2, 16) := by kernel_rfl

/-- A row of values that a call has made. -/
def VRow (w : World) (base : Nat) (v : Value) (L : List (Int × Int)) : Prop := w.ownsRow base 33 2 v L.length (ic (flatV L))
theorem VRow.nil (w : World) (base : Nat) : VRow w base (.slice none 0 0) [] := World.ownsRow_nil w base 33 2
theorem VRow.turn {w w' : World} {base : Nat} {v : Value} {L : List (Int × Int)} (h : VRow w base v L) (hk : ∀ k, v.ownBlock = some k → w'.heap[k]? = w.heap[k]?) : VRow w' base v L := by
  refine ⟨h.1, h.2.imp id ?_⟩
  rintro ⟨g, cap, cur, e1, e2, e3, r⟩
  refine ⟨g, cap, cur, e1, e2, ?_, r⟩
  rw [hk g (by rw [e1]; rfl)]; exact e3
theorem VRow.no {w w' : World} {base : Nat} {v : Value} {L : List (Int × Int)} (h : VRow w base v L) (hk : Kept No w w') : VRow w' base v L := h.turn (fun k hk' => hk.block k (World.ownsRow.lt h k hk').2 id)
theorem VRow.form {w : World} {base : Nat} {v : Value} {L : List (Int × Int)} (h : VRow w base v L) : ∃ ao c, v = .slice ao L.length c := by
  rcases h.2 with ⟨rfl, h0⟩ | ⟨g, cap, cur, rfl, _⟩
  · exact ⟨_, _, by rw [h0]⟩
  · exact ⟨_, _, rfl⟩
theorem VRow.block {w : World} {base : Nat} {v : Value} {L : List (Int × Int)} (h : VRow w base v L) {k : Nat} (hk : v.ownBlock = some k) : base ≤ k ∧ ∃ c, w.heap[k]? = some (.cells c 33 (0, 0)) := by
  rcases h.2 with ⟨rfl, h0⟩ | ⟨g, cap, cur, rfl, hb, hg, _⟩
  · cases hk
  · simp only [Value.ownBlock, Option.some.injEq] at hk
    subst hk
    exact ⟨hb, cur, hg⟩
theorem VRow.at {w : World} {base : Nat} {v : Value} {L : List (Int × Int)} (h : VRow w base v L) {j : Nat} {e : Int × Int} (he : L[j]? = some e) : ∃ b c, v = .slice (some ⟨b, 0, none⟩) L.length c ∧ w.cell? ⟨b, j * 2, none⟩ = some (.int .i64 e.1) ∧ w.cell? ⟨b, j * 2 + 1, none⟩ = some (.int .i64 e.2) := by
  have hj : j < L.length := (List.getElem?_eq_some_iff.1 he).1
  rcases h.2 with ⟨rfl, h0⟩ | ⟨g, cap, cur, rfl, _⟩
  · omega
  · obtain ⟨g0, g1⟩ := flatV_get L j e he
    exact ⟨g, cap, rfl, (World.ownsRow.cellAt h _ (by omega)).trans g0, (World.ownsRow.cellAt h _ (by omega)).trans g1⟩

/-- A value is appended. -/
theorem app_val {ops : Array Oper} {rest : List Oper} {o : Oper} {a : Act} {Q : Exit → Act → World → Prop} {w : World} (hgd : o.guard = none) (s x : Operand)
    (ho : o.op = .call { callee := .builtin .append, args := #[s, x], argTypes := #[26, 26] }) (base : Nat) (v : Value) (L : List (Int × Int)) (hs : a.eval s = v) (hrow : VRow w base v L)
    (N : Nat) (e : Int × Int) (hx : a.eval x = .slice (some ⟨N, 0, none⟩) 1 1) (hN : w.heap[N]? = some (.cells #[.int .i64 e.1, .int .i64 e.2] 33 (0, 0))) (hlen : L.length + 1 ≤ 1000000) (hbase : base ≤ w.heap.size)
    (h : ∀ v' w', Hid (VRow w' base v' (L ++ [e])) → Hid (w.grownBy w' v.ownBlock) → wpList Try.prog ops Q rest (a.put o.dst v') w') : wpList Try.prog ops Q (o :: rest) a w := by
  obtain ⟨i0, hi, hz0, hz1, hz2⟩ := info_parts info33
  refine wpList_append_own _ hgd s x 26 ho base 33 i0 _ 2 16 Try.underlying26 hi hz0 hz1 hz2 rfl (by decide) v L.length (ic (flatV L)) hs hrow ⟨N, 0, none⟩ 1 1 (ic (flatV [e])) hx rfl ?_ (ic_one _)
      (by unfold maxLen; omega) (by omega) hbase ?_
  · intro j u hu
    have hc := cell_of hN
    rcases j with _ | _ | j
    · simp [ic, flatV] at hu; subst hu; simpa [Addr.add] using hc 0
    · simp [ic, flatV] at hu; subst hu; simpa [Addr.add] using hc 1
    · simp [ic, flatV] at hu
  · intro v' w' h1 h2 h3
    refine h v' w' ?_ h2
    show World.ownsRow _ _ _ _ _ _ _
    rw [List.length_append, flatV_append, ic_append]; exact h1
/-- What an append leaves of a table. -/
theorem Re.grown {w W W' : World} {P : Nat} {most : Int} {a n : Nat} {sl : Sl} {b : Nat} (h : Re w W P most a n sl b) {v : Value} {L : List (Int × Int)} {base : Nat} (hr : VRow W base v L) (hb : w.heap.size ≤ base) {o : Obj} (hg : (W.alloc o).grownBy W' v.ownBlock) : Re w W' P most a n sl b ∧ Kept (fun k => v.ownBlock = some k) W W' := by
  have hk : Kept (fun k => v.ownBlock = some k) W W' := ((Kept.refl _ _).alloc o).grown hg (fun k hk => .inl hk)
  obtain ⟨nn, hnn, ht⟩ := h.tb
  have hn : ∀ k, v.ownBlock = some k → ¬ FP W P k := fun k hk hq => by
    obtain ⟨_, c, hc⟩ := hr.block hk
    rcases ht.kinds k hq with ⟨c', e', f', h1, h2⟩ | ⟨es, c', h1⟩
    · rw [hc] at h1; cases h1; cases h2
    · rw [hc] at h1; cases h1
  refine ⟨⟨⟨nn, hnn, ht.kept hk (fun k hq e => hn k e hq)⟩, fun k hq => h.fp k ?_, h.kp.trans' hk (fun i e => .inr (by have := (hr.block e).1; omega)), h.is⟩, hk⟩
  rcases hq with rfl | ⟨m', a2, n2, e⟩
  · exact .inl rfl
  · rw [hk.block P ht.lt (fun e => hn P e (.inl rfl))] at e
    exact .inr ⟨_, _, _, e⟩
end Go.Proofs.Ythefmfjlinpepaa
