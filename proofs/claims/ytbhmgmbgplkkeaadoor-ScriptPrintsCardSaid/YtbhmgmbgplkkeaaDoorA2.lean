/- A list of points is appended whole. -/
import Derived.Test.YtbhmgmbgplkkeaaDoorA1
import Derived.Laws.AppendOwnNone
namespace Go.Proofs.YtbhmgmbgplkkeaaDoor
open Go.RowKit
set_option linter.unusedSimpArgs false
set_option linter.unusedVariables false

theorem VRow.empty (w : World) (base : Nat) (hb : base ≤ w.heap.size) : VRow (w.alloc (.cells #[] 45)) base (.slice (some ⟨w.heap.size, 0, none⟩) 0 0) [] :=
  ⟨rfl, .inr ⟨w.heap.size, 0, #[], rfl, hb, World.alloc_heap_new w _, Nat.le_refl _, by unfold maxLen; omega, rfl, rfl⟩⟩
theorem ic_at (M : List V) (j : Nat) (u : Value) (h : (ic (flatV M))[j]? = some u) : ∃ k : Nat, k < M.length ∧ ((j = k * 2 ∧ ∃ hk : k < M.length, u = .int .i64 M[k].1) ∨ (j = k * 2 + 1 ∧ ∃ hk : k < M.length, u = .int .i64 M[k].2)) := by
  have hlt : j < (ic (flatV M)).length := (List.getElem?_eq_some_iff.1 h).1
  rw [ic_len, flatV_len] at hlt
  have hk : j / 2 < M.length := by omega
  have hg := flatV_get M (j / 2) hk
  refine ⟨j / 2, hk, ?_⟩
  rcases Nat.mod_two_eq_zero_or_one j with e | e
  · left
    have ej : j = j / 2 * 2 := by omega
    refine ⟨ej, hk, ?_⟩
    rw [← ej, h] at hg
    injection hg.1
  · right
    have ej : j = j / 2 * 2 + 1 := by omega
    refine ⟨ej, hk, ?_⟩
    rw [← ej, h] at hg
    injection hg.2
set_option maxRecDepth 20000 in
/-- Points are appended. -/
theorem app_all {ops : Array Oper} {rest : List Oper} {o : Oper} {a : Act} {Q : Exit → Act → World → Prop} {w : World} (hgd : o.guard = none) (s x : Operand)
    (ho : o.op = .call { callee := .builtin .append, args := #[s, x], argTypes := #[23, 23] }) (base : Nat) (v xv : Value) (L M : List V) (hs : a.eval s = v) (hrow : VRow w base v L)
    (hx : a.eval x = xv) (hM : RdV w xv M) (hnil : xv = .slice none 0 0 ∨ ∃ ad n c, xv = .slice (some ad) n c) (hlen : L.length + M.length ≤ 1000000) (hbase : base ≤ w.heap.size)
    (h : ∀ v' w', Hid (VRow w' base v' (L ++ M)) → Hid (w' = w ∧ v' = v ∨ w.grownBy w' v.ownBlock) → wpList Tryd.prog ops Q rest (a.put o.dst v') w') : wpList Tryd.prog ops Q (o :: rest) a w := by
  obtain ⟨i0, hi, hz0, hz1, hz2⟩ := info_parts info45
  obtain ⟨ao, cap, e, hc, hR⟩ := hM
  rcases hnil with e2 | ⟨ad, n, c, e2⟩
  · rw [e] at e2
    injection e2 with e3 e4 e5
    have hM0 : M = [] := List.length_eq_zero_iff.1 e4
    subst hM0
    refine wpList_append_own_none hgd s x 23 ho base 45 i0 2 Tryd.underlying23 hi v L.length (ic (flatV L)) hs hrow (by rw [hx, e, e3, e5]; rfl) (h v w ?_ (.inl ⟨rfl, rfl⟩))
    rw [List.append_nil]; exact hrow
  · rw [e] at e2
    injection e2 with e3 e4 e5
    subst e3
    refine wpList_append_own _ hgd s x 23 ho base 45 i0 _ 2 16 Tryd.underlying23 hi hz0 hz1 hz2 rfl (by decide) v L.length (ic (flatV L)) hs hrow ad M.length cap (ic (flatV M)) (by rw [hx, e]) (by rw [ic_len, flatV_len]) ?_ (ic_one _)
      (by unfold maxLen; omega) (by omega) hbase ?_
    · intro j u hu
      obtain ⟨k, hk, hh⟩ := ic_at M j u hu
      obtain ⟨b, off, e6, c0, c1⟩ := hR k hk
      injection e6 with e6
      subst e6
      have ha : ∀ q, (⟨b, off, none⟩ : Addr).add q = ⟨b, off + q, none⟩ := fun q => by simp [Addr.add]
      rcases hh with ⟨e7, _, e8⟩ | ⟨e7, _, e8⟩
      · rw [e8, e7, ha]; exact c0
      · rw [e8, e7, ha]; exact c1
    · intro v' w' h1 h2 h3
      refine h v' w' ?_ (.inr h2)
      show World.ownsRow _ _ _ _ _ _ _
      rw [List.length_append, flatV_append, ic_append]; exact h1
end Go.Proofs.YtbhmgmbgplkkeaaDoor
