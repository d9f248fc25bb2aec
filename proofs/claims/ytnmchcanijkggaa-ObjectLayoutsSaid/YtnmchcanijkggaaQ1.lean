/- Cells are appended to a row, at a step of a region that draws its order. -/
import Derived.Test.YtnmchcanijkggaaN1
namespace Go.Proofs.Ytnmchcanijkggaa
open Go.RowKit Go.Lib
set_option linter.unusedVariables false

theorem step_app {ops : Array Oper} {o : Oper} {a : Act} {w : World} {K : Act → World → Prop} {Q : Exit → Act → World → Prop} {E : Prop} (hgd : o.guard = none) (s x : Operand)
    (ho : o.op = .call { callee := .builtin .append, args := #[s, x], argTypes := #[40, 40] }) (base : Nat) (v : Value) (xs : List Int) (hs : a.eval s = v) (hrow : Row w base v xs)
    (N : Nat) (t n : Int) (hx : a.eval x = .slice (some ⟨N, 0, none⟩) 2 2) (hu : SliceIs w (.slice (some ⟨N, 0, none⟩) 2 2) [t, n]) (hlen : xs.length + 2 ≤ 1000000) (hbase : base ≤ w.heap.size)
    (h : ∀ v' w', Hid (Row w' base v' (xs ++ [t, n])) → Hid (Below base w w') → K (a.put o.dst v') w') :
    if Region.wanted o (yielded ops a.tmps) = true then Oper.wp Try.prog o a w K Q else E := by
  have hw : Region.wanted o (yielded ops a.tmps) = true := by simp [Region.wanted, hgd]
  rw [if_pos hw]
  obtain ⟨i0, hi, hz0, hz1, hz2⟩ := info_parts info2
  rcases hu with ⟨ao, _, e⟩ | ⟨b, off, cap, e, hc⟩
  · cases e
  · injection e with e1 e2 e3
    injection e1 with e4
    injection e4 with e5 e6
    subst e5; subst e6
    refine wp_append_own w s x 40 ho base 2 i0 (.int .i64 0) 1 8 Try.underlying40 hi hz0 hz1 hz2 rfl (by decide) v xs.length (ic xs) hs hrow ⟨N, 0, none⟩ 2 2 (ic [t, n]) hx rfl (ic_news hc) (ic_one _)
      (by unfold maxLen; omega) (by omega) hbase ?_
    intro v' w' h1 h2 h3
    refine h v' w' ?_ ((Below.refl _ _).grown h2 hbase (fun k hk => (World.ownsRow.lt hrow k hk).1))
    show World.ownsRow _ _ _ _ _ _ _
    rw [List.length_append, ic_append]; exact h1
end Go.Proofs.Ytnmchcanijkggaa
