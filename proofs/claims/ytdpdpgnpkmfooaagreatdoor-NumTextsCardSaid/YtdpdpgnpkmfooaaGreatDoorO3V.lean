/- A value of the language as an argument of a law: opened and shut. -/
import Derived.Test.YtdpdpgnpkmfooaaGreatDoorC0
import Derived.Lib.SmallJoins
namespace Go.Proofs.YtdpdpgnpkmfooaaGreatDoor
open Go.ChangeShapes Go.WideShapes Go.ChangeAt Go.WideMaps Go.WideElems Go.RowKit
set_option maxRecDepth 100000

theorem i64_bd {a : Int} (h : (Lit.int .i64 a).wf = true) : -9223372036854775808 ≤ a ∧ a ≤ 9223372036854775807 := by
  simp only [Lit.wf, IntKind.min, IntKind.max, IntKind.signed, IntKind.bits, Bool.and_eq_true, decide_eq_true_eq, if_true] at h
  omega

theorem cells23 : Tryz.prog.cellsOf 23 = 2 := by kernel_rfl

/-- A value of the language, opened. -/
theorem open_val {H : Type} {enc : TypeId × Value → H} {W : World} {base b0 : Nat} {spare : Nat → Bool} {held : Bool} {r : Reach} {v : Value} {d : DataW H} {ps : List MemPlace}
    (hval : Value.okWide Tryz.prog W r b0 23 v) (hd : DataW.Trod enc Tryz.prog W base spare held 23 v d ps) :
    ∃ t n : Int, v = AV t n ∧ d = .agg [.lit (.int .i64 t), .lit (.int .i64 n)] ∧ ps = [] ∧ (Lit.int .i64 t).wf = true ∧ (Lit.int .i64 n).wf = true := by
  obtain ⟨c0, c1, y0, y1, m, rfl, rfl, rfl, hy0, hy1⟩ := Go.Joins.open_agg2 Tryz.underlying23 (by kernel_rfl) cells23 hval hd
  obtain ⟨t, e0, rfl, w0⟩ := DataW.trod_int Tryz.underlying3 hy0
  obtain ⟨n, e1, rfl, w1⟩ := DataW.trod_int Tryz.underlying2 hy1
  simp at e0 e1
  subst e0 e1
  exact ⟨t, n, rfl, rfl, rfl, w0, w1⟩

/-- A value of the language, shut. -/
theorem shut_val {H : Type} {enc : TypeId × Value → H} {W : World} {base : Nat} {spare : Nat → Bool} {held : Bool} {t n : Int} (w0 : (Lit.int .i64 t).wf = true) (w1 : (Lit.int .i64 n).wf = true) :
    DataW.Trod enc Tryz.prog W base spare held 23 (AV t n) (.agg [.lit (.int .i64 t), .lit (.int .i64 n)]) [] :=
  Go.Joins.shut_agg2 (y0 := (.lit (.int .i64 t), [])) (y1 := (.lit (.int .i64 n), [])) Tryz.underlying23 (by kernel_rfl) cells23 ⟨1, by simp [DataW.trod, Tryz.underlying3, w0]⟩ ⟨1, by simp [DataW.trod, Tryz.underlying2, w1]⟩
end Go.Proofs.YtdpdpgnpkmfooaaGreatDoor
