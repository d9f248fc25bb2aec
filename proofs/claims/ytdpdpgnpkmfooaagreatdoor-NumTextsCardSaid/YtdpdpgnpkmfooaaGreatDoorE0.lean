/- The error that tells a range, as the program's own text lays it. -/
import Derived.Test.YtdpdpgnpkmfooaaGreatDoorC0
namespace Go.Proofs.YtdpdpgnpkmfooaaGreatDoor
open Go.ChangeShapes Go.WideShapes Go.ChangeAt Go.WideMaps Go.WideElems Go.RowKit

theorem gE : Tryz.prog.globalNamed (laid5[3]'(by decide)).1 = some 4 := by kernel_rfl
theorem tE : (Tryz.prog.globals[4]?).map (·.type) = some 92 := by kernel_rfl
theorem starE : "*errors.errorString" = "*" ++ "errors.errorString" := by decide
theorem rowE (u : TypeId) (h : Tryz.prog.typeName? 3 u = some "*errors.errorString") : u = 147 :=
  typeName_ptr_named (nm := "errors.errorString") (by rw [← starE]; kernel_rfl) (by kernel_rfl) (by decide) u (by rw [← starE]; exact h)

/-- What the list gives the walks: the error's variable holds an error. -/
def ErrIs (W : World) : Prop := ∃ a : Addr, W.cell? ⟨4, 0, none⟩ = some (.iface 147 (.pointer (some a)))
theorem err_of_laid {W : World} (h : laidMetH Tryz.prog laid5 W) : ErrIs W := by
  rw [MakeChecks.laidMetH_plain _ _ _ (by kernel_rfl)] at h
  have h2 := laidMet.tail (laidMet.tail (laidMet.tail h))
  obtain ⟨a, s, hv, _, _, _⟩ := laid_sentinel h2 gE tE Tryz.underlying92 rowE Tryz.underlying147 Tryz.underlying149 rfl rfl Tryz.underlying9 (by kernel_rfl) (by kernel_rfl)
  exact ⟨a, by simpa using World.var?_cell gE hv 0⟩
end Go.Proofs.YtdpdpgnpkmfooaaGreatDoor
