/- The table of powers of ten, as the program's own text lays it. -/
import Derived.Test.YtdpdpgnpkmfooaaGreatDoorC0
import Derived.Test.YtdpdpgnpkmfooaaGreatDoorB3
namespace Go.Proofs.YtdpdpgnpkmfooaaGreatDoor
open Go.ChangeShapes Go.WideShapes Go.ChangeAt Go.WideMaps Go.WideElems Go.RowKit

theorem ten_eq : Lib.pow10Tab = [1, 10, 100, 1000, 10000, 100000, 1000000, 10000000, 100000000, 1000000000, 10000000000, 100000000000, 1000000000000, 10000000000000, 100000000000000, 1000000000000000, 10000000000000000, 100000000000000000, 1000000000000000000, 10000000000000000000] := by decide +kernel
theorem t10 : (Tryz.prog.globals[2]?).map (·.type) = some 134 := by kernel_rfl

/-- What the list gives the walks: the powers of ten. -/
theorem tab10_of_laid {W : World} (h : laidMetH Tryz.prog laid5 W) : Tab10 W := by
  rw [MakeChecks.laidMetH_plain _ _ _ (by kernel_rfl)] at h
  have h2 := laidMet.tail (laidMet.tail h)
  unfold Tab10
  rw [ten_eq]
  exact Lib.tabIs_of_head (zs := [1, 10, 100, 1000, 10000, 100000, 1000000, 10000000, 100000000, 1000000000, 10000000000, 100000000000, 1000000000000, 10000000000000, 100000000000000, 1000000000000000, 10000000000000000, 100000000000000000, 1000000000000000000, 10000000000000000000]) g10 t10 Tryz.underlying134 Tryz.underlying56 (by kernel_rfl) (by kernel_rfl) h2
end Go.Proofs.YtdpdpgnpkmfooaaGreatDoor
