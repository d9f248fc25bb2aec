/- What every statement of this seat starts from: the listed tables as the program's own text lays them. -/
import Derived.Test.YtdpdpgnpkmfooaaGreatDoorRows
import Derived.Test.YtdpdpgnpkmfooaaGreatDoorA1
import Derived.ProofKit
import Derived.LaidMore
import Derived.OpenShut
import Derived.Stop.Joined
import Derived.Lib.LaidTab
import Derived.Stop.LaidErr
namespace Go.Proofs.YtdpdpgnpkmfooaaGreatDoor
open Go.ChangeShapes Go.WideShapes Go.ChangeAt Go.WideMaps Go.WideElems Go.RowKit

theorem own : ownKnob Tryz.prog.godebug = none := by kernel_rfl

/-- The row's list. -/
abbrev laid5 : List (String × DataW Unit) := Rows.numRestsRow.laid

theorem door_met (os : Os) (args : Array Value) : laidMetH Tryz.prog laid5 ((World.doorLaid Tryz.prog 62 os).forCall (fun _ _ => 0) ⟨#[], args, []⟩).memory :=
  laidMetH_of_parts3 (fuel := 8) (laidMet_of_run' 8 (by kernel_rfl) (by kernel_rfl)) (by kernel_rfl) (by kernel_rfl)

theorem g64 : Tryz.prog.globalNamed (laid5[1]'(by decide)).1 = some 6 := by kernel_rfl
theorem t64 : (Tryz.prog.globals[6]?).map (·.type) = some 151 := by kernel_rfl

/-- What the list gives the walks: the table's cell. -/
theorem tab_of_laid {W : World} (h : laidMetH Tryz.prog laid5 W) : TabIs4 W := by
  rw [MakeChecks.laidMetH_plain _ _ _ (by kernel_rfl)] at h
  have h2 := laidMet.tail h
  have hT := Lib.tabIs_of_head (zs := [0, 1, 56, 2, 57, 49, 28, 3, 61, 58, 42, 50, 38, 29, 17, 4, 62, 47, 59, 36, 45, 43, 51, 22, 53, 39, 33, 30, 24, 18, 12, 5, 63, 55, 48, 27, 60, 41, 37, 16, 46, 35, 44, 21, 52, 32, 23, 11, 54, 26, 40, 15, 34, 20, 31, 10, 25, 14, 19, 9, 13, 8, 7, 6]) g64 t64 Tryz.underlying151 Tryz.underlying5 (by kernel_rfl) (by kernel_rfl) h2
  exact hT.cell g64 15 (by decide)
end Go.Proofs.YtdpdpgnpkmfooaaGreatDoor
