/- A point line, as the document reads it: all. -/
import Derived.Test.YtbhmgmbgplkkeaaDoorP6c
import Derived.Test.YtbhmgmbgplkkeaaDoorP6d
import Derived.Test.YtbhmgmbgplkkeaaDoorP6e
import Derived.Test.YtbhmgmbgplkkeaaDoorP6f
import Derived.Test.YtbhmgmbgplkkeaaDoorP6g
namespace Go.Proofs.YtbhmgmbgplkkeaaDoor
open Go.RowKit
set_option linter.unusedSimpArgs false
set_option linter.unusedVariables false

theorem RLine_any (s : ByteArray) (hs : s.size ≤ 100000) (w : World) : Calls Tryd.prog 25 #[.string s] w fun e w' => (∃ v, e = .returned v ∧ LinePost (bl s) v ∧ Kept No w w') := by
  cases h : cutO [32] (bl s) with
  | none => exact RLine_none s hs w (bl s) rfl h
  | some p =>
    have h' : cutO [32] (bl s) = some (p.1, bl (mk p.2)) := by rw [bl_mk]; exact h
    by_cases h0 : p.1 = [110, 111, 110, 101]
    · exact RLine_some_0 s hs w p.1 (mk p.2) h' h0
    by_cases h1 : p.1 = [115, 116, 101, 112]
    · exact RLine_some_1 s hs w p.1 (mk p.2) h' h1
    by_cases h2 : p.1 = [121, 111, 117, 110, 103]
    · exact RLine_some_2 s hs w p.1 (mk p.2) h' h2
    by_cases h3 : p.1 = [109, 97, 106, 111, 114]
    · exact RLine_some_3 s hs w p.1 (mk p.2) h' h3
    by_cases h4 : p.1 = [109, 111, 100, 101]
    · exact RLine_some_4 s hs w p.1 (mk p.2) h' h4
    by_cases h5 : p.1 = [99, 111, 109, 112, 97, 99, 116]
    · exact RLine_some_5 s hs w p.1 (mk p.2) h' h5
    exact RLine_some_no s hs w p.1 (mk p.2) h' ⟨h0, h1, h2, h3, h4, h5⟩
end Go.Proofs.YtbhmgmbgplkkeaaDoor
