/-
  DERIVED. GIVEN WITH THE SEED: THE CARDS: each row of YtbhmgmbgplkkeaaDoorRows.lean that lists a variable, with what it lists TIED to the program's text (the seventh form; the later family's looks); each row that meets fmt, with fmt's text TOLD by the authors' own Lean function (tested against real Go, not proved from fmt's source: count such statements apart). THE CARD IS WHAT COUNTS. Prove the row's statement (the work); the ties are given (YtbhmgmbgplkkeaaDoorTie.lean); close each card by the builder's one call (the guide's Derived/Test/ToyasCard.lean, 'card_holds'). Laid BY PROGRAM, IN A SANDBOX (cutbox-door.mjs). By AI agents, Wed Nov 11 2026. No macro, syntax, notation, axiom, sorry.
-/
import Derived.Test.YtbhmgmbgplkkeaaDoorRows
import GoSem.ClaimSeven
namespace Go.Proofs.YtbhmgmbgplkkeaaDoor
namespace Rows

/-- THE TIED CARD OF 'heirloomlaw16.ScriptParses'. -/
def scriptParsesCard : Claim7 := { stood := { row := scriptParsesRow, standIns := [], harness := (true, "06e87c9cfc0500842169a97a78f239ff2e07fb282d1a4b9f38c96857edda4a82"), looks := false }, kinds := [], alts := [], laidByText := true, laidKinds := [.data], laidTests := true, laidLooks := .later }
def ScriptParsesCardSaid : Prop := Claim7.holds Tryd.pinned (.plain (OpenSpec.ofChange scriptParsesSpec)) scriptParsesCard

/-- THE TIED CARD OF 'heirloomlaw16.ScriptPrints'. -/
def scriptPrintsCard : Claim7 := { stood := { row := scriptPrintsRow, standIns := [], harness := (true, "06e87c9cfc0500842169a97a78f239ff2e07fb282d1a4b9f38c96857edda4a82"), looks := false }, kinds := [], alts := [], laidByText := true, laidKinds := [.data, .data, .data, .data], laidTests := true, laidLooks := .later }
def ScriptPrintsCardSaid : Prop := Claim7.holds Tryd.pinned (.plain (OpenSpec.ofChange scriptPrintsSpec)) scriptPrintsCard

/-- THE TIED CARD OF 'heirloomlaw16.ScriptShrinks'. -/
def scriptShrinksCard : Claim7 := { stood := { row := scriptShrinksRow, standIns := [], harness := (true, "06e87c9cfc0500842169a97a78f239ff2e07fb282d1a4b9f38c96857edda4a82"), looks := false }, kinds := [], alts := [], laidByText := true, laidKinds := [.data], laidTests := true, laidLooks := .later }
def ScriptShrinksCardSaid : Prop := Claim7.holds Tryd.pinned (.plain (OpenSpec.ofChange scriptShrinksSpec)) scriptShrinksCard

/-- THE TIED CARD OF 'heirloomlaw16.ScriptBack'. -/
def scriptBackCard : Claim7 := { stood := { row := scriptBackRow, standIns := [], harness := (true, "06e87c9cfc0500842169a97a78f239ff2e07fb282d1a4b9f38c96857edda4a82"), looks := false }, kinds := [], alts := [], laidByText := true, laidKinds := [.data, .data, .data, .data], laidTests := true, laidLooks := .later }
def ScriptBackCardSaid : Prop := Claim7.holds Tryd.pinned (.plain (OpenSpec.ofChange scriptBackSpec)) scriptBackCard

/-- THE TIED CARD OF 'heirloomlaw16.ScriptCuts'. -/
def scriptCutsCard : Claim7 := { stood := { row := scriptCutsRow, standIns := [], harness := (true, "06e87c9cfc0500842169a97a78f239ff2e07fb282d1a4b9f38c96857edda4a82"), looks := false }, kinds := [], alts := [], laidByText := true, laidKinds := [.data, .data, .data, .data], laidTests := true, laidLooks := .later }
def ScriptCutsCardSaid : Prop := Claim7.holds Tryd.pinned (.plain (OpenSpec.ofChange scriptCutsSpec)) scriptCutsCard

/-- THE TIED CARD OF 'heirloomlaw16.ScriptRepeats'. -/
def scriptRepeatsCard : Claim7 := { stood := { row := scriptRepeatsRow, standIns := [], harness := (true, "06e87c9cfc0500842169a97a78f239ff2e07fb282d1a4b9f38c96857edda4a82"), looks := false }, kinds := [], alts := [], laidByText := true, laidKinds := [.data, .data, .data, .data], laidTests := true, laidLooks := .later }
def ScriptRepeatsCardSaid : Prop := Claim7.holds Tryd.pinned (.plain (OpenSpec.ofChange scriptRepeatsSpec)) scriptRepeatsCard

/-- THE SECOND FORM's CARD OF 'heirloomlaw16.ScriptParses'. -/
def scriptParsesUptoCard : Claim7 := { stood := { row := scriptParsesUptoRow, standIns := [], harness := (true, "06e87c9cfc0500842169a97a78f239ff2e07fb282d1a4b9f38c96857edda4a82"), looks := false }, kinds := [], alts := [], laidByText := true, laidKinds := [.data], laidTests := true, laidLooks := .later }
def ScriptParsesUptoCardSaid : Prop := Claim7.holds Tryd.pinned (.plain (OpenSpec.upto scriptParsesSpec)) scriptParsesUptoCard

/-- THE SECOND FORM's CARD OF 'heirloomlaw16.ScriptPrints'. -/
def scriptPrintsUptoCard : Claim7 := { stood := { row := scriptPrintsUptoRow, standIns := [], harness := (true, "06e87c9cfc0500842169a97a78f239ff2e07fb282d1a4b9f38c96857edda4a82"), looks := false }, kinds := [], alts := [], laidByText := true, laidKinds := [.data, .data, .data, .data], laidTests := true, laidLooks := .later }
def ScriptPrintsUptoCardSaid : Prop := Claim7.holds Tryd.pinned (.plain (OpenSpec.upto scriptPrintsSpec)) scriptPrintsUptoCard

/-- THE SECOND FORM's CARD OF 'heirloomlaw16.ScriptShrinks'. -/
def scriptShrinksUptoCard : Claim7 := { stood := { row := scriptShrinksUptoRow, standIns := [], harness := (true, "06e87c9cfc0500842169a97a78f239ff2e07fb282d1a4b9f38c96857edda4a82"), looks := false }, kinds := [], alts := [], laidByText := true, laidKinds := [.data], laidTests := true, laidLooks := .later }
def ScriptShrinksUptoCardSaid : Prop := Claim7.holds Tryd.pinned (.plain (OpenSpec.upto scriptShrinksSpec)) scriptShrinksUptoCard

/-- THE SECOND FORM's CARD OF 'heirloomlaw16.ScriptBack'. -/
def scriptBackUptoCard : Claim7 := { stood := { row := scriptBackUptoRow, standIns := [], harness := (true, "06e87c9cfc0500842169a97a78f239ff2e07fb282d1a4b9f38c96857edda4a82"), looks := false }, kinds := [], alts := [], laidByText := true, laidKinds := [.data, .data, .data, .data], laidTests := true, laidLooks := .later }
def ScriptBackUptoCardSaid : Prop := Claim7.holds Tryd.pinned (.plain (OpenSpec.upto scriptBackSpec)) scriptBackUptoCard

/-- THE SECOND FORM's CARD OF 'heirloomlaw16.ScriptCuts'. -/
def scriptCutsUptoCard : Claim7 := { stood := { row := scriptCutsUptoRow, standIns := [], harness := (true, "06e87c9cfc0500842169a97a78f239ff2e07fb282d1a4b9f38c96857edda4a82"), looks := false }, kinds := [], alts := [], laidByText := true, laidKinds := [.data, .data, .data, .data], laidTests := true, laidLooks := .later }
def ScriptCutsUptoCardSaid : Prop := Claim7.holds Tryd.pinned (.plain (OpenSpec.upto scriptCutsSpec)) scriptCutsUptoCard

/-- THE SECOND FORM's CARD OF 'heirloomlaw16.ScriptRepeats'. -/
def scriptRepeatsUptoCard : Claim7 := { stood := { row := scriptRepeatsUptoRow, standIns := [], harness := (true, "06e87c9cfc0500842169a97a78f239ff2e07fb282d1a4b9f38c96857edda4a82"), looks := false }, kinds := [], alts := [], laidByText := true, laidKinds := [.data, .data, .data, .data], laidTests := true, laidLooks := .later }
def ScriptRepeatsUptoCardSaid : Prop := Claim7.holds Tryd.pinned (.plain (OpenSpec.upto scriptRepeatsSpec)) scriptRepeatsUptoCard
end Rows
end Go.Proofs.YtbhmgmbgplkkeaaDoor
