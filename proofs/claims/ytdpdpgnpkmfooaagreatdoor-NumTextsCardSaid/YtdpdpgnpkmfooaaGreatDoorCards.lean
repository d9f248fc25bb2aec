/-
  DERIVED. GIVEN WITH THE SEED: THE CARDS: each row of YtdpdpgnpkmfooaaGreatDoorRows.lean that lists a variable, with what it lists TIED to the program's text (the seventh form; the later family's looks); each row that meets fmt, with fmt's text TOLD by the authors' own Lean function (tested against real Go, not proved from fmt's source: count such statements apart). THE CARD IS WHAT COUNTS. Prove the row's statement (the work); the ties are given (YtdpdpgnpkmfooaaGreatDoorTie.lean); close each card by the builder's one call (the guide's Derived/Test/ToyasCard.lean, 'card_holds'). Laid BY PROGRAM, IN A SANDBOX (cutbox-door.mjs). By AI agents, Wed Nov 11 2026. No macro, syntax, notation, axiom, sorry.
-/
import Derived.Test.YtdpdpgnpkmfooaaGreatDoorRows
import GoSem.ClaimSeven
namespace Go.Proofs.YtdpdpgnpkmfooaaGreatDoor
namespace Rows

/-- THE TIED CARD OF 'heirloomlaw01.NumMakes'. -/
def numMakesCard : Claim7 := { stood := { row := numMakesRow, standIns := [], harness := (true, "a9d6f6fda2558bdff235adc92ad21edefd7fcac9f7c3e03df32546253983d085"), looks := true }, kinds := [], alts := [], laidByText := true, laidKinds := [.data, .data, .data, .sentinel, .sentinel], laidTests := true, laidLooks := .later }
def NumMakesCardSaid : Prop := Claim7.holds Tryz.pinned (.plain (OpenSpec.ofChange numMakesSpec)) numMakesCard

/-- THE TIED CARD OF 'heirloomlaw01.NumOps'. -/
def numOpsCard : Claim7 := { stood := { row := numOpsRow, standIns := [], harness := (true, "a9d6f6fda2558bdff235adc92ad21edefd7fcac9f7c3e03df32546253983d085"), looks := true }, kinds := [], alts := [], laidByText := true, laidKinds := [.data, .data, .data, .sentinel, .sentinel], laidTests := true, laidLooks := .later }
def NumOpsCardSaid : Prop := Claim7.holds Tryz.pinned (.plain (OpenSpec.ofChange numOpsSpec)) numOpsCard

/-- THE TIED CARD OF 'heirloomlaw01.NumNegs'. -/
def numNegsCard : Claim7 := { stood := { row := numNegsRow, standIns := [], harness := (true, "a9d6f6fda2558bdff235adc92ad21edefd7fcac9f7c3e03df32546253983d085"), looks := true }, kinds := [], alts := [], laidByText := true, laidKinds := [.data, .data, .data, .sentinel, .sentinel], laidTests := true, laidLooks := .later }
def NumNegsCardSaid : Prop := Claim7.holds Tryz.pinned (.plain (OpenSpec.ofChange numNegsSpec)) numNegsCard

/-- THE TIED CARD OF 'heirloomlaw01.NumCompares'. -/
def numComparesCard : Claim7 := { stood := { row := numComparesRow, standIns := [], harness := (true, "a9d6f6fda2558bdff235adc92ad21edefd7fcac9f7c3e03df32546253983d085"), looks := true }, kinds := [], alts := [], laidByText := true, laidKinds := [.data, .data, .data, .sentinel, .sentinel], laidTests := true, laidLooks := .later }
def NumComparesCardSaid : Prop := Claim7.holds Tryz.pinned (.plain (OpenSpec.ofChange numComparesSpec)) numComparesCard

/-- THE TIED CARD OF 'heirloomlaw01.NumTexts'. -/
def numTextsCard : Claim7 := { stood := { row := numTextsRow, standIns := [], harness := (true, "a9d6f6fda2558bdff235adc92ad21edefd7fcac9f7c3e03df32546253983d085"), looks := true }, kinds := [], alts := [], laidByText := true, laidKinds := [.data, .data, .data, .sentinel, .sentinel], laidTests := true, laidLooks := .later }
def NumTextsCardSaid : Prop := Claim7.holds Tryz.pinned (.plain (OpenSpec.ofChange numTextsSpec)) numTextsCard

/-- THE TIED CARD OF 'heirloomlaw01.NumBack'. -/
def numBackCard : Claim7 := { stood := { row := numBackRow, standIns := [], harness := (true, "a9d6f6fda2558bdff235adc92ad21edefd7fcac9f7c3e03df32546253983d085"), looks := true }, kinds := [], alts := [], laidByText := true, laidKinds := [.data, .data, .data, .sentinel, .sentinel], laidTests := true, laidLooks := .later }
def NumBackCardSaid : Prop := Claim7.holds Tryz.pinned (.plain (OpenSpec.ofChange numBackSpec)) numBackCard

/-- THE TIED CARD OF 'heirloomlaw01.NumOrder'. -/
def numOrderCard : Claim7 := { stood := { row := numOrderRow, standIns := [], harness := (true, "a9d6f6fda2558bdff235adc92ad21edefd7fcac9f7c3e03df32546253983d085"), looks := true }, kinds := [], alts := [], laidByText := true, laidKinds := [.data, .data, .data, .sentinel, .sentinel], laidTests := true, laidLooks := .later }
def NumOrderCardSaid : Prop := Claim7.holds Tryz.pinned (.plain (OpenSpec.ofChange numOrderSpec)) numOrderCard

/-- THE TIED CARD OF 'heirloomlaw01.NumKeys'. -/
def numKeysCard : Claim7 := { stood := { row := numKeysRow, standIns := [], harness := (true, "a9d6f6fda2558bdff235adc92ad21edefd7fcac9f7c3e03df32546253983d085"), looks := true }, kinds := [], alts := [], laidByText := true, laidKinds := [.data, .data, .data, .sentinel, .sentinel], laidTests := true, laidLooks := .later }
def NumKeysCardSaid : Prop := Claim7.holds Tryz.pinned (.plain (OpenSpec.ofChange numKeysSpec)) numKeysCard

/-- THE TIED CARD OF 'heirloomlaw01.NumRests'. -/
def numRestsCard : Claim7 := { stood := { row := numRestsRow, standIns := [], harness := (true, "a9d6f6fda2558bdff235adc92ad21edefd7fcac9f7c3e03df32546253983d085"), looks := true }, kinds := [], alts := [], laidByText := true, laidKinds := [.data, .data, .data, .sentinel, .sentinel], laidTests := true, laidLooks := .later }
def NumRestsCardSaid : Prop := Claim7.holds Tryz.pinned (.plain (OpenSpec.ofChange numRestsSpec)) numRestsCard

/-- THE TIED CARD OF 'heirloomlaw01.NumTurns'. -/
def numTurnsCard : Claim7 := { stood := { row := numTurnsRow, standIns := [], harness := (true, "a9d6f6fda2558bdff235adc92ad21edefd7fcac9f7c3e03df32546253983d085"), looks := true }, kinds := [], alts := [], laidByText := true, laidKinds := [.data, .data, .data, .sentinel, .sentinel], laidTests := true, laidLooks := .later }
def NumTurnsCardSaid : Prop := Claim7.holds Tryz.pinned (.plain (OpenSpec.ofChange numTurnsSpec)) numTurnsCard

/-- THE SECOND FORM's CARD OF 'heirloomlaw01.NumMakes'. -/
def numMakesUptoCard : Claim7 := { stood := { row := numMakesUptoRow, standIns := [], harness := (true, "a9d6f6fda2558bdff235adc92ad21edefd7fcac9f7c3e03df32546253983d085"), looks := true }, kinds := [], alts := [], laidByText := true, laidKinds := [.data, .data, .data, .sentinel, .sentinel], laidTests := true, laidLooks := .later }
def NumMakesUptoCardSaid : Prop := Claim7.holds Tryz.pinned (.plain (OpenSpec.upto numMakesSpec)) numMakesUptoCard

/-- THE SECOND FORM's CARD OF 'heirloomlaw01.NumOps'. -/
def numOpsUptoCard : Claim7 := { stood := { row := numOpsUptoRow, standIns := [], harness := (true, "a9d6f6fda2558bdff235adc92ad21edefd7fcac9f7c3e03df32546253983d085"), looks := true }, kinds := [], alts := [], laidByText := true, laidKinds := [.data, .data, .data, .sentinel, .sentinel], laidTests := true, laidLooks := .later }
def NumOpsUptoCardSaid : Prop := Claim7.holds Tryz.pinned (.plain (OpenSpec.upto numOpsSpec)) numOpsUptoCard

/-- THE SECOND FORM's CARD OF 'heirloomlaw01.NumNegs'. -/
def numNegsUptoCard : Claim7 := { stood := { row := numNegsUptoRow, standIns := [], harness := (true, "a9d6f6fda2558bdff235adc92ad21edefd7fcac9f7c3e03df32546253983d085"), looks := true }, kinds := [], alts := [], laidByText := true, laidKinds := [.data, .data, .data, .sentinel, .sentinel], laidTests := true, laidLooks := .later }
def NumNegsUptoCardSaid : Prop := Claim7.holds Tryz.pinned (.plain (OpenSpec.upto numNegsSpec)) numNegsUptoCard

/-- THE SECOND FORM's CARD OF 'heirloomlaw01.NumCompares'. -/
def numComparesUptoCard : Claim7 := { stood := { row := numComparesUptoRow, standIns := [], harness := (true, "a9d6f6fda2558bdff235adc92ad21edefd7fcac9f7c3e03df32546253983d085"), looks := true }, kinds := [], alts := [], laidByText := true, laidKinds := [.data, .data, .data, .sentinel, .sentinel], laidTests := true, laidLooks := .later }
def NumComparesUptoCardSaid : Prop := Claim7.holds Tryz.pinned (.plain (OpenSpec.upto numComparesSpec)) numComparesUptoCard

/-- THE SECOND FORM's CARD OF 'heirloomlaw01.NumTexts'. -/
def numTextsUptoCard : Claim7 := { stood := { row := numTextsUptoRow, standIns := [], harness := (true, "a9d6f6fda2558bdff235adc92ad21edefd7fcac9f7c3e03df32546253983d085"), looks := true }, kinds := [], alts := [], laidByText := true, laidKinds := [.data, .data, .data, .sentinel, .sentinel], laidTests := true, laidLooks := .later }
def NumTextsUptoCardSaid : Prop := Claim7.holds Tryz.pinned (.plain (OpenSpec.upto numTextsSpec)) numTextsUptoCard

/-- THE SECOND FORM's CARD OF 'heirloomlaw01.NumBack'. -/
def numBackUptoCard : Claim7 := { stood := { row := numBackUptoRow, standIns := [], harness := (true, "a9d6f6fda2558bdff235adc92ad21edefd7fcac9f7c3e03df32546253983d085"), looks := true }, kinds := [], alts := [], laidByText := true, laidKinds := [.data, .data, .data, .sentinel, .sentinel], laidTests := true, laidLooks := .later }
def NumBackUptoCardSaid : Prop := Claim7.holds Tryz.pinned (.plain (OpenSpec.upto numBackSpec)) numBackUptoCard

/-- THE SECOND FORM's CARD OF 'heirloomlaw01.NumOrder'. -/
def numOrderUptoCard : Claim7 := { stood := { row := numOrderUptoRow, standIns := [], harness := (true, "a9d6f6fda2558bdff235adc92ad21edefd7fcac9f7c3e03df32546253983d085"), looks := true }, kinds := [], alts := [], laidByText := true, laidKinds := [.data, .data, .data, .sentinel, .sentinel], laidTests := true, laidLooks := .later }
def NumOrderUptoCardSaid : Prop := Claim7.holds Tryz.pinned (.plain (OpenSpec.upto numOrderSpec)) numOrderUptoCard

/-- THE SECOND FORM's CARD OF 'heirloomlaw01.NumKeys'. -/
def numKeysUptoCard : Claim7 := { stood := { row := numKeysUptoRow, standIns := [], harness := (true, "a9d6f6fda2558bdff235adc92ad21edefd7fcac9f7c3e03df32546253983d085"), looks := true }, kinds := [], alts := [], laidByText := true, laidKinds := [.data, .data, .data, .sentinel, .sentinel], laidTests := true, laidLooks := .later }
def NumKeysUptoCardSaid : Prop := Claim7.holds Tryz.pinned (.plain (OpenSpec.upto numKeysSpec)) numKeysUptoCard

/-- THE SECOND FORM's CARD OF 'heirloomlaw01.NumRests'. -/
def numRestsUptoCard : Claim7 := { stood := { row := numRestsUptoRow, standIns := [], harness := (true, "a9d6f6fda2558bdff235adc92ad21edefd7fcac9f7c3e03df32546253983d085"), looks := true }, kinds := [], alts := [], laidByText := true, laidKinds := [.data, .data, .data, .sentinel, .sentinel], laidTests := true, laidLooks := .later }
def NumRestsUptoCardSaid : Prop := Claim7.holds Tryz.pinned (.plain (OpenSpec.upto numRestsSpec)) numRestsUptoCard

/-- THE SECOND FORM's CARD OF 'heirloomlaw01.NumTurns'. -/
def numTurnsUptoCard : Claim7 := { stood := { row := numTurnsUptoRow, standIns := [], harness := (true, "a9d6f6fda2558bdff235adc92ad21edefd7fcac9f7c3e03df32546253983d085"), looks := true }, kinds := [], alts := [], laidByText := true, laidKinds := [.data, .data, .data, .sentinel, .sentinel], laidTests := true, laidLooks := .later }
def NumTurnsUptoCardSaid : Prop := Claim7.holds Tryz.pinned (.plain (OpenSpec.upto numTurnsSpec)) numTurnsUptoCard
end Rows
end Go.Proofs.YtdpdpgnpkmfooaaGreatDoor
