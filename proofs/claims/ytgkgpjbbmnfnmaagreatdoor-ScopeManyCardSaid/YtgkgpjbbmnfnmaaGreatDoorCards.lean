/-
  DERIVED. GIVEN WITH THE SEED: THE CARDS: each row of YtgkgpjbbmnfnmaaGreatDoorRows.lean that lists a variable, with what it lists TIED to the program's text (the seventh form; the later family's looks); each row that meets fmt, with fmt's text TOLD by the authors' own Lean function (tested against real Go, not proved from fmt's source: count such statements apart). THE CARD IS WHAT COUNTS. Prove the row's statement (the work); the ties are given (YtgkgpjbbmnfnmaaGreatDoorTie.lean); close each card by the builder's one call (the guide's Derived/Test/ToyasCard.lean, 'card_holds'). Laid BY PROGRAM, IN A SANDBOX (cutbox-door.mjs). By AI agents, Wed Nov 11 2026. No macro, syntax, notation, axiom, sorry.
-/
import Derived.Test.YtgkgpjbbmnfnmaaGreatDoorRows
import GoSem.ClaimSeven
namespace Go.Proofs.YtgkgpjbbmnfnmaaGreatDoor
namespace Rows

/-- THE TIED CARD OF 'heirloomlaw09.ScopeNames'. -/
def scopeNamesCard : Claim7 := { stood := { row := scopeNamesRow, standIns := [], harness := (true, "5b36ff8eca5c151d2a39844afbc0b3756a2802f1b07f962d85b1d0cc6bf79a5d"), looks := true }, kinds := [], alts := [], laidByText := true, laidKinds := [.data, .data, .data, .sentinel, .sentinel, .data], laidTests := true, laidLooks := .later }
def ScopeNamesCardSaid : Prop := Claim7.holds Tryz.pinned (.plain (OpenSpec.ofChange scopeNamesSpec)) scopeNamesCard

/-- THE TIED CARD OF 'heirloomlaw09.ScopeFirst'. -/
def scopeFirstCard : Claim7 := { stood := { row := scopeFirstRow, standIns := [], harness := (true, "5b36ff8eca5c151d2a39844afbc0b3756a2802f1b07f962d85b1d0cc6bf79a5d"), looks := true }, kinds := [], alts := [], laidByText := true, laidKinds := [.data, .data, .data, .sentinel, .sentinel, .data], laidTests := true, laidLooks := .later }
def ScopeFirstCardSaid : Prop := Claim7.holds Tryz.pinned (.plain (OpenSpec.ofChange scopeFirstSpec)) scopeFirstCard

/-- THE TIED CARD OF 'heirloomlaw09.ScopeAgain'. -/
def scopeAgainCard : Claim7 := { stood := { row := scopeAgainRow, standIns := [], harness := (true, "5b36ff8eca5c151d2a39844afbc0b3756a2802f1b07f962d85b1d0cc6bf79a5d"), looks := true }, kinds := [], alts := [], laidByText := true, laidKinds := [.data, .data, .data, .sentinel, .sentinel, .data], laidTests := true, laidLooks := .later }
def ScopeAgainCardSaid : Prop := Claim7.holds Tryz.pinned (.plain (OpenSpec.ofChange scopeAgainSpec)) scopeAgainCard

/-- THE TIED CARD OF 'heirloomlaw09.ScopeMany'. -/
def scopeManyCard : Claim7 := { stood := { row := scopeManyRow, standIns := [], harness := (true, "5b36ff8eca5c151d2a39844afbc0b3756a2802f1b07f962d85b1d0cc6bf79a5d"), looks := true }, kinds := [], alts := [], laidByText := true, laidKinds := [.data, .data, .data, .sentinel, .sentinel, .data], laidTests := true, laidLooks := .later }
def ScopeManyCardSaid : Prop := Claim7.holds Tryz.pinned (.plain (OpenSpec.ofChange scopeManySpec)) scopeManyCard

/-- THE SECOND FORM's CARD OF 'heirloomlaw09.ScopeNames'. -/
def scopeNamesUptoCard : Claim7 := { stood := { row := scopeNamesUptoRow, standIns := [], harness := (true, "5b36ff8eca5c151d2a39844afbc0b3756a2802f1b07f962d85b1d0cc6bf79a5d"), looks := true }, kinds := [], alts := [], laidByText := true, laidKinds := [.data, .data, .data, .sentinel, .sentinel, .data], laidTests := true, laidLooks := .later }
def ScopeNamesUptoCardSaid : Prop := Claim7.holds Tryz.pinned (.plain (OpenSpec.upto scopeNamesSpec)) scopeNamesUptoCard

/-- THE SECOND FORM's CARD OF 'heirloomlaw09.ScopeFirst'. -/
def scopeFirstUptoCard : Claim7 := { stood := { row := scopeFirstUptoRow, standIns := [], harness := (true, "5b36ff8eca5c151d2a39844afbc0b3756a2802f1b07f962d85b1d0cc6bf79a5d"), looks := true }, kinds := [], alts := [], laidByText := true, laidKinds := [.data, .data, .data, .sentinel, .sentinel, .data], laidTests := true, laidLooks := .later }
def ScopeFirstUptoCardSaid : Prop := Claim7.holds Tryz.pinned (.plain (OpenSpec.upto scopeFirstSpec)) scopeFirstUptoCard

/-- THE SECOND FORM's CARD OF 'heirloomlaw09.ScopeAgain'. -/
def scopeAgainUptoCard : Claim7 := { stood := { row := scopeAgainUptoRow, standIns := [], harness := (true, "5b36ff8eca5c151d2a39844afbc0b3756a2802f1b07f962d85b1d0cc6bf79a5d"), looks := true }, kinds := [], alts := [], laidByText := true, laidKinds := [.data, .data, .data, .sentinel, .sentinel, .data], laidTests := true, laidLooks := .later }
def ScopeAgainUptoCardSaid : Prop := Claim7.holds Tryz.pinned (.plain (OpenSpec.upto scopeAgainSpec)) scopeAgainUptoCard

/-- THE SECOND FORM's CARD OF 'heirloomlaw09.ScopeMany'. -/
def scopeManyUptoCard : Claim7 := { stood := { row := scopeManyUptoRow, standIns := [], harness := (true, "5b36ff8eca5c151d2a39844afbc0b3756a2802f1b07f962d85b1d0cc6bf79a5d"), looks := true }, kinds := [], alts := [], laidByText := true, laidKinds := [.data, .data, .data, .sentinel, .sentinel, .data], laidTests := true, laidLooks := .later }
def ScopeManyUptoCardSaid : Prop := Claim7.holds Tryz.pinned (.plain (OpenSpec.upto scopeManySpec)) scopeManyUptoCard
end Rows
end Go.Proofs.YtgkgpjbbmnfnmaaGreatDoor
