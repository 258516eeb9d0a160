/-
  DERIVED. GIVEN WITH THE SEED: THE CARDS: each row of YtfpaichdkddglabGreatDoorRows.lean that lists a variable, with what it lists TIED to the program's text (the seventh form; the later family's looks); each row that meets fmt, with fmt's text TOLD by the authors' own Lean function (tested against real Go, not proved from fmt's source: count such statements apart). THE CARD IS WHAT COUNTS. Prove the row's statement (the work); the ties are given (YtfpaichdkddglabGreatDoorTie.lean); close each card by the builder's one call (the guide's Derived/Test/ToyasCard.lean, 'card_holds'). Laid BY PROGRAM, IN A SANDBOX (cutbox-door.mjs). By AI agents, Wed Nov 11 2026. No macro, syntax, notation, axiom, sorry.
-/
import Derived.Test.YtfpaichdkddglabGreatDoorRows
import GoSem.ClaimSeven
namespace Go.Proofs.YtfpaichdkddglabGreatDoor
namespace Rows

/-- THE TIED CARD OF 'laws.FnExactCommit'. -/
def fnExactCommitCard : Claim7 := { stood := { row := fnExactCommitRow, standIns := [], harness := (true, "894260cdc3f2c9e1b680bd1d14ad8e0e40889cbb15015a8d7e6363e2d193dea4"), looks := true }, kinds := [], alts := [], laidByText := true, laidKinds := [.data, .data, .sentinel, .sentinel, .sentinel, .sentinel, .sentinel], laidTests := true, laidLooks := .later }
def FnExactCommitCardSaid : Prop := Claim7.holds Tryz.pinned (.plain (OpenSpec.ofChange fnExactCommitSpec)) fnExactCommitCard

/-- THE TIED CARD OF 'laws.FnExactMakeSure'. -/
def fnExactMakeSureCard : Claim7 := { stood := { row := fnExactMakeSureRow, standIns := [], harness := (true, "894260cdc3f2c9e1b680bd1d14ad8e0e40889cbb15015a8d7e6363e2d193dea4"), looks := true }, kinds := [], alts := [], laidByText := true, laidKinds := [.data, .data, .sentinel], laidTests := true, laidLooks := .later }
def FnExactMakeSureCardSaid : Prop := Claim7.holds Tryz.pinned (.plain (OpenSpec.ofChange fnExactMakeSureSpec)) fnExactMakeSureCard

/-- THE TIED CARD OF 'laws.FnExactOpenStore'. -/
def fnExactOpenStoreCard : Claim7 := { stood := { row := fnExactOpenStoreRow, standIns := [], harness := (true, "894260cdc3f2c9e1b680bd1d14ad8e0e40889cbb15015a8d7e6363e2d193dea4"), looks := true }, kinds := [], alts := [], laidByText := true, laidKinds := [.data, .data, .sentinel, .sentinel, .sentinel, .sentinel, .sentinel], laidTests := true, laidLooks := .later }
def FnExactOpenStoreCardSaid : Prop := Claim7.holds Tryz.pinned (.plain (OpenSpec.ofChange fnExactOpenStoreSpec)) fnExactOpenStoreCard

/-- THE SECOND FORM's CARD OF 'laws.FnExactCommit'. -/
def fnExactCommitUptoCard : Claim7 := { stood := { row := fnExactCommitUptoRow, standIns := [], harness := (true, "894260cdc3f2c9e1b680bd1d14ad8e0e40889cbb15015a8d7e6363e2d193dea4"), looks := true }, kinds := [], alts := [], laidByText := true, laidKinds := [.data, .data, .sentinel, .sentinel, .sentinel, .sentinel, .sentinel], laidTests := true, laidLooks := .later }
def FnExactCommitUptoCardSaid : Prop := Claim7.holds Tryz.pinned (.plain (OpenSpec.upto fnExactCommitSpec)) fnExactCommitUptoCard

/-- THE SECOND FORM's CARD OF 'laws.FnExactMakeSure'. -/
def fnExactMakeSureUptoCard : Claim7 := { stood := { row := fnExactMakeSureUptoRow, standIns := [], harness := (true, "894260cdc3f2c9e1b680bd1d14ad8e0e40889cbb15015a8d7e6363e2d193dea4"), looks := true }, kinds := [], alts := [], laidByText := true, laidKinds := [.data, .data, .sentinel], laidTests := true, laidLooks := .later }
def FnExactMakeSureUptoCardSaid : Prop := Claim7.holds Tryz.pinned (.plain (OpenSpec.upto fnExactMakeSureSpec)) fnExactMakeSureUptoCard

/-- THE SECOND FORM's CARD OF 'laws.FnExactOpenStore'. -/
def fnExactOpenStoreUptoCard : Claim7 := { stood := { row := fnExactOpenStoreUptoRow, standIns := [], harness := (true, "894260cdc3f2c9e1b680bd1d14ad8e0e40889cbb15015a8d7e6363e2d193dea4"), looks := true }, kinds := [], alts := [], laidByText := true, laidKinds := [.data, .data, .sentinel, .sentinel, .sentinel, .sentinel, .sentinel], laidTests := true, laidLooks := .later }
def FnExactOpenStoreUptoCardSaid : Prop := Claim7.holds Tryz.pinned (.plain (OpenSpec.upto fnExactOpenStoreSpec)) fnExactOpenStoreUptoCard
end Rows
end Go.Proofs.YtfpaichdkddglabGreatDoor
