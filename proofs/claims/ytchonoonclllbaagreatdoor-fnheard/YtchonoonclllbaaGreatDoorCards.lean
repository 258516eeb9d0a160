/-
  DERIVED. GIVEN WITH THE SEED: THE CARDS: each row of YtchonoonclllbaaGreatDoorRows.lean that lists a variable, with what it lists TIED to the program's text (the seventh form; the later family's looks); each row that meets fmt, with fmt's text TOLD by the authors' own Lean function (tested against real Go, not proved from fmt's source: count such statements apart). THE CARD IS WHAT COUNTS. Prove the row's statement (the work); the ties are given (YtchonoonclllbaaGreatDoorTie.lean); close each card by the builder's one call (the guide's Derived/Test/ToyasCard.lean, 'card_holds'). Laid BY PROGRAM, IN A SANDBOX (cutbox-door.mjs). By AI agents, Wed Nov 11 2026. No macro, syntax, notation, axiom, sorry.
-/
import Derived.Test.YtchonoonclllbaaGreatDoorRows
import GoSem.ClaimSeven
namespace Go.Proofs.YtchonoonclllbaaGreatDoor
namespace Rows

/-- THE TIED CARD OF 'laws.FnHeard'. -/
def fnHeardCard : Claim7 := { stood := { row := fnHeardRow, standIns := [], harness := (true, "46ee3b2af6fb24016d1ebc0b87a809c5339a298b3f871f68d2deda7ec5223fc1"), looks := true }, kinds := [], alts := [], laidByText := true, laidKinds := [.data, .data, .sentinel, .sentinel, .sentinel, .sentinel, .sentinel], laidTests := true, laidLooks := .later }
def FnHeardCardSaid : Prop := Claim7.holds Tryz.pinned (.plain (OpenSpec.ofChange fnHeardSpec)) fnHeardCard

/-- THE TIED CARD OF 'laws.FnFetched'. -/
def fnFetchedCard : Claim7 := { stood := { row := fnFetchedRow, standIns := [], harness := (true, "46ee3b2af6fb24016d1ebc0b87a809c5339a298b3f871f68d2deda7ec5223fc1"), looks := true }, kinds := [], alts := [], laidByText := true, laidKinds := [.data, .data, .sentinel, .sentinel, .sentinel, .sentinel, .sentinel], laidTests := true, laidLooks := .later }
def FnFetchedCardSaid : Prop := Claim7.holds Tryz.pinned (.plain (OpenSpec.ofChange fnFetchedSpec)) fnFetchedCard

/-- THE TIED CARD OF 'laws.FnCrashed'. -/
def fnCrashedCard : Claim7 := { stood := { row := fnCrashedRow, standIns := [], harness := (true, "46ee3b2af6fb24016d1ebc0b87a809c5339a298b3f871f68d2deda7ec5223fc1"), looks := true }, kinds := [], alts := [], laidByText := true, laidKinds := [.data, .data, .sentinel, .sentinel, .sentinel, .sentinel, .sentinel], laidTests := true, laidLooks := .later }
def FnCrashedCardSaid : Prop := Claim7.holds Tryz.pinned (.plain (OpenSpec.ofChange fnCrashedSpec)) fnCrashedCard

/-- THE TIED CARD OF 'laws.FnGossiped'. -/
def fnGossipedCard : Claim7 := { stood := { row := fnGossipedRow, standIns := [], harness := (true, "46ee3b2af6fb24016d1ebc0b87a809c5339a298b3f871f68d2deda7ec5223fc1"), looks := true }, kinds := [], alts := [], laidByText := true, laidKinds := [.data, .data, .sentinel], laidTests := true, laidLooks := .later }
def FnGossipedCardSaid : Prop := Claim7.holds Tryz.pinned (.plain (OpenSpec.ofChange fnGossipedSpec)) fnGossipedCard

/-- THE TIED CARD OF 'laws.FnExactMirrorOk'. -/
def fnExactMirrorOkCard : Claim7 := { stood := { row := fnExactMirrorOkRow, standIns := [], harness := (true, "46ee3b2af6fb24016d1ebc0b87a809c5339a298b3f871f68d2deda7ec5223fc1"), looks := true }, kinds := [], alts := [], laidByText := true, laidKinds := [.data, .data, .sentinel], laidTests := true, laidLooks := .later }
def FnExactMirrorOkCardSaid : Prop := Claim7.holds Tryz.pinned (.plain (OpenSpec.ofChange fnExactMirrorOkSpec)) fnExactMirrorOkCard

/-- THE SECOND FORM's CARD OF 'laws.FnHeard'. -/
def fnHeardUptoCard : Claim7 := { stood := { row := fnHeardUptoRow, standIns := [], harness := (true, "46ee3b2af6fb24016d1ebc0b87a809c5339a298b3f871f68d2deda7ec5223fc1"), looks := true }, kinds := [], alts := [], laidByText := true, laidKinds := [.data, .data, .sentinel, .sentinel, .sentinel, .sentinel, .sentinel], laidTests := true, laidLooks := .later }
def FnHeardUptoCardSaid : Prop := Claim7.holds Tryz.pinned (.plain (OpenSpec.upto fnHeardSpec)) fnHeardUptoCard

/-- THE SECOND FORM's CARD OF 'laws.FnFetched'. -/
def fnFetchedUptoCard : Claim7 := { stood := { row := fnFetchedUptoRow, standIns := [], harness := (true, "46ee3b2af6fb24016d1ebc0b87a809c5339a298b3f871f68d2deda7ec5223fc1"), looks := true }, kinds := [], alts := [], laidByText := true, laidKinds := [.data, .data, .sentinel, .sentinel, .sentinel, .sentinel, .sentinel], laidTests := true, laidLooks := .later }
def FnFetchedUptoCardSaid : Prop := Claim7.holds Tryz.pinned (.plain (OpenSpec.upto fnFetchedSpec)) fnFetchedUptoCard

/-- THE SECOND FORM's CARD OF 'laws.FnCrashed'. -/
def fnCrashedUptoCard : Claim7 := { stood := { row := fnCrashedUptoRow, standIns := [], harness := (true, "46ee3b2af6fb24016d1ebc0b87a809c5339a298b3f871f68d2deda7ec5223fc1"), looks := true }, kinds := [], alts := [], laidByText := true, laidKinds := [.data, .data, .sentinel, .sentinel, .sentinel, .sentinel, .sentinel], laidTests := true, laidLooks := .later }
def FnCrashedUptoCardSaid : Prop := Claim7.holds Tryz.pinned (.plain (OpenSpec.upto fnCrashedSpec)) fnCrashedUptoCard

/-- THE SECOND FORM's CARD OF 'laws.FnGossiped'. -/
def fnGossipedUptoCard : Claim7 := { stood := { row := fnGossipedUptoRow, standIns := [], harness := (true, "46ee3b2af6fb24016d1ebc0b87a809c5339a298b3f871f68d2deda7ec5223fc1"), looks := true }, kinds := [], alts := [], laidByText := true, laidKinds := [.data, .data, .sentinel], laidTests := true, laidLooks := .later }
def FnGossipedUptoCardSaid : Prop := Claim7.holds Tryz.pinned (.plain (OpenSpec.upto fnGossipedSpec)) fnGossipedUptoCard

/-- THE SECOND FORM's CARD OF 'laws.FnExactMirrorOk'. -/
def fnExactMirrorOkUptoCard : Claim7 := { stood := { row := fnExactMirrorOkUptoRow, standIns := [], harness := (true, "46ee3b2af6fb24016d1ebc0b87a809c5339a298b3f871f68d2deda7ec5223fc1"), looks := true }, kinds := [], alts := [], laidByText := true, laidKinds := [.data, .data, .sentinel], laidTests := true, laidLooks := .later }
def FnExactMirrorOkUptoCardSaid : Prop := Claim7.holds Tryz.pinned (.plain (OpenSpec.upto fnExactMirrorOkSpec)) fnExactMirrorOkUptoCard
end Rows
end Go.Proofs.YtchonoonclllbaaGreatDoor
