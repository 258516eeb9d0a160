/-
  DERIVED. GIVEN WITH THE SEED: THE CARDS: each row of YthbonifpdpknnacDoorRows.lean that lists a variable, with what it lists TIED to the program's text (the seventh form; the later family's looks); each row that meets fmt, with fmt's text TOLD by the authors' own Lean function (tested against real Go, not proved from fmt's source: count such statements apart). THE CARD IS WHAT COUNTS. Prove the row's statement (the work); the ties are given (YthbonifpdpknnacDoorTie.lean); close each card by the builder's one call (the guide's Derived/Test/ToyasCard.lean, 'card_holds'). Laid BY PROGRAM, IN A SANDBOX (cutbox-door.mjs). By AI agents, Wed Nov 11 2026. No macro, syntax, notation, axiom, sorry.
-/
import Derived.Test.YthbonifpdpknnacDoorRows
import GoSem.ClaimSeven
namespace Go.Proofs.YthbonifpdpknnacDoor
namespace Rows

/-- THE TIED CARD OF 'laws.FnExactEdgeOf'. -/
def fnExactEdgeOfCard : Claim7 := { stood := { row := fnExactEdgeOfRow, standIns := [], harness := (true, "30c3f10aa80ffbf0a4bd0e4272fa7bf316b1b9a8d231bf85b7f6effe0acc3372"), looks := false }, kinds := [], alts := [], laidByText := true, laidKinds := [.data, .data], laidTests := true, laidLooks := .later }
def FnExactEdgeOfCardSaid : Prop := Claim7.holds Tryd.pinned (.plain (OpenSpec.ofChange fnExactEdgeOfSpec)) fnExactEdgeOfCard

/-- THE TIED CARD OF 'laws.FnExactEdgeAdd'. -/
def fnExactEdgeAddCard : Claim7 := { stood := { row := fnExactEdgeAddRow, standIns := [], harness := (true, "30c3f10aa80ffbf0a4bd0e4272fa7bf316b1b9a8d231bf85b7f6effe0acc3372"), looks := false }, kinds := [], alts := [], laidByText := true, laidKinds := [.data, .data], laidTests := true, laidLooks := .later }
def FnExactEdgeAddCardSaid : Prop := Claim7.holds Tryd.pinned (.plain (OpenSpec.ofChange fnExactEdgeAddSpec)) fnExactEdgeAddCard

/-- THE TIED CARD OF 'laws.FnExactEdgeRoot'. -/
def fnExactEdgeRootCard : Claim7 := { stood := { row := fnExactEdgeRootRow, standIns := [], harness := (true, "30c3f10aa80ffbf0a4bd0e4272fa7bf316b1b9a8d231bf85b7f6effe0acc3372"), looks := false }, kinds := [], alts := [], laidByText := true, laidKinds := [.data, .data], laidTests := true, laidLooks := .later }
def FnExactEdgeRootCardSaid : Prop := Claim7.holds Tryd.pinned (.plain (OpenSpec.ofChange fnExactEdgeRootSpec)) fnExactEdgeRootCard

/-- THE TIED CARD OF 'laws.FnExactEdgeAll'. -/
def fnExactEdgeAllCard : Claim7 := { stood := { row := fnExactEdgeAllRow, standIns := [], harness := (true, "30c3f10aa80ffbf0a4bd0e4272fa7bf316b1b9a8d231bf85b7f6effe0acc3372"), looks := false }, kinds := [], alts := [], laidByText := true, laidKinds := [.data, .data], laidTests := true, laidLooks := .later }
def FnExactEdgeAllCardSaid : Prop := Claim7.holds Tryd.pinned (.plain (OpenSpec.ofChange fnExactEdgeAllSpec)) fnExactEdgeAllCard

/-- THE SECOND FORM's CARD OF 'laws.FnExactEdgeOf'. -/
def fnExactEdgeOfUptoCard : Claim7 := { stood := { row := fnExactEdgeOfUptoRow, standIns := [], harness := (true, "30c3f10aa80ffbf0a4bd0e4272fa7bf316b1b9a8d231bf85b7f6effe0acc3372"), looks := false }, kinds := [], alts := [], laidByText := true, laidKinds := [.data, .data], laidTests := true, laidLooks := .later }
def FnExactEdgeOfUptoCardSaid : Prop := Claim7.holds Tryd.pinned (.plain (OpenSpec.upto fnExactEdgeOfSpec)) fnExactEdgeOfUptoCard

/-- THE SECOND FORM's CARD OF 'laws.FnExactEdgeAdd'. -/
def fnExactEdgeAddUptoCard : Claim7 := { stood := { row := fnExactEdgeAddUptoRow, standIns := [], harness := (true, "30c3f10aa80ffbf0a4bd0e4272fa7bf316b1b9a8d231bf85b7f6effe0acc3372"), looks := false }, kinds := [], alts := [], laidByText := true, laidKinds := [.data, .data], laidTests := true, laidLooks := .later }
def FnExactEdgeAddUptoCardSaid : Prop := Claim7.holds Tryd.pinned (.plain (OpenSpec.upto fnExactEdgeAddSpec)) fnExactEdgeAddUptoCard

/-- THE SECOND FORM's CARD OF 'laws.FnExactEdgeRoot'. -/
def fnExactEdgeRootUptoCard : Claim7 := { stood := { row := fnExactEdgeRootUptoRow, standIns := [], harness := (true, "30c3f10aa80ffbf0a4bd0e4272fa7bf316b1b9a8d231bf85b7f6effe0acc3372"), looks := false }, kinds := [], alts := [], laidByText := true, laidKinds := [.data, .data], laidTests := true, laidLooks := .later }
def FnExactEdgeRootUptoCardSaid : Prop := Claim7.holds Tryd.pinned (.plain (OpenSpec.upto fnExactEdgeRootSpec)) fnExactEdgeRootUptoCard

/-- THE SECOND FORM's CARD OF 'laws.FnExactEdgeAll'. -/
def fnExactEdgeAllUptoCard : Claim7 := { stood := { row := fnExactEdgeAllUptoRow, standIns := [], harness := (true, "30c3f10aa80ffbf0a4bd0e4272fa7bf316b1b9a8d231bf85b7f6effe0acc3372"), looks := false }, kinds := [], alts := [], laidByText := true, laidKinds := [.data, .data], laidTests := true, laidLooks := .later }
def FnExactEdgeAllUptoCardSaid : Prop := Claim7.holds Tryd.pinned (.plain (OpenSpec.upto fnExactEdgeAllSpec)) fnExactEdgeAllUptoCard
end Rows
end Go.Proofs.YthbonifpdpknnacDoor
