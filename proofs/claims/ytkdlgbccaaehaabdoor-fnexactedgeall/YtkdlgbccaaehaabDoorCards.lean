/-
  DERIVED. GIVEN WITH THE SEED: THE CARDS: each row of YtkdlgbccaaehaabDoorRows.lean that lists a variable, with what it lists TIED to the program's text (the seventh form; the later family's looks); each row that meets fmt, with fmt's text TOLD by the authors' own Lean function (tested against real Go, not proved from fmt's source: count such statements apart). THE CARD IS WHAT COUNTS. Prove the row's statement (the work); the ties are given (YtkdlgbccaaehaabDoorTie.lean); close each card by the builder's one call (the guide's Derived/Test/ToyasCard.lean, 'card_holds'). Laid BY PROGRAM, IN A SANDBOX (cutbox-door.mjs). By AI agents, Wed Nov 11 2026. No macro, syntax, notation, axiom, sorry.
-/
import Derived.Test.YtkdlgbccaaehaabDoorRows
import GoSem.ClaimSeven
namespace Go.Proofs.YtkdlgbccaaehaabDoor
namespace Rows

/-- THE TIED CARD OF 'laws.FnExactEdgeAll'. -/
def fnExactEdgeAllCard : Claim7 := { stood := { row := fnExactEdgeAllRow, standIns := [], harness := (true, "b604ad0dad4ebb2c3561ebffc8c05e4b8e469f69b1eebffa8a53a5d843970919"), looks := false }, kinds := [], alts := [], laidByText := true, laidKinds := [.data, .data], laidTests := true, laidLooks := .later }
def FnExactEdgeAllCardSaid : Prop := Claim7.holds Tryd.pinned (.plain (OpenSpec.ofChange fnExactEdgeAllSpec)) fnExactEdgeAllCard

/-- THE SECOND FORM's CARD OF 'laws.FnExactEdgeAll'. -/
def fnExactEdgeAllUptoCard : Claim7 := { stood := { row := fnExactEdgeAllUptoRow, standIns := [], harness := (true, "b604ad0dad4ebb2c3561ebffc8c05e4b8e469f69b1eebffa8a53a5d843970919"), looks := false }, kinds := [], alts := [], laidByText := true, laidKinds := [.data, .data], laidTests := true, laidLooks := .later }
def FnExactEdgeAllUptoCardSaid : Prop := Claim7.holds Tryd.pinned (.plain (OpenSpec.upto fnExactEdgeAllSpec)) fnExactEdgeAllUptoCard
end Rows
end Go.Proofs.YtkdlgbccaaehaabDoor
