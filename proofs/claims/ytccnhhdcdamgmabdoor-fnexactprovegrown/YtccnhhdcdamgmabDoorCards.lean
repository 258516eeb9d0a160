/-
  DERIVED. GIVEN WITH THE SEED: THE CARDS: each row of YtccnhhdcdamgmabDoorRows.lean that lists a variable, with what it lists TIED to the program's text (the seventh form; the later family's looks); each row that meets fmt, with fmt's text TOLD by the authors' own Lean function (tested against real Go, not proved from fmt's source: count such statements apart). THE CARD IS WHAT COUNTS. Prove the row's statement (the work); the ties are given (YtccnhhdcdamgmabDoorTie.lean); close each card by the builder's one call (the guide's Derived/Test/ToyasCard.lean, 'card_holds'). Laid BY PROGRAM, IN A SANDBOX (cutbox-door.mjs). By AI agents, Wed Nov 11 2026. No macro, syntax, notation, axiom, sorry.
-/
import Derived.Test.YtccnhhdcdamgmabDoorRows
import GoSem.ClaimSeven
namespace Go.Proofs.YtccnhhdcdamgmabDoor
namespace Rows

/-- THE TIED CARD OF 'laws.FnExactProveGrown'. -/
def fnExactProveGrownCard : Claim7 := { stood := { row := fnExactProveGrownRow, standIns := [], harness := (true, "422f2d12ace0dc85a19e4691569fb1caa97e3b34474d026e088c7220370bcc57"), looks := false }, kinds := [], alts := [], laidByText := true, laidKinds := [.data, .data], laidTests := true, laidLooks := .later }
def FnExactProveGrownCardSaid : Prop := Claim7.holds Tryd.pinned (.plain (OpenSpec.ofChange fnExactProveGrownSpec)) fnExactProveGrownCard

/-- THE SECOND FORM's CARD OF 'laws.FnExactProveGrown'. -/
def fnExactProveGrownUptoCard : Claim7 := { stood := { row := fnExactProveGrownUptoRow, standIns := [], harness := (true, "422f2d12ace0dc85a19e4691569fb1caa97e3b34474d026e088c7220370bcc57"), looks := false }, kinds := [], alts := [], laidByText := true, laidKinds := [.data, .data], laidTests := true, laidLooks := .later }
def FnExactProveGrownUptoCardSaid : Prop := Claim7.holds Tryd.pinned (.plain (OpenSpec.upto fnExactProveGrownSpec)) fnExactProveGrownUptoCard
end Rows
end Go.Proofs.YtccnhhdcdamgmabDoor
