/-
  DERIVED. GIVEN WITH THE SEED: THE CARDS: each row of YtchonoonclllbaaDoorRows.lean that lists a variable, with what it lists TIED to the program's text (the seventh form; the later family's looks); each row that meets fmt, with fmt's text TOLD by the authors' own Lean function (tested against real Go, not proved from fmt's source: count such statements apart). THE CARD IS WHAT COUNTS. Prove the row's statement (the work); the ties are given (YtchonoonclllbaaDoorTie.lean); close each card by the builder's one call (the guide's Derived/Test/ToyasCard.lean, 'card_holds'). Laid BY PROGRAM, IN A SANDBOX (cutbox-door.mjs). By AI agents, Wed Nov 11 2026. No macro, syntax, notation, axiom, sorry.
-/
import Derived.Test.YtchonoonclllbaaDoorRows
import GoSem.ClaimSeven
namespace Go.Proofs.YtchonoonclllbaaDoor
namespace Rows

/-- THE TIED CARD OF 'laws.FnExactMirrorNew'. -/
def fnExactMirrorNewCard : Claim7 := { stood := { row := fnExactMirrorNewRow, standIns := [], harness := (true, "31c62bfd794e7e8d7fb9a8be9979ef1ad0fd43e9b3838724103b95f946ed0a27"), looks := false }, kinds := [], alts := [], laidByText := true, laidKinds := [.data, .data], laidTests := true, laidLooks := .later }
def FnExactMirrorNewCardSaid : Prop := Claim7.holds Tryd.pinned (.plain (OpenSpec.ofChange fnExactMirrorNewSpec)) fnExactMirrorNewCard

/-- THE SECOND FORM's CARD OF 'laws.FnExactMirrorNew'. -/
def fnExactMirrorNewUptoCard : Claim7 := { stood := { row := fnExactMirrorNewUptoRow, standIns := [], harness := (true, "31c62bfd794e7e8d7fb9a8be9979ef1ad0fd43e9b3838724103b95f946ed0a27"), looks := false }, kinds := [], alts := [], laidByText := true, laidKinds := [.data, .data], laidTests := true, laidLooks := .later }
def FnExactMirrorNewUptoCardSaid : Prop := Claim7.holds Tryd.pinned (.plain (OpenSpec.upto fnExactMirrorNewSpec)) fnExactMirrorNewUptoCard
end Rows
end Go.Proofs.YtchonoonclllbaaDoor
