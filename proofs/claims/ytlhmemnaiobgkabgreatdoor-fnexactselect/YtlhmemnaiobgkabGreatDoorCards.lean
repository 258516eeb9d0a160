/-
  DERIVED. GIVEN WITH THE SEED: THE CARDS: each row of YtlhmemnaiobgkabGreatDoorRows.lean that lists a variable, with what it lists TIED to the program's text (the seventh form; the later family's looks); each row that meets fmt, with fmt's text TOLD by the authors' own Lean function (tested against real Go, not proved from fmt's source: count such statements apart). THE CARD IS WHAT COUNTS. Prove the row's statement (the work); the ties are given (YtlhmemnaiobgkabGreatDoorTie.lean); close each card by the builder's one call (the guide's Derived/Test/ToyasCard.lean, 'card_holds'). Laid BY PROGRAM, IN A SANDBOX (cutbox-door.mjs). By AI agents, Wed Nov 11 2026. No macro, syntax, notation, axiom, sorry.
-/
import Derived.Test.YtlhmemnaiobgkabGreatDoorRows
import GoSem.ClaimSeven
namespace Go.Proofs.YtlhmemnaiobgkabGreatDoor
namespace Rows

/-- THE TIED CARD OF 'laws.FnExactSelect'. -/
def fnExactSelectCard : Claim7 := { stood := { row := fnExactSelectRow, standIns := [], harness := (true, "d6245ea5c601bd10b1d6325527b8e5c3c2742086b368484261f691fe7e8c78bc"), looks := true }, kinds := [], alts := [], laidByText := true, laidKinds := [.handle], laidTests := true, laidLooks := .later }
def FnExactSelectCardSaid : Prop := Claim7.holds Tryz.pinned (.plain (OpenSpec.ofChange fnExactSelectSpec)) fnExactSelectCard

/-- THE SECOND FORM's CARD OF 'laws.FnExactSelect'. -/
def fnExactSelectUptoCard : Claim7 := { stood := { row := fnExactSelectUptoRow, standIns := [], harness := (true, "d6245ea5c601bd10b1d6325527b8e5c3c2742086b368484261f691fe7e8c78bc"), looks := true }, kinds := [], alts := [], laidByText := true, laidKinds := [.handle], laidTests := true, laidLooks := .later }
def FnExactSelectUptoCardSaid : Prop := Claim7.holds Tryz.pinned (.plain (OpenSpec.upto fnExactSelectSpec)) fnExactSelectUptoCard
end Rows
end Go.Proofs.YtlhmemnaiobgkabGreatDoor
