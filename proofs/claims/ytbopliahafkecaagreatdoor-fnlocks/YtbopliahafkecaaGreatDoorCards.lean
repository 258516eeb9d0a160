/-
  DERIVED. GIVEN WITH THE SEED: THE CARDS: each row of YtbopliahafkecaaGreatDoorRows.lean that lists a variable, with what it lists TIED to the program's text (the seventh form; the later family's looks); each row that meets fmt, with fmt's text TOLD by the authors' own Lean function (tested against real Go, not proved from fmt's source: count such statements apart). THE CARD IS WHAT COUNTS. Prove the row's statement (the work); the ties are given (YtbopliahafkecaaGreatDoorTie.lean); close each card by the builder's one call (the guide's Derived/Test/ToyasCard.lean, 'card_holds'). Laid BY PROGRAM, IN A SANDBOX (cutbox-door.mjs). By AI agents, Wed Nov 11 2026. No macro, syntax, notation, axiom, sorry.
-/
import Derived.Test.YtbopliahafkecaaGreatDoorRows
import GoSem.ClaimSeven
namespace Go.Proofs.YtbopliahafkecaaGreatDoor
namespace Rows

/-- THE TIED CARD OF 'laws.FnLocks'. -/
def fnLocksCard : Claim7 := { stood := { row := fnLocksRow, standIns := [], harness := (true, "4dbc444df7c4f7a85626b640c14d9af2472e54b867003d8dbaae34ab15abbc4f"), looks := true }, kinds := [], alts := [], laidByText := true, laidKinds := [.data, .data, .data], laidTests := true, laidLooks := .later }
def FnLocksCardSaid : Prop := Claim7.holds Tryz.pinned (.plain (OpenSpec.ofChange fnLocksSpec)) fnLocksCard

/-- THE TIED CARD OF 'laws.FnExactParseLock'. -/
def fnExactParseLockCard : Claim7 := { stood := { row := fnExactParseLockRow, standIns := [], harness := (true, "4dbc444df7c4f7a85626b640c14d9af2472e54b867003d8dbaae34ab15abbc4f"), looks := true }, kinds := [], alts := [], laidByText := true, laidKinds := [.data, .data, .data], laidTests := true, laidLooks := .later }
def FnExactParseLockCardSaid : Prop := Claim7.holds Tryz.pinned (.plain (OpenSpec.ofChange fnExactParseLockSpec)) fnExactParseLockCard

/-- THE SECOND FORM's CARD OF 'laws.FnLocks'. -/
def fnLocksUptoCard : Claim7 := { stood := { row := fnLocksUptoRow, standIns := [], harness := (true, "4dbc444df7c4f7a85626b640c14d9af2472e54b867003d8dbaae34ab15abbc4f"), looks := true }, kinds := [], alts := [], laidByText := true, laidKinds := [.data, .data, .data], laidTests := true, laidLooks := .later }
def FnLocksUptoCardSaid : Prop := Claim7.holds Tryz.pinned (.plain (OpenSpec.upto fnLocksSpec)) fnLocksUptoCard

/-- THE SECOND FORM's CARD OF 'laws.FnExactParseLock'. -/
def fnExactParseLockUptoCard : Claim7 := { stood := { row := fnExactParseLockUptoRow, standIns := [], harness := (true, "4dbc444df7c4f7a85626b640c14d9af2472e54b867003d8dbaae34ab15abbc4f"), looks := true }, kinds := [], alts := [], laidByText := true, laidKinds := [.data, .data, .data], laidTests := true, laidLooks := .later }
def FnExactParseLockUptoCardSaid : Prop := Claim7.holds Tryz.pinned (.plain (OpenSpec.upto fnExactParseLockSpec)) fnExactParseLockUptoCard
end Rows
end Go.Proofs.YtbopliahafkecaaGreatDoor
