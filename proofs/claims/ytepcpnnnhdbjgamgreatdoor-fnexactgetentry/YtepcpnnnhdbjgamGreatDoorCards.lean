/-
  DERIVED. GIVEN WITH THE SEED: THE CARDS: each row of YtepcpnnnhdbjgamGreatDoorRows.lean that lists a variable, with what it lists TIED to the program's text (the seventh form; the later family's looks); each row that meets fmt, with fmt's text TOLD by the authors' own Lean function (tested against real Go, not proved from fmt's source: count such statements apart). THE CARD IS WHAT COUNTS. Prove the row's statement (the work); the ties are given (YtepcpnnnhdbjgamGreatDoorTie.lean); close each card by the builder's one call (the guide's Derived/Test/ToyasCard.lean, 'card_holds'). Laid BY PROGRAM, IN A SANDBOX (cutbox-door.mjs). By AI agents, Wed Nov 11 2026. No macro, syntax, notation, axiom, sorry.
-/
import Derived.Test.YtepcpnnnhdbjgamGreatDoorRows
import GoSem.ClaimSeven
namespace Go.Proofs.YtepcpnnnhdbjgamGreatDoor
namespace Rows

/-- THE TIED CARD OF 'laws.FnExactPutEntry'. -/
def fnExactPutEntryCard : Claim7 := { stood := { row := fnExactPutEntryRow, standIns := [], harness := (true, "e9f6f1e96af8e956a67c41391851dac8183e0bbcf133add1dbed1e0b70470db7"), looks := true }, kinds := [], alts := [], laidByText := true, laidKinds := [.data, .data, .data, .handle], laidTests := true, laidLooks := .later }
def FnExactPutEntryCardSaid : Prop := Claim7.holds Tryz.pinned (.plain (OpenSpec.ofChange fnExactPutEntrySpec)) fnExactPutEntryCard

/-- THE TIED CARD OF 'laws.FnExactGetEntry'. -/
def fnExactGetEntryCard : Claim7 := { stood := { row := fnExactGetEntryRow, standIns := [], harness := (true, "e9f6f1e96af8e956a67c41391851dac8183e0bbcf133add1dbed1e0b70470db7"), looks := true }, kinds := [], alts := [], laidByText := true, laidKinds := [.handle], laidTests := true, laidLooks := .later }
def FnExactGetEntryCardSaid : Prop := Claim7.holds Tryz.pinned (.plain (OpenSpec.ofChange fnExactGetEntrySpec)) fnExactGetEntryCard

/-- THE SECOND FORM's CARD OF 'laws.FnExactPutEntry'. -/
def fnExactPutEntryUptoCard : Claim7 := { stood := { row := fnExactPutEntryUptoRow, standIns := [], harness := (true, "e9f6f1e96af8e956a67c41391851dac8183e0bbcf133add1dbed1e0b70470db7"), looks := true }, kinds := [], alts := [], laidByText := true, laidKinds := [.data, .data, .data, .handle], laidTests := true, laidLooks := .later }
def FnExactPutEntryUptoCardSaid : Prop := Claim7.holds Tryz.pinned (.plain (OpenSpec.upto fnExactPutEntrySpec)) fnExactPutEntryUptoCard

/-- THE SECOND FORM's CARD OF 'laws.FnExactGetEntry'. -/
def fnExactGetEntryUptoCard : Claim7 := { stood := { row := fnExactGetEntryUptoRow, standIns := [], harness := (true, "e9f6f1e96af8e956a67c41391851dac8183e0bbcf133add1dbed1e0b70470db7"), looks := true }, kinds := [], alts := [], laidByText := true, laidKinds := [.handle], laidTests := true, laidLooks := .later }
def FnExactGetEntryUptoCardSaid : Prop := Claim7.holds Tryz.pinned (.plain (OpenSpec.upto fnExactGetEntrySpec)) fnExactGetEntryUptoCard
end Rows
end Go.Proofs.YtepcpnnnhdbjgamGreatDoor
