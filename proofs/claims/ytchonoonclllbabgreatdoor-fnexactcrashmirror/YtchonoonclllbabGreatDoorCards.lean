/-
  DERIVED. GIVEN WITH THE SEED: THE CARDS: each row of YtchonoonclllbabGreatDoorRows.lean that lists a variable, with what it lists TIED to the program's text (the seventh form; the later family's looks); each row that meets fmt, with fmt's text TOLD by the authors' own Lean function (tested against real Go, not proved from fmt's source: count such statements apart). THE CARD IS WHAT COUNTS. Prove the row's statement (the work); the ties are given (YtchonoonclllbabGreatDoorTie.lean); close each card by the builder's one call (the guide's Derived/Test/ToyasCard.lean, 'card_holds'). Laid BY PROGRAM, IN A SANDBOX (cutbox-door.mjs). By AI agents, Wed Nov 11 2026. No macro, syntax, notation, axiom, sorry.
-/
import Derived.Test.YtchonoonclllbabGreatDoorRows
import GoSem.ClaimSeven
namespace Go.Proofs.YtchonoonclllbabGreatDoor
namespace Rows

/-- THE TIED CARD OF 'laws.FnExactHear'. -/
def fnExactHearCard : Claim7 := { stood := { row := fnExactHearRow, standIns := [], harness := (true, "0a1fbf63d9b8177efa25ee6b21f7759825c83b3abaabd4be6dea7ef1fd6122c3"), looks := true }, kinds := [], alts := [], laidByText := true, laidKinds := [.data, .data, .sentinel, .sentinel, .sentinel, .sentinel, .sentinel], laidTests := true, laidLooks := .later }
def FnExactHearCardSaid : Prop := Claim7.holds Tryz.pinned (.plain (OpenSpec.ofChange fnExactHearSpec)) fnExactHearCard

/-- THE TIED CARD OF 'laws.FnExactGossip'. -/
def fnExactGossipCard : Claim7 := { stood := { row := fnExactGossipRow, standIns := [], harness := (true, "0a1fbf63d9b8177efa25ee6b21f7759825c83b3abaabd4be6dea7ef1fd6122c3"), looks := true }, kinds := [], alts := [], laidByText := true, laidKinds := [.data, .data, .sentinel], laidTests := true, laidLooks := .later }
def FnExactGossipCardSaid : Prop := Claim7.holds Tryz.pinned (.plain (OpenSpec.ofChange fnExactGossipSpec)) fnExactGossipCard

/-- THE TIED CARD OF 'laws.FnExactAskFor'. -/
def fnExactAskForCard : Claim7 := { stood := { row := fnExactAskForRow, standIns := [], harness := (true, "0a1fbf63d9b8177efa25ee6b21f7759825c83b3abaabd4be6dea7ef1fd6122c3"), looks := true }, kinds := [], alts := [], laidByText := true, laidKinds := [.data, .data, .sentinel], laidTests := true, laidLooks := .later }
def FnExactAskForCardSaid : Prop := Claim7.holds Tryz.pinned (.plain (OpenSpec.ofChange fnExactAskForSpec)) fnExactAskForCard

/-- THE TIED CARD OF 'laws.FnExactSyncMirror'. -/
def fnExactSyncMirrorCard : Claim7 := { stood := { row := fnExactSyncMirrorRow, standIns := [], harness := (true, "0a1fbf63d9b8177efa25ee6b21f7759825c83b3abaabd4be6dea7ef1fd6122c3"), looks := true }, kinds := [], alts := [], laidByText := true, laidKinds := [.data, .data, .sentinel], laidTests := true, laidLooks := .later }
def FnExactSyncMirrorCardSaid : Prop := Claim7.holds Tryz.pinned (.plain (OpenSpec.ofChange fnExactSyncMirrorSpec)) fnExactSyncMirrorCard

/-- THE TIED CARD OF 'laws.FnExactCrashMirror'. -/
def fnExactCrashMirrorCard : Claim7 := { stood := { row := fnExactCrashMirrorRow, standIns := [], harness := (true, "0a1fbf63d9b8177efa25ee6b21f7759825c83b3abaabd4be6dea7ef1fd6122c3"), looks := true }, kinds := [], alts := [], laidByText := true, laidKinds := [.data, .data, .sentinel, .sentinel, .sentinel, .sentinel, .sentinel], laidTests := true, laidLooks := .later }
def FnExactCrashMirrorCardSaid : Prop := Claim7.holds Tryz.pinned (.plain (OpenSpec.ofChange fnExactCrashMirrorSpec)) fnExactCrashMirrorCard

/-- THE SECOND FORM's CARD OF 'laws.FnExactHear'. -/
def fnExactHearUptoCard : Claim7 := { stood := { row := fnExactHearUptoRow, standIns := [], harness := (true, "0a1fbf63d9b8177efa25ee6b21f7759825c83b3abaabd4be6dea7ef1fd6122c3"), looks := true }, kinds := [], alts := [], laidByText := true, laidKinds := [.data, .data, .sentinel, .sentinel, .sentinel, .sentinel, .sentinel], laidTests := true, laidLooks := .later }
def FnExactHearUptoCardSaid : Prop := Claim7.holds Tryz.pinned (.plain (OpenSpec.upto fnExactHearSpec)) fnExactHearUptoCard

/-- THE SECOND FORM's CARD OF 'laws.FnExactGossip'. -/
def fnExactGossipUptoCard : Claim7 := { stood := { row := fnExactGossipUptoRow, standIns := [], harness := (true, "0a1fbf63d9b8177efa25ee6b21f7759825c83b3abaabd4be6dea7ef1fd6122c3"), looks := true }, kinds := [], alts := [], laidByText := true, laidKinds := [.data, .data, .sentinel], laidTests := true, laidLooks := .later }
def FnExactGossipUptoCardSaid : Prop := Claim7.holds Tryz.pinned (.plain (OpenSpec.upto fnExactGossipSpec)) fnExactGossipUptoCard

/-- THE SECOND FORM's CARD OF 'laws.FnExactAskFor'. -/
def fnExactAskForUptoCard : Claim7 := { stood := { row := fnExactAskForUptoRow, standIns := [], harness := (true, "0a1fbf63d9b8177efa25ee6b21f7759825c83b3abaabd4be6dea7ef1fd6122c3"), looks := true }, kinds := [], alts := [], laidByText := true, laidKinds := [.data, .data, .sentinel], laidTests := true, laidLooks := .later }
def FnExactAskForUptoCardSaid : Prop := Claim7.holds Tryz.pinned (.plain (OpenSpec.upto fnExactAskForSpec)) fnExactAskForUptoCard

/-- THE SECOND FORM's CARD OF 'laws.FnExactSyncMirror'. -/
def fnExactSyncMirrorUptoCard : Claim7 := { stood := { row := fnExactSyncMirrorUptoRow, standIns := [], harness := (true, "0a1fbf63d9b8177efa25ee6b21f7759825c83b3abaabd4be6dea7ef1fd6122c3"), looks := true }, kinds := [], alts := [], laidByText := true, laidKinds := [.data, .data, .sentinel], laidTests := true, laidLooks := .later }
def FnExactSyncMirrorUptoCardSaid : Prop := Claim7.holds Tryz.pinned (.plain (OpenSpec.upto fnExactSyncMirrorSpec)) fnExactSyncMirrorUptoCard

/-- THE SECOND FORM's CARD OF 'laws.FnExactCrashMirror'. -/
def fnExactCrashMirrorUptoCard : Claim7 := { stood := { row := fnExactCrashMirrorUptoRow, standIns := [], harness := (true, "0a1fbf63d9b8177efa25ee6b21f7759825c83b3abaabd4be6dea7ef1fd6122c3"), looks := true }, kinds := [], alts := [], laidByText := true, laidKinds := [.data, .data, .sentinel, .sentinel, .sentinel, .sentinel, .sentinel], laidTests := true, laidLooks := .later }
def FnExactCrashMirrorUptoCardSaid : Prop := Claim7.holds Tryz.pinned (.plain (OpenSpec.upto fnExactCrashMirrorSpec)) fnExactCrashMirrorUptoCard
end Rows
end Go.Proofs.YtchonoonclllbabGreatDoor
