/-
  DERIVED. GIVEN WITH THE SEED: THE CARDS: each row of YtfpaichdkddglaaDoorRows.lean that lists a variable, with what it lists TIED to the program's text (the seventh form; the later family's looks); each row that meets fmt, with fmt's text TOLD by the authors' own Lean function (tested against real Go, not proved from fmt's source: count such statements apart). THE CARD IS WHAT COUNTS. Prove the row's statement (the work); the ties are given (YtfpaichdkddglaaDoorTie.lean); close each card by the builder's one call (the guide's Derived/Test/ToyasCard.lean, 'card_holds'). Laid BY PROGRAM, IN A SANDBOX (cutbox-door.mjs). By AI agents, Wed Nov 11 2026. No macro, syntax, notation, axiom, sorry.
-/
import Derived.Test.YtfpaichdkddglaaDoorRows
import GoSem.ClaimSeven
namespace Go.Proofs.YtfpaichdkddglaaDoor
namespace Rows

/-- THE TIED CARD OF 'laws.FnCommits'. -/
def fnCommitsCard : Claim7 := { stood := { row := fnCommitsRow, standIns := [], harness := (true, "f099c0709fa002792bce8f0a37d333c23569f48585b8cd497559d3f9676a0027"), looks := false }, kinds := [], alts := [], laidByText := true, laidKinds := [.data, .data, .sentinel], laidTests := true, laidLooks := .later }
def FnCommitsCardSaid : Prop := Claim7.holds Tryd.pinned (.plain (OpenSpec.ofChange fnCommitsSpec)) fnCommitsCard

/-- THE TIED CARD OF 'laws.FnExactPutCommit'. -/
def fnExactPutCommitCard : Claim7 := { stood := { row := fnExactPutCommitRow, standIns := [], harness := (true, "f099c0709fa002792bce8f0a37d333c23569f48585b8cd497559d3f9676a0027"), looks := false }, kinds := [], alts := [], laidByText := true, laidKinds := [.data, .data], laidTests := true, laidLooks := .later }
def FnExactPutCommitCardSaid : Prop := Claim7.holds Tryd.pinned (.plain (OpenSpec.ofChange fnExactPutCommitSpec)) fnExactPutCommitCard

/-- THE TIED CARD OF 'laws.FnExactGetCommit'. -/
def fnExactGetCommitCard : Claim7 := { stood := { row := fnExactGetCommitRow, standIns := [], harness := (true, "f099c0709fa002792bce8f0a37d333c23569f48585b8cd497559d3f9676a0027"), looks := false }, kinds := [], alts := [], laidByText := true, laidKinds := [.data, .data, .sentinel], laidTests := true, laidLooks := .later }
def FnExactGetCommitCardSaid : Prop := Claim7.holds Tryd.pinned (.plain (OpenSpec.ofChange fnExactGetCommitSpec)) fnExactGetCommitCard

/-- THE SECOND FORM's CARD OF 'laws.FnCommits'. -/
def fnCommitsUptoCard : Claim7 := { stood := { row := fnCommitsUptoRow, standIns := [], harness := (true, "f099c0709fa002792bce8f0a37d333c23569f48585b8cd497559d3f9676a0027"), looks := false }, kinds := [], alts := [], laidByText := true, laidKinds := [.data, .data, .sentinel], laidTests := true, laidLooks := .later }
def FnCommitsUptoCardSaid : Prop := Claim7.holds Tryd.pinned (.plain (OpenSpec.upto fnCommitsSpec)) fnCommitsUptoCard

/-- THE SECOND FORM's CARD OF 'laws.FnExactPutCommit'. -/
def fnExactPutCommitUptoCard : Claim7 := { stood := { row := fnExactPutCommitUptoRow, standIns := [], harness := (true, "f099c0709fa002792bce8f0a37d333c23569f48585b8cd497559d3f9676a0027"), looks := false }, kinds := [], alts := [], laidByText := true, laidKinds := [.data, .data], laidTests := true, laidLooks := .later }
def FnExactPutCommitUptoCardSaid : Prop := Claim7.holds Tryd.pinned (.plain (OpenSpec.upto fnExactPutCommitSpec)) fnExactPutCommitUptoCard

/-- THE SECOND FORM's CARD OF 'laws.FnExactGetCommit'. -/
def fnExactGetCommitUptoCard : Claim7 := { stood := { row := fnExactGetCommitUptoRow, standIns := [], harness := (true, "f099c0709fa002792bce8f0a37d333c23569f48585b8cd497559d3f9676a0027"), looks := false }, kinds := [], alts := [], laidByText := true, laidKinds := [.data, .data, .sentinel], laidTests := true, laidLooks := .later }
def FnExactGetCommitUptoCardSaid : Prop := Claim7.holds Tryd.pinned (.plain (OpenSpec.upto fnExactGetCommitSpec)) fnExactGetCommitUptoCard
end Rows
end Go.Proofs.YtfpaichdkddglaaDoor
