/-
  DERIVED. GIVEN WITH THE SEED: THE CARDS: each row of YtkdlgbccaaehaaaDoorRows.lean that lists a variable, with what it lists TIED to the program's text (the seventh form; the later family's looks); each row that meets fmt, with fmt's text TOLD by the authors' own Lean function (tested against real Go, not proved from fmt's source: count such statements apart). THE CARD IS WHAT COUNTS. Prove the row's statement (the work); the ties are given (YtkdlgbccaaehaaaDoorTie.lean); close each card by the builder's one call (the guide's Derived/Test/ToyasCard.lean, 'card_holds'). Laid BY PROGRAM, IN A SANDBOX (cutbox-door.mjs). By AI agents, Wed Nov 11 2026. No macro, syntax, notation, axiom, sorry.
-/
import Derived.Test.YtkdlgbccaaehaaaDoorRows
import GoSem.ClaimSeven
namespace Go.Proofs.YtkdlgbccaaehaaaDoor
namespace Rows

/-- THE TIED CARD OF 'laws.FnEdges'. -/
def fnEdgesCard : Claim7 := { stood := { row := fnEdgesRow, standIns := [], harness := (true, "a4987ab1b5b446c69817b91a77c222362dd3ea885f3798c2f6a7f2bcff578401"), looks := false }, kinds := [], alts := [], laidByText := true, laidKinds := [.data, .data], laidTests := true, laidLooks := .later }
def FnEdgesCardSaid : Prop := Claim7.holds Tryd.pinned (.plain (OpenSpec.ofChange fnEdgesSpec)) fnEdgesCard

/-- THE TIED CARD OF 'laws.FnEdgesRight'. -/
def fnEdgesRightCard : Claim7 := { stood := { row := fnEdgesRightRow, standIns := [], harness := (true, "a4987ab1b5b446c69817b91a77c222362dd3ea885f3798c2f6a7f2bcff578401"), looks := false }, kinds := [], alts := [], laidByText := true, laidKinds := [.data, .data], laidTests := true, laidLooks := .later }
def FnEdgesRightCardSaid : Prop := Claim7.holds Tryd.pinned (.plain (OpenSpec.ofChange fnEdgesRightSpec)) fnEdgesRightCard

/-- THE TIED CARD OF 'laws.FnExactEdgeOf'. -/
def fnExactEdgeOfCard : Claim7 := { stood := { row := fnExactEdgeOfRow, standIns := [], harness := (true, "a4987ab1b5b446c69817b91a77c222362dd3ea885f3798c2f6a7f2bcff578401"), looks := false }, kinds := [], alts := [], laidByText := true, laidKinds := [.data, .data], laidTests := true, laidLooks := .later }
def FnExactEdgeOfCardSaid : Prop := Claim7.holds Tryd.pinned (.plain (OpenSpec.ofChange fnExactEdgeOfSpec)) fnExactEdgeOfCard

/-- THE TIED CARD OF 'laws.FnExactEdgeAdd'. -/
def fnExactEdgeAddCard : Claim7 := { stood := { row := fnExactEdgeAddRow, standIns := [], harness := (true, "a4987ab1b5b446c69817b91a77c222362dd3ea885f3798c2f6a7f2bcff578401"), looks := false }, kinds := [], alts := [], laidByText := true, laidKinds := [.data, .data], laidTests := true, laidLooks := .later }
def FnExactEdgeAddCardSaid : Prop := Claim7.holds Tryd.pinned (.plain (OpenSpec.ofChange fnExactEdgeAddSpec)) fnExactEdgeAddCard

/-- THE TIED CARD OF 'laws.FnExactEdgeRoot'. -/
def fnExactEdgeRootCard : Claim7 := { stood := { row := fnExactEdgeRootRow, standIns := [], harness := (true, "a4987ab1b5b446c69817b91a77c222362dd3ea885f3798c2f6a7f2bcff578401"), looks := false }, kinds := [], alts := [], laidByText := true, laidKinds := [.data, .data], laidTests := true, laidLooks := .later }
def FnExactEdgeRootCardSaid : Prop := Claim7.holds Tryd.pinned (.plain (OpenSpec.ofChange fnExactEdgeRootSpec)) fnExactEdgeRootCard

/-- THE SECOND FORM's CARD OF 'laws.FnEdges'. -/
def fnEdgesUptoCard : Claim7 := { stood := { row := fnEdgesUptoRow, standIns := [], harness := (true, "a4987ab1b5b446c69817b91a77c222362dd3ea885f3798c2f6a7f2bcff578401"), looks := false }, kinds := [], alts := [], laidByText := true, laidKinds := [.data, .data], laidTests := true, laidLooks := .later }
def FnEdgesUptoCardSaid : Prop := Claim7.holds Tryd.pinned (.plain (OpenSpec.upto fnEdgesSpec)) fnEdgesUptoCard

/-- THE SECOND FORM's CARD OF 'laws.FnEdgesRight'. -/
def fnEdgesRightUptoCard : Claim7 := { stood := { row := fnEdgesRightUptoRow, standIns := [], harness := (true, "a4987ab1b5b446c69817b91a77c222362dd3ea885f3798c2f6a7f2bcff578401"), looks := false }, kinds := [], alts := [], laidByText := true, laidKinds := [.data, .data], laidTests := true, laidLooks := .later }
def FnEdgesRightUptoCardSaid : Prop := Claim7.holds Tryd.pinned (.plain (OpenSpec.upto fnEdgesRightSpec)) fnEdgesRightUptoCard

/-- THE SECOND FORM's CARD OF 'laws.FnExactEdgeOf'. -/
def fnExactEdgeOfUptoCard : Claim7 := { stood := { row := fnExactEdgeOfUptoRow, standIns := [], harness := (true, "a4987ab1b5b446c69817b91a77c222362dd3ea885f3798c2f6a7f2bcff578401"), looks := false }, kinds := [], alts := [], laidByText := true, laidKinds := [.data, .data], laidTests := true, laidLooks := .later }
def FnExactEdgeOfUptoCardSaid : Prop := Claim7.holds Tryd.pinned (.plain (OpenSpec.upto fnExactEdgeOfSpec)) fnExactEdgeOfUptoCard

/-- THE SECOND FORM's CARD OF 'laws.FnExactEdgeAdd'. -/
def fnExactEdgeAddUptoCard : Claim7 := { stood := { row := fnExactEdgeAddUptoRow, standIns := [], harness := (true, "a4987ab1b5b446c69817b91a77c222362dd3ea885f3798c2f6a7f2bcff578401"), looks := false }, kinds := [], alts := [], laidByText := true, laidKinds := [.data, .data], laidTests := true, laidLooks := .later }
def FnExactEdgeAddUptoCardSaid : Prop := Claim7.holds Tryd.pinned (.plain (OpenSpec.upto fnExactEdgeAddSpec)) fnExactEdgeAddUptoCard

/-- THE SECOND FORM's CARD OF 'laws.FnExactEdgeRoot'. -/
def fnExactEdgeRootUptoCard : Claim7 := { stood := { row := fnExactEdgeRootUptoRow, standIns := [], harness := (true, "a4987ab1b5b446c69817b91a77c222362dd3ea885f3798c2f6a7f2bcff578401"), looks := false }, kinds := [], alts := [], laidByText := true, laidKinds := [.data, .data], laidTests := true, laidLooks := .later }
def FnExactEdgeRootUptoCardSaid : Prop := Claim7.holds Tryd.pinned (.plain (OpenSpec.upto fnExactEdgeRootSpec)) fnExactEdgeRootUptoCard
end Rows
end Go.Proofs.YtkdlgbccaaehaaaDoor
