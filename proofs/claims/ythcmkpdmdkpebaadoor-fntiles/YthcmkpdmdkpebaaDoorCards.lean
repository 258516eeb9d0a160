/-
  DERIVED. GIVEN WITH THE SEED: THE CARDS: each row of YthcmkpdmdkpebaaDoorRows.lean that lists a variable, with what it lists TIED to the program's text (the seventh form; the later family's looks); each row that meets fmt, with fmt's text TOLD by the authors' own Lean function (tested against real Go, not proved from fmt's source: count such statements apart). THE CARD IS WHAT COUNTS. Prove the row's statement (the work); the ties are given (YthcmkpdmdkpebaaDoorTie.lean); close each card by the builder's one call (the guide's Derived/Test/ToyasCard.lean, 'card_holds'). Laid BY PROGRAM, IN A SANDBOX (cutbox-door.mjs). By AI agents, Wed Nov 11 2026. No macro, syntax, notation, axiom, sorry.
-/
import Derived.Test.YthcmkpdmdkpebaaDoorRows
import GoSem.ClaimSeven
namespace Go.Proofs.YthcmkpdmdkpebaaDoor
namespace Rows

/-- THE TIED CARD OF 'laws.FnTiles'. -/
def fnTilesCard : Claim7 := { stood := { row := fnTilesRow, standIns := [], harness := (true, "e1e3feecf6100d51c3e157ccdf1a3ba758c7a49b572cf2c6e2640a4bc81e361a"), looks := false }, kinds := [], alts := [], laidByText := true, laidKinds := [.data, .data], laidTests := true, laidLooks := .later }
def FnTilesCardSaid : Prop := Claim7.holds Tryd.pinned (.plain (OpenSpec.ofChange fnTilesSpec)) fnTilesCard

/-- THE TIED CARD OF 'laws.FnExactTileOf'. -/
def fnExactTileOfCard : Claim7 := { stood := { row := fnExactTileOfRow, standIns := [], harness := (true, "e1e3feecf6100d51c3e157ccdf1a3ba758c7a49b572cf2c6e2640a4bc81e361a"), looks := false }, kinds := [], alts := [], laidByText := true, laidKinds := [.data, .data], laidTests := true, laidLooks := .later }
def FnExactTileOfCardSaid : Prop := Claim7.holds Tryd.pinned (.plain (OpenSpec.ofChange fnExactTileOfSpec)) fnExactTileOfCard

/-- THE TIED CARD OF 'laws.FnExactTileRoot'. -/
def fnExactTileRootCard : Claim7 := { stood := { row := fnExactTileRootRow, standIns := [], harness := (true, "e1e3feecf6100d51c3e157ccdf1a3ba758c7a49b572cf2c6e2640a4bc81e361a"), looks := false }, kinds := [], alts := [], laidByText := true, laidKinds := [.data, .data], laidTests := true, laidLooks := .later }
def FnExactTileRootCardSaid : Prop := Claim7.holds Tryd.pinned (.plain (OpenSpec.ofChange fnExactTileRootSpec)) fnExactTileRootCard

/-- THE SECOND FORM's CARD OF 'laws.FnTiles'. -/
def fnTilesUptoCard : Claim7 := { stood := { row := fnTilesUptoRow, standIns := [], harness := (true, "e1e3feecf6100d51c3e157ccdf1a3ba758c7a49b572cf2c6e2640a4bc81e361a"), looks := false }, kinds := [], alts := [], laidByText := true, laidKinds := [.data, .data], laidTests := true, laidLooks := .later }
def FnTilesUptoCardSaid : Prop := Claim7.holds Tryd.pinned (.plain (OpenSpec.upto fnTilesSpec)) fnTilesUptoCard

/-- THE SECOND FORM's CARD OF 'laws.FnExactTileOf'. -/
def fnExactTileOfUptoCard : Claim7 := { stood := { row := fnExactTileOfUptoRow, standIns := [], harness := (true, "e1e3feecf6100d51c3e157ccdf1a3ba758c7a49b572cf2c6e2640a4bc81e361a"), looks := false }, kinds := [], alts := [], laidByText := true, laidKinds := [.data, .data], laidTests := true, laidLooks := .later }
def FnExactTileOfUptoCardSaid : Prop := Claim7.holds Tryd.pinned (.plain (OpenSpec.upto fnExactTileOfSpec)) fnExactTileOfUptoCard

/-- THE SECOND FORM's CARD OF 'laws.FnExactTileRoot'. -/
def fnExactTileRootUptoCard : Claim7 := { stood := { row := fnExactTileRootUptoRow, standIns := [], harness := (true, "e1e3feecf6100d51c3e157ccdf1a3ba758c7a49b572cf2c6e2640a4bc81e361a"), looks := false }, kinds := [], alts := [], laidByText := true, laidKinds := [.data, .data], laidTests := true, laidLooks := .later }
def FnExactTileRootUptoCardSaid : Prop := Claim7.holds Tryd.pinned (.plain (OpenSpec.upto fnExactTileRootSpec)) fnExactTileRootUptoCard
end Rows
end Go.Proofs.YthcmkpdmdkpebaaDoor
