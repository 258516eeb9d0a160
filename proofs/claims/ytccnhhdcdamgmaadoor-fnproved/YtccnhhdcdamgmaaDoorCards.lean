/-
  DERIVED. GIVEN WITH THE SEED: THE CARDS: each row of YtccnhhdcdamgmaaDoorRows.lean that lists a variable, with what it lists TIED to the program's text (the seventh form; the later family's looks); each row that meets fmt, with fmt's text TOLD by the authors' own Lean function (tested against real Go, not proved from fmt's source: count such statements apart). THE CARD IS WHAT COUNTS. Prove the row's statement (the work); the ties are given (YtccnhhdcdamgmaaDoorTie.lean); close each card by the builder's one call (the guide's Derived/Test/ToyasCard.lean, 'card_holds'). Laid BY PROGRAM, IN A SANDBOX (cutbox-door.mjs). By AI agents, Wed Nov 11 2026. No macro, syntax, notation, axiom, sorry.
-/
import Derived.Test.YtccnhhdcdamgmaaDoorRows
import GoSem.ClaimSeven
namespace Go.Proofs.YtccnhhdcdamgmaaDoor
namespace Rows

/-- THE TIED CARD OF 'laws.FnExtended'. -/
def fnExtendedCard : Claim7 := { stood := { row := fnExtendedRow, standIns := [], harness := (true, "a21d37a3c272a193aa68cb6f3d668a1b88ad568e434c2c5f77737d4a411e3de6"), looks := true }, kinds := [], alts := [], laidByText := true, laidKinds := [.data, .data, .sentinel, .sentinel, .sentinel, .sentinel], laidTests := true, laidLooks := .later }
def FnExtendedCardSaid : Prop := Claim7.holds Tryd.pinned (.plain (OpenSpec.ofChange fnExtendedSpec)) fnExtendedCard

/-- THE TIED CARD OF 'laws.FnProved'. -/
def fnProvedCard : Claim7 := { stood := { row := fnProvedRow, standIns := [], harness := (true, "a21d37a3c272a193aa68cb6f3d668a1b88ad568e434c2c5f77737d4a411e3de6"), looks := true }, kinds := [], alts := [], laidByText := true, laidKinds := [.data, .data], laidTests := true, laidLooks := .later }
def FnProvedCardSaid : Prop := Claim7.holds Tryd.pinned (.plain (OpenSpec.ofChange fnProvedSpec)) fnProvedCard

/-- THE TIED CARD OF 'laws.FnExactLogNew'. -/
def fnExactLogNewCard : Claim7 := { stood := { row := fnExactLogNewRow, standIns := [], harness := (true, "a21d37a3c272a193aa68cb6f3d668a1b88ad568e434c2c5f77737d4a411e3de6"), looks := true }, kinds := [], alts := [], laidByText := true, laidKinds := [.data, .data], laidTests := true, laidLooks := .later }
def FnExactLogNewCardSaid : Prop := Claim7.holds Tryd.pinned (.plain (OpenSpec.ofChange fnExactLogNewSpec)) fnExactLogNewCard

/-- THE TIED CARD OF 'laws.FnExactLogOk'. -/
def fnExactLogOkCard : Claim7 := { stood := { row := fnExactLogOkRow, standIns := [], harness := (true, "a21d37a3c272a193aa68cb6f3d668a1b88ad568e434c2c5f77737d4a411e3de6"), looks := true }, kinds := [], alts := [], laidByText := true, laidKinds := [.data, .data], laidTests := true, laidLooks := .later }
def FnExactLogOkCardSaid : Prop := Claim7.holds Tryd.pinned (.plain (OpenSpec.ofChange fnExactLogOkSpec)) fnExactLogOkCard

/-- THE TIED CARD OF 'laws.FnExactExtend'. -/
def fnExactExtendCard : Claim7 := { stood := { row := fnExactExtendRow, standIns := [], harness := (true, "a21d37a3c272a193aa68cb6f3d668a1b88ad568e434c2c5f77737d4a411e3de6"), looks := true }, kinds := [], alts := [], laidByText := true, laidKinds := [.data, .data, .sentinel, .sentinel, .sentinel, .sentinel], laidTests := true, laidLooks := .later }
def FnExactExtendCardSaid : Prop := Claim7.holds Tryd.pinned (.plain (OpenSpec.ofChange fnExactExtendSpec)) fnExactExtendCard

/-- THE TIED CARD OF 'laws.FnExactProveIn'. -/
def fnExactProveInCard : Claim7 := { stood := { row := fnExactProveInRow, standIns := [], harness := (true, "a21d37a3c272a193aa68cb6f3d668a1b88ad568e434c2c5f77737d4a411e3de6"), looks := true }, kinds := [], alts := [], laidByText := true, laidKinds := [.data, .data], laidTests := true, laidLooks := .later }
def FnExactProveInCardSaid : Prop := Claim7.holds Tryd.pinned (.plain (OpenSpec.ofChange fnExactProveInSpec)) fnExactProveInCard

/-- THE SECOND FORM's CARD OF 'laws.FnExtended'. -/
def fnExtendedUptoCard : Claim7 := { stood := { row := fnExtendedUptoRow, standIns := [], harness := (true, "a21d37a3c272a193aa68cb6f3d668a1b88ad568e434c2c5f77737d4a411e3de6"), looks := true }, kinds := [], alts := [], laidByText := true, laidKinds := [.data, .data, .sentinel, .sentinel, .sentinel, .sentinel], laidTests := true, laidLooks := .later }
def FnExtendedUptoCardSaid : Prop := Claim7.holds Tryd.pinned (.plain (OpenSpec.upto fnExtendedSpec)) fnExtendedUptoCard

/-- THE SECOND FORM's CARD OF 'laws.FnProved'. -/
def fnProvedUptoCard : Claim7 := { stood := { row := fnProvedUptoRow, standIns := [], harness := (true, "a21d37a3c272a193aa68cb6f3d668a1b88ad568e434c2c5f77737d4a411e3de6"), looks := true }, kinds := [], alts := [], laidByText := true, laidKinds := [.data, .data], laidTests := true, laidLooks := .later }
def FnProvedUptoCardSaid : Prop := Claim7.holds Tryd.pinned (.plain (OpenSpec.upto fnProvedSpec)) fnProvedUptoCard

/-- THE SECOND FORM's CARD OF 'laws.FnExactLogNew'. -/
def fnExactLogNewUptoCard : Claim7 := { stood := { row := fnExactLogNewUptoRow, standIns := [], harness := (true, "a21d37a3c272a193aa68cb6f3d668a1b88ad568e434c2c5f77737d4a411e3de6"), looks := true }, kinds := [], alts := [], laidByText := true, laidKinds := [.data, .data], laidTests := true, laidLooks := .later }
def FnExactLogNewUptoCardSaid : Prop := Claim7.holds Tryd.pinned (.plain (OpenSpec.upto fnExactLogNewSpec)) fnExactLogNewUptoCard

/-- THE SECOND FORM's CARD OF 'laws.FnExactLogOk'. -/
def fnExactLogOkUptoCard : Claim7 := { stood := { row := fnExactLogOkUptoRow, standIns := [], harness := (true, "a21d37a3c272a193aa68cb6f3d668a1b88ad568e434c2c5f77737d4a411e3de6"), looks := true }, kinds := [], alts := [], laidByText := true, laidKinds := [.data, .data], laidTests := true, laidLooks := .later }
def FnExactLogOkUptoCardSaid : Prop := Claim7.holds Tryd.pinned (.plain (OpenSpec.upto fnExactLogOkSpec)) fnExactLogOkUptoCard

/-- THE SECOND FORM's CARD OF 'laws.FnExactExtend'. -/
def fnExactExtendUptoCard : Claim7 := { stood := { row := fnExactExtendUptoRow, standIns := [], harness := (true, "a21d37a3c272a193aa68cb6f3d668a1b88ad568e434c2c5f77737d4a411e3de6"), looks := true }, kinds := [], alts := [], laidByText := true, laidKinds := [.data, .data, .sentinel, .sentinel, .sentinel, .sentinel], laidTests := true, laidLooks := .later }
def FnExactExtendUptoCardSaid : Prop := Claim7.holds Tryd.pinned (.plain (OpenSpec.upto fnExactExtendSpec)) fnExactExtendUptoCard

/-- THE SECOND FORM's CARD OF 'laws.FnExactProveIn'. -/
def fnExactProveInUptoCard : Claim7 := { stood := { row := fnExactProveInUptoRow, standIns := [], harness := (true, "a21d37a3c272a193aa68cb6f3d668a1b88ad568e434c2c5f77737d4a411e3de6"), looks := true }, kinds := [], alts := [], laidByText := true, laidKinds := [.data, .data], laidTests := true, laidLooks := .later }
def FnExactProveInUptoCardSaid : Prop := Claim7.holds Tryd.pinned (.plain (OpenSpec.upto fnExactProveInSpec)) fnExactProveInUptoCard
end Rows
end Go.Proofs.YtccnhhdcdamgmaaDoor
