/-
  DERIVED. GIVEN WITH THE SEED: THE CARDS: each row of YthbonifpdpknnabDoorRows.lean that lists a variable, with what it lists TIED to the program's text (the seventh form; the later family's looks); each row that meets fmt, with fmt's text TOLD by the authors' own Lean function (tested against real Go, not proved from fmt's source: count such statements apart). THE CARD IS WHAT COUNTS. Prove the row's statement (the work); the ties are given (YthbonifpdpknnabDoorTie.lean); close each card by the builder's one call (the guide's Derived/Test/ToyasCard.lean, 'card_holds'). Laid BY PROGRAM, IN A SANDBOX (cutbox-door.mjs). By AI agents, Wed Nov 11 2026. No macro, syntax, notation, axiom, sorry.
-/
import Derived.Test.YthbonifpdpknnabDoorRows
import GoSem.ClaimSeven
namespace Go.Proofs.YthbonifpdpknnabDoor
namespace Rows

/-- THE TIED CARD OF 'laws.FnExactNodeHash'. -/
def fnExactNodeHashCard : Claim7 := { stood := { row := fnExactNodeHashRow, standIns := [], harness := (true, "87bfa51d599a01b74ef18e9f7bf1212d2fb1af490b2be52b0b6f0f8aff9a3bc3"), looks := false }, kinds := [], alts := [], laidByText := true, laidKinds := [.data, .data], laidTests := true, laidLooks := .later }
def FnExactNodeHashCardSaid : Prop := Claim7.holds Tryd.pinned (.plain (OpenSpec.ofChange fnExactNodeHashSpec)) fnExactNodeHashCard

/-- THE TIED CARD OF 'laws.FnExactRootOf'. -/
def fnExactRootOfCard : Claim7 := { stood := { row := fnExactRootOfRow, standIns := [], harness := (true, "87bfa51d599a01b74ef18e9f7bf1212d2fb1af490b2be52b0b6f0f8aff9a3bc3"), looks := false }, kinds := [], alts := [], laidByText := true, laidKinds := [.data, .data], laidTests := true, laidLooks := .later }
def FnExactRootOfCardSaid : Prop := Claim7.holds Tryd.pinned (.plain (OpenSpec.ofChange fnExactRootOfSpec)) fnExactRootOfCard

/-- THE TIED CARD OF 'laws.FnExactInPath'. -/
def fnExactInPathCard : Claim7 := { stood := { row := fnExactInPathRow, standIns := [], harness := (true, "87bfa51d599a01b74ef18e9f7bf1212d2fb1af490b2be52b0b6f0f8aff9a3bc3"), looks := false }, kinds := [], alts := [], laidByText := true, laidKinds := [.data, .data], laidTests := true, laidLooks := .later }
def FnExactInPathCardSaid : Prop := Claim7.holds Tryd.pinned (.plain (OpenSpec.ofChange fnExactInPathSpec)) fnExactInPathCard

/-- THE TIED CARD OF 'laws.FnExactCheckIn'. -/
def fnExactCheckInCard : Claim7 := { stood := { row := fnExactCheckInRow, standIns := [], harness := (true, "87bfa51d599a01b74ef18e9f7bf1212d2fb1af490b2be52b0b6f0f8aff9a3bc3"), looks := false }, kinds := [], alts := [], laidByText := true, laidKinds := [.data, .data], laidTests := true, laidLooks := .later }
def FnExactCheckInCardSaid : Prop := Claim7.holds Tryd.pinned (.plain (OpenSpec.ofChange fnExactCheckInSpec)) fnExactCheckInCard

/-- THE TIED CARD OF 'laws.FnExactGrowPath'. -/
def fnExactGrowPathCard : Claim7 := { stood := { row := fnExactGrowPathRow, standIns := [], harness := (true, "87bfa51d599a01b74ef18e9f7bf1212d2fb1af490b2be52b0b6f0f8aff9a3bc3"), looks := false }, kinds := [], alts := [], laidByText := true, laidKinds := [.data, .data], laidTests := true, laidLooks := .later }
def FnExactGrowPathCardSaid : Prop := Claim7.holds Tryd.pinned (.plain (OpenSpec.ofChange fnExactGrowPathSpec)) fnExactGrowPathCard

/-- THE TIED CARD OF 'laws.FnExactCheckGrow'. -/
def fnExactCheckGrowCard : Claim7 := { stood := { row := fnExactCheckGrowRow, standIns := [], harness := (true, "87bfa51d599a01b74ef18e9f7bf1212d2fb1af490b2be52b0b6f0f8aff9a3bc3"), looks := false }, kinds := [], alts := [], laidByText := true, laidKinds := [.data, .data], laidTests := true, laidLooks := .later }
def FnExactCheckGrowCardSaid : Prop := Claim7.holds Tryd.pinned (.plain (OpenSpec.ofChange fnExactCheckGrowSpec)) fnExactCheckGrowCard

/-- THE SECOND FORM's CARD OF 'laws.FnExactNodeHash'. -/
def fnExactNodeHashUptoCard : Claim7 := { stood := { row := fnExactNodeHashUptoRow, standIns := [], harness := (true, "87bfa51d599a01b74ef18e9f7bf1212d2fb1af490b2be52b0b6f0f8aff9a3bc3"), looks := false }, kinds := [], alts := [], laidByText := true, laidKinds := [.data, .data], laidTests := true, laidLooks := .later }
def FnExactNodeHashUptoCardSaid : Prop := Claim7.holds Tryd.pinned (.plain (OpenSpec.upto fnExactNodeHashSpec)) fnExactNodeHashUptoCard

/-- THE SECOND FORM's CARD OF 'laws.FnExactRootOf'. -/
def fnExactRootOfUptoCard : Claim7 := { stood := { row := fnExactRootOfUptoRow, standIns := [], harness := (true, "87bfa51d599a01b74ef18e9f7bf1212d2fb1af490b2be52b0b6f0f8aff9a3bc3"), looks := false }, kinds := [], alts := [], laidByText := true, laidKinds := [.data, .data], laidTests := true, laidLooks := .later }
def FnExactRootOfUptoCardSaid : Prop := Claim7.holds Tryd.pinned (.plain (OpenSpec.upto fnExactRootOfSpec)) fnExactRootOfUptoCard

/-- THE SECOND FORM's CARD OF 'laws.FnExactInPath'. -/
def fnExactInPathUptoCard : Claim7 := { stood := { row := fnExactInPathUptoRow, standIns := [], harness := (true, "87bfa51d599a01b74ef18e9f7bf1212d2fb1af490b2be52b0b6f0f8aff9a3bc3"), looks := false }, kinds := [], alts := [], laidByText := true, laidKinds := [.data, .data], laidTests := true, laidLooks := .later }
def FnExactInPathUptoCardSaid : Prop := Claim7.holds Tryd.pinned (.plain (OpenSpec.upto fnExactInPathSpec)) fnExactInPathUptoCard

/-- THE SECOND FORM's CARD OF 'laws.FnExactCheckIn'. -/
def fnExactCheckInUptoCard : Claim7 := { stood := { row := fnExactCheckInUptoRow, standIns := [], harness := (true, "87bfa51d599a01b74ef18e9f7bf1212d2fb1af490b2be52b0b6f0f8aff9a3bc3"), looks := false }, kinds := [], alts := [], laidByText := true, laidKinds := [.data, .data], laidTests := true, laidLooks := .later }
def FnExactCheckInUptoCardSaid : Prop := Claim7.holds Tryd.pinned (.plain (OpenSpec.upto fnExactCheckInSpec)) fnExactCheckInUptoCard

/-- THE SECOND FORM's CARD OF 'laws.FnExactGrowPath'. -/
def fnExactGrowPathUptoCard : Claim7 := { stood := { row := fnExactGrowPathUptoRow, standIns := [], harness := (true, "87bfa51d599a01b74ef18e9f7bf1212d2fb1af490b2be52b0b6f0f8aff9a3bc3"), looks := false }, kinds := [], alts := [], laidByText := true, laidKinds := [.data, .data], laidTests := true, laidLooks := .later }
def FnExactGrowPathUptoCardSaid : Prop := Claim7.holds Tryd.pinned (.plain (OpenSpec.upto fnExactGrowPathSpec)) fnExactGrowPathUptoCard

/-- THE SECOND FORM's CARD OF 'laws.FnExactCheckGrow'. -/
def fnExactCheckGrowUptoCard : Claim7 := { stood := { row := fnExactCheckGrowUptoRow, standIns := [], harness := (true, "87bfa51d599a01b74ef18e9f7bf1212d2fb1af490b2be52b0b6f0f8aff9a3bc3"), looks := false }, kinds := [], alts := [], laidByText := true, laidKinds := [.data, .data], laidTests := true, laidLooks := .later }
def FnExactCheckGrowUptoCardSaid : Prop := Claim7.holds Tryd.pinned (.plain (OpenSpec.upto fnExactCheckGrowSpec)) fnExactCheckGrowUptoCard
end Rows
end Go.Proofs.YthbonifpdpknnabDoor
