/-
  No cell of these rows narrows 'for every input' (looked for: loops, veiled, ifaces, maps, wideKeys, modest, calm, conditions, laid).
  DERIVED. THE GIVEN ROWS OF THIS SEAT. 5 by the template 'for every input the law returns true; each argument reads behind the call as it read before'; 0 by the template 'total and deterministic' (their statements: YtbpgdagmffbagakTotals.lean).
  GIVEN WITH THE SEED: the statements are not yours to turn. If you find one false, say at which input.
  Laid BY PROGRAM, IN A SANDBOX (cutbox-rows.mjs): the forced cells as the released guide's own fill.sh prints them over the translation 9ac961a23dcf63ed… (all of the seat's roots in one cut). By AI agents, Wed Nov 11 2026. No macro, syntax, notation, axiom, sorry.
-/
import Derived.Test.YtbpgdagmffbagakChecked
import GoSem.Claim
import GoSem.ClaimJoined
import GoSem.ClaimMapViews
import Derived.JoinedTies
import Derived.KernelRfl
namespace Go.Proofs.Ytbpgdagmffbagak
/- THE CELL 'sum', in the pinned program and in every row, IS THE sha256 OF THE DUMP (.gsa) THAT YtbpgdagmffbagakProg.lean LOADS. Nothing in Lean hashes anything: it is a label: what it is worth is what the hold of that sum in a sandbox is worth. -/
noncomputable def Try.pinned : Pinned := { name := "ytbpgdagmffbagak", sum := "9ac961a23dcf63edcbb75a1534d40b32f11a01d8783be026bf106db3fc625fa5", checked := Try.checked }
namespace Rows
def none {H : Type} : Left H := { results := [], args := [] }

/-- 'laws.FnExactVersionOk': WHATEVER THE INPUT: true; the input reads as it did. -/
def fnExactVersionOkSpec : ChangeSpec := { name := "fnExactVersionOk", fn := fun _ => fun
  | [d] => { results := [.lit (.bool true)], args := [d] }
  | _ => none }
def fnExactVersionOkRow : OpenClaim := { program := "ytbpgdagmffbagak", sum := "9ac961a23dcf63edcbb75a1534d40b32f11a01d8783be026bf106db3fc625fa5", func := "loop.example/g00233/laws.FnExactVersionOk", spec := "fnExactVersionOk", apart := false }
def FnExactVersionOkSaid : Prop := fnExactVersionOkRow.holds Try.pinned (OpenSpec.ofChange fnExactVersionOkSpec)

/-- ITS FALSE NEIGHBOUR: 'it returns false'. Refute it at one input. -/
def fnExactVersionOkWrong : ChangeSpec := { name := "fnExactVersionOk", fn := fun _ => fun
  | [d] => { results := [.lit (.bool false)], args := [d] }
  | _ => none }
def FnExactVersionOkWrongFalsely : Prop := fnExactVersionOkRow.holds Try.pinned (OpenSpec.ofChange fnExactVersionOkWrong)

/-- 'laws.FnExactParseVersion': WHATEVER THE INPUT: true; the input reads as it did. -/
def fnExactParseVersionSpec : ChangeSpec := { name := "fnExactParseVersion", fn := fun _ => fun
  | [d] => { results := [.lit (.bool true)], args := [d] }
  | _ => none }
def fnExactParseVersionRow : OpenClaim := { program := "ytbpgdagmffbagak", sum := "9ac961a23dcf63edcbb75a1534d40b32f11a01d8783be026bf106db3fc625fa5", func := "loop.example/g00233/laws.FnExactParseVersion", spec := "fnExactParseVersion", inPlace := ["internal/bytealg.IndexByteString", "internal/bytealg.IndexString"], recurses := true, named := ["internal/bytealg.MaxLen"], apart := false }
def FnExactParseVersionSaid : Prop := fnExactParseVersionRow.holds Try.pinned (OpenSpec.ofChange fnExactParseVersionSpec)

/-- ITS FALSE NEIGHBOUR: 'it returns false'. Refute it at one input. -/
def fnExactParseVersionWrong : ChangeSpec := { name := "fnExactParseVersion", fn := fun _ => fun
  | [d] => { results := [.lit (.bool false)], args := [d] }
  | _ => none }
def FnExactParseVersionWrongFalsely : Prop := fnExactParseVersionRow.holds Try.pinned (OpenSpec.ofChange fnExactParseVersionWrong)

/-- 'laws.FnExactLessVersion': WHATEVER THE INPUT: true; the input reads as it did. -/
def fnExactLessVersionSpec : ChangeSpec := { name := "fnExactLessVersion", fn := fun _ => fun
  | [d1, d2] => { results := [.lit (.bool true)], args := [d1, d2] }
  | _ => none }
def fnExactLessVersionRow : OpenClaim := { program := "ytbpgdagmffbagak", sum := "9ac961a23dcf63edcbb75a1534d40b32f11a01d8783be026bf106db3fc625fa5", func := "loop.example/g00233/laws.FnExactLessVersion", spec := "fnExactLessVersion", unfollowed := true, recurses := true, apart := false }
def FnExactLessVersionSaid : Prop := fnExactLessVersionRow.holds Try.pinned (OpenSpec.ofChange fnExactLessVersionSpec)

/-- ITS FALSE NEIGHBOUR: 'it returns false'. Refute it at one input. -/
def fnExactLessVersionWrong : ChangeSpec := { name := "fnExactLessVersion", fn := fun _ => fun
  | [d1, d2] => { results := [.lit (.bool false)], args := [d1, d2] }
  | _ => none }
def FnExactLessVersionWrongFalsely : Prop := fnExactLessVersionRow.holds Try.pinned (OpenSpec.ofChange fnExactLessVersionWrong)

/-- 'laws.FnExactLatest': WHATEVER THE INPUT: true; the input reads as it did. -/
def fnExactLatestSpec : ChangeSpec := { name := "fnExactLatest", fn := fun _ => fun
  | [d] => { results := [.lit (.bool true)], args := [d] }
  | _ => none }
def fnExactLatestRow : OpenClaim := { program := "ytbpgdagmffbagak", sum := "9ac961a23dcf63edcbb75a1534d40b32f11a01d8783be026bf106db3fc625fa5", func := "loop.example/g00233/laws.FnExactLatest", spec := "fnExactLatest", unfollowed := true, recurses := true, apart := false }
def FnExactLatestSaid : Prop := fnExactLatestRow.holds Try.pinned (OpenSpec.ofChange fnExactLatestSpec)

/-- ITS FALSE NEIGHBOUR: 'it returns false'. Refute it at one input. -/
def fnExactLatestWrong : ChangeSpec := { name := "fnExactLatest", fn := fun _ => fun
  | [d] => { results := [.lit (.bool false)], args := [d] }
  | _ => none }
def FnExactLatestWrongFalsely : Prop := fnExactLatestRow.holds Try.pinned (OpenSpec.ofChange fnExactLatestWrong)

/-- 'laws.FnExactBump': WHATEVER THE INPUT: true; the input reads as it did. -/
def fnExactBumpSpec : ChangeSpec := { name := "fnExactBump", fn := fun _ => fun
  | [d1, d2] => { results := [.lit (.bool true)], args := [d1, d2] }
  | _ => none }
def fnExactBumpRow : OpenClaim := { program := "ytbpgdagmffbagak", sum := "9ac961a23dcf63edcbb75a1534d40b32f11a01d8783be026bf106db3fc625fa5", func := "loop.example/g00233/laws.FnExactBump", spec := "fnExactBump", apart := false }
def FnExactBumpSaid : Prop := fnExactBumpRow.holds Try.pinned (OpenSpec.ofChange fnExactBumpSpec)

/-- ITS FALSE NEIGHBOUR: 'it returns false'. Refute it at one input. -/
def fnExactBumpWrong : ChangeSpec := { name := "fnExactBump", fn := fun _ => fun
  | [d1, d2] => { results := [.lit (.bool false)], args := [d1, d2] }
  | _ => none }
def FnExactBumpWrongFalsely : Prop := fnExactBumpRow.holds Try.pinned (OpenSpec.ofChange fnExactBumpWrong)

/- THE SECOND FORM. 'bulk': how many values and letters a reading holds, each counted each time it is reached (what is shared counts as often as it is met; a slice's spare places count too). A statement '..UptoSaid' is the law's where the arguments, and the package variables that the reading takes, are together of bulk at most 1048576: NARROWER than '..Said'. Prove '..Said' where nothing that the law and all that it calls make is longer than what came in: it says more and counts as full. Else prove '..UptoSaid'. A law counts once. -/
mutual
def uptoBulk {H : Type} : DataW H → Nat
  | .lit (.string bytes) => bytes.length + 1
  | .lit _ => 1
  | .nil => 1
  | .ptr d => uptoBulk d + 1
  | .slice elems spare => uptoBulkAll elems + uptoBulkAll spare + 1
  | .agg parts => uptoBulkAll parts + 1
  | .iface _ d => uptoBulk d + 1
  | .map entries => uptoBulkEntries entries + 1
  | .held _ => 1
def uptoBulkAll {H : Type} : List (DataW H) → Nat
  | [] => 0
  | d :: r => uptoBulk d + uptoBulkAll r
def uptoBulkEntries {H : Type} : List (Lit × DataW H) → Nat
  | [] => 0
  | x :: r => uptoBulkEntry x + uptoBulkEntries r
def uptoBulkEntry {H : Type} : Lit × DataW H → Nat
  | (.string bytes, d) => bytes.length + uptoBulk d + 1
  | (_, d) => uptoBulk d + 1
 end
def uptoSmall : (H : Type) → List (DataW H) → Bool := fun _ ds => decide (uptoBulkAll ds ≤ 1048576)
def OpenSpec.upto (s : _root_.Go.ChangeSpec) : _root_.Go.OpenSpec := { _root_.Go.OpenSpec.ofChange s with cond := some uptoSmall }

/-- 'laws.FnExactVersionOk', WHERE WHAT IT READS IS OF BULK AT MOST 1048576: true; the input reads as it did. -/
def fnExactVersionOkUptoRow : OpenClaim := { program := "ytbpgdagmffbagak", sum := "9ac961a23dcf63edcbb75a1534d40b32f11a01d8783be026bf106db3fc625fa5", func := "loop.example/g00233/laws.FnExactVersionOk", spec := "fnExactVersionOk", apart := false, narrowed := true }
def FnExactVersionOkUptoSaid : Prop := fnExactVersionOkUptoRow.holds Try.pinned (OpenSpec.upto fnExactVersionOkSpec)

/-- 'laws.FnExactParseVersion', WHERE WHAT IT READS IS OF BULK AT MOST 1048576: true; the input reads as it did. -/
def fnExactParseVersionUptoRow : OpenClaim := { program := "ytbpgdagmffbagak", sum := "9ac961a23dcf63edcbb75a1534d40b32f11a01d8783be026bf106db3fc625fa5", func := "loop.example/g00233/laws.FnExactParseVersion", spec := "fnExactParseVersion", inPlace := ["internal/bytealg.IndexByteString", "internal/bytealg.IndexString"], recurses := true, named := ["internal/bytealg.MaxLen"], apart := false, narrowed := true }
def FnExactParseVersionUptoSaid : Prop := fnExactParseVersionUptoRow.holds Try.pinned (OpenSpec.upto fnExactParseVersionSpec)

/-- 'laws.FnExactLessVersion', WHERE WHAT IT READS IS OF BULK AT MOST 1048576: true; the input reads as it did. -/
def fnExactLessVersionUptoRow : OpenClaim := { program := "ytbpgdagmffbagak", sum := "9ac961a23dcf63edcbb75a1534d40b32f11a01d8783be026bf106db3fc625fa5", func := "loop.example/g00233/laws.FnExactLessVersion", spec := "fnExactLessVersion", unfollowed := true, recurses := true, apart := false, narrowed := true }
def FnExactLessVersionUptoSaid : Prop := fnExactLessVersionUptoRow.holds Try.pinned (OpenSpec.upto fnExactLessVersionSpec)

/-- 'laws.FnExactLatest', WHERE WHAT IT READS IS OF BULK AT MOST 1048576: true; the input reads as it did. -/
def fnExactLatestUptoRow : OpenClaim := { program := "ytbpgdagmffbagak", sum := "9ac961a23dcf63edcbb75a1534d40b32f11a01d8783be026bf106db3fc625fa5", func := "loop.example/g00233/laws.FnExactLatest", spec := "fnExactLatest", unfollowed := true, recurses := true, apart := false, narrowed := true }
def FnExactLatestUptoSaid : Prop := fnExactLatestUptoRow.holds Try.pinned (OpenSpec.upto fnExactLatestSpec)

/-- 'laws.FnExactBump', WHERE WHAT IT READS IS OF BULK AT MOST 1048576: true; the input reads as it did. -/
def fnExactBumpUptoRow : OpenClaim := { program := "ytbpgdagmffbagak", sum := "9ac961a23dcf63edcbb75a1534d40b32f11a01d8783be026bf106db3fc625fa5", func := "loop.example/g00233/laws.FnExactBump", spec := "fnExactBump", apart := false, narrowed := true }
def FnExactBumpUptoSaid : Prop := fnExactBumpUptoRow.holds Try.pinned (OpenSpec.upto fnExactBumpSpec)

end Rows
end Go.Proofs.Ytbpgdagmffbagak
