/-
  No cell of these rows narrows 'for every input' (looked for: loops, veiled, ifaces, maps, wideKeys, modest, calm, conditions, laid).
  DERIVED. THE GIVEN ROWS OF THIS SEAT. 5 by the template 'for every input the law returns true; each argument reads behind the call as it read before'; 0 by the template 'total and deterministic' (their statements: YtanidhhcedinoaaTotals.lean).
  GIVEN WITH THE SEED: the statements are not yours to turn. If you find one false, say at which input.
  Laid BY PROGRAM, IN A SANDBOX (cutbox-rows.mjs): the forced cells as the released guide's own fill.sh prints them over the translation c7a17c6827f23938… (all of the seat's roots in one cut). By AI agents, Wed Nov 11 2026. No macro, syntax, notation, axiom, sorry.
-/
import Derived.Test.YtanidhhcedinoaaChecked
import GoSem.Claim
import GoSem.ClaimJoined
import GoSem.ClaimMapViews
import Derived.JoinedTies
import Derived.KernelRfl
namespace Go.Proofs.Ytanidhhcedinoaa
/- THE CELL 'sum', in the pinned program and in every row, IS THE sha256 OF THE DUMP (.gsa) THAT YtanidhhcedinoaaProg.lean LOADS. Nothing in Lean hashes anything: it is a label: what it is worth is what the hold of that sum in a sandbox is worth. -/
noncomputable def Try.pinned : Pinned := { name := "ytanidhhcedinoaa", sum := "c7a17c6827f2393833e8f63799e217abc6402418ebf2efa95f7765964ad19729", checked := Try.checked }
namespace Rows
def none {H : Type} : Left H := { results := [], args := [] }

/-- 'laws.FnHeads': WHATEVER THE INPUT: true; the input reads as it did. -/
def fnHeadsSpec : ChangeSpec := { name := "fnHeads", fn := fun _ => fun
  | [d] => { results := [.lit (.bool true)], args := [d] }
  | _ => none }
def fnHeadsRow : OpenClaim := { program := "ytanidhhcedinoaa", sum := "c7a17c6827f2393833e8f63799e217abc6402418ebf2efa95f7765964ad19729", func := "loop.example/g00233/laws.FnHeads", spec := "fnHeads", recurses := true, apart := false }
def FnHeadsSaid : Prop := fnHeadsRow.holds Try.pinned (OpenSpec.ofChange fnHeadsSpec)

/-- ITS FALSE NEIGHBOUR: 'it returns false'. Refute it at one input. -/
def fnHeadsWrong : ChangeSpec := { name := "fnHeads", fn := fun _ => fun
  | [d] => { results := [.lit (.bool false)], args := [d] }
  | _ => none }
def FnHeadsWrongFalsely : Prop := fnHeadsRow.holds Try.pinned (OpenSpec.ofChange fnHeadsWrong)

/-- 'laws.FnExactHeadOk': WHATEVER THE INPUT: true; the input reads as it did. -/
def fnExactHeadOkSpec : ChangeSpec := { name := "fnExactHeadOk", fn := fun _ => fun
  | [d] => { results := [.lit (.bool true)], args := [d] }
  | _ => none }
def fnExactHeadOkRow : OpenClaim := { program := "ytanidhhcedinoaa", sum := "c7a17c6827f2393833e8f63799e217abc6402418ebf2efa95f7765964ad19729", func := "loop.example/g00233/laws.FnExactHeadOk", spec := "fnExactHeadOk", apart := false }
def FnExactHeadOkSaid : Prop := fnExactHeadOkRow.holds Try.pinned (OpenSpec.ofChange fnExactHeadOkSpec)

/-- ITS FALSE NEIGHBOUR: 'it returns false'. Refute it at one input. -/
def fnExactHeadOkWrong : ChangeSpec := { name := "fnExactHeadOk", fn := fun _ => fun
  | [d] => { results := [.lit (.bool false)], args := [d] }
  | _ => none }
def FnExactHeadOkWrongFalsely : Prop := fnExactHeadOkRow.holds Try.pinned (OpenSpec.ofChange fnExactHeadOkWrong)

/-- 'laws.FnExactIsSigned': WHATEVER THE INPUT: true; the input reads as it did. -/
def fnExactIsSignedSpec : ChangeSpec := { name := "fnExactIsSigned", fn := fun _ => fun
  | [d1, d2] => { results := [.lit (.bool true)], args := [d1, d2] }
  | _ => none }
def fnExactIsSignedRow : OpenClaim := { program := "ytanidhhcedinoaa", sum := "c7a17c6827f2393833e8f63799e217abc6402418ebf2efa95f7765964ad19729", func := "loop.example/g00233/laws.FnExactIsSigned", spec := "fnExactIsSigned", apart := false }
def FnExactIsSignedSaid : Prop := fnExactIsSignedRow.holds Try.pinned (OpenSpec.ofChange fnExactIsSignedSpec)

/-- ITS FALSE NEIGHBOUR: 'it returns false'. Refute it at one input. -/
def fnExactIsSignedWrong : ChangeSpec := { name := "fnExactIsSigned", fn := fun _ => fun
  | [d1, d2] => { results := [.lit (.bool false)], args := [d1, d2] }
  | _ => none }
def FnExactIsSignedWrongFalsely : Prop := fnExactIsSignedRow.holds Try.pinned (OpenSpec.ofChange fnExactIsSignedWrong)

/-- 'laws.FnExactBestHead': WHATEVER THE INPUT: true; the input reads as it did. -/
def fnExactBestHeadSpec : ChangeSpec := { name := "fnExactBestHead", fn := fun _ => fun
  | [d] => { results := [.lit (.bool true)], args := [d] }
  | _ => none }
def fnExactBestHeadRow : OpenClaim := { program := "ytanidhhcedinoaa", sum := "c7a17c6827f2393833e8f63799e217abc6402418ebf2efa95f7765964ad19729", func := "loop.example/g00233/laws.FnExactBestHead", spec := "fnExactBestHead", apart := false }
def FnExactBestHeadSaid : Prop := fnExactBestHeadRow.holds Try.pinned (OpenSpec.ofChange fnExactBestHeadSpec)

/-- ITS FALSE NEIGHBOUR: 'it returns false'. Refute it at one input. -/
def fnExactBestHeadWrong : ChangeSpec := { name := "fnExactBestHead", fn := fun _ => fun
  | [d] => { results := [.lit (.bool false)], args := [d] }
  | _ => none }
def FnExactBestHeadWrongFalsely : Prop := fnExactBestHeadRow.holds Try.pinned (OpenSpec.ofChange fnExactBestHeadWrong)

/-- 'laws.FnExactFork': WHATEVER THE INPUT: true; the input reads as it did. -/
def fnExactForkSpec : ChangeSpec := { name := "fnExactFork", fn := fun _ => fun
  | [d] => { results := [.lit (.bool true)], args := [d] }
  | _ => none }
def fnExactForkRow : OpenClaim := { program := "ytanidhhcedinoaa", sum := "c7a17c6827f2393833e8f63799e217abc6402418ebf2efa95f7765964ad19729", func := "loop.example/g00233/laws.FnExactFork", spec := "fnExactFork", apart := false }
def FnExactForkSaid : Prop := fnExactForkRow.holds Try.pinned (OpenSpec.ofChange fnExactForkSpec)

/-- ITS FALSE NEIGHBOUR: 'it returns false'. Refute it at one input. -/
def fnExactForkWrong : ChangeSpec := { name := "fnExactFork", fn := fun _ => fun
  | [d] => { results := [.lit (.bool false)], args := [d] }
  | _ => none }
def FnExactForkWrongFalsely : Prop := fnExactForkRow.holds Try.pinned (OpenSpec.ofChange fnExactForkWrong)

/- THE SECOND FORM. 'bulk': how many values and letters a reading holds, each counted each time it is reached (what is shared counts as often as it is met; a slice's spare places count too). A statement '..UptoSaid' is the law's where the arguments, and the package variables that the reading takes, are together of bulk at most 1048576: NARROWER than '..Said'. Prove '..Said' where nothing that the law and all that it calls make is longer than what came in: it says more and counts as full. Else prove '..UptoSaid'. A law counts once. -/
mutual
def uptoBulk {H : Type} : DataW H → Nat
  | .lit (.string bytes) => bytes.length + 1
  | .lit _ => 1
  | .nil => 1
  | .ptr d => uptoBulk d + 1
  | .slice elems spare => uptoBulkAll elems + uptoBulkAll spare + 1
  | .agg parts => uptoBulkAll parts + 1
  | .iface _ d => uptoBulk d + 1
  | .map entries => uptoBulkEntries entries + 1
  | .held _ => 1
def uptoBulkAll {H : Type} : List (DataW H) → Nat
  | [] => 0
  | d :: r => uptoBulk d + uptoBulkAll r
def uptoBulkEntries {H : Type} : List (Lit × DataW H) → Nat
  | [] => 0
  | x :: r => uptoBulkEntry x + uptoBulkEntries r
def uptoBulkEntry {H : Type} : Lit × DataW H → Nat
  | (.string bytes, d) => bytes.length + uptoBulk d + 1
  | (_, d) => uptoBulk d + 1
 end
def uptoSmall : (H : Type) → List (DataW H) → Bool := fun _ ds => decide (uptoBulkAll ds ≤ 1048576)
def OpenSpec.upto (s : _root_.Go.ChangeSpec) : _root_.Go.OpenSpec := { _root_.Go.OpenSpec.ofChange s with cond := some uptoSmall }

/-- 'laws.FnHeads', WHERE WHAT IT READS IS OF BULK AT MOST 1048576: true; the input reads as it did. -/
def fnHeadsUptoRow : OpenClaim := { program := "ytanidhhcedinoaa", sum := "c7a17c6827f2393833e8f63799e217abc6402418ebf2efa95f7765964ad19729", func := "loop.example/g00233/laws.FnHeads", spec := "fnHeads", recurses := true, apart := false, narrowed := true }
def FnHeadsUptoSaid : Prop := fnHeadsUptoRow.holds Try.pinned (OpenSpec.upto fnHeadsSpec)

/-- 'laws.FnExactHeadOk', WHERE WHAT IT READS IS OF BULK AT MOST 1048576: true; the input reads as it did. -/
def fnExactHeadOkUptoRow : OpenClaim := { program := "ytanidhhcedinoaa", sum := "c7a17c6827f2393833e8f63799e217abc6402418ebf2efa95f7765964ad19729", func := "loop.example/g00233/laws.FnExactHeadOk", spec := "fnExactHeadOk", apart := false, narrowed := true }
def FnExactHeadOkUptoSaid : Prop := fnExactHeadOkUptoRow.holds Try.pinned (OpenSpec.upto fnExactHeadOkSpec)

/-- 'laws.FnExactIsSigned', WHERE WHAT IT READS IS OF BULK AT MOST 1048576: true; the input reads as it did. -/
def fnExactIsSignedUptoRow : OpenClaim := { program := "ytanidhhcedinoaa", sum := "c7a17c6827f2393833e8f63799e217abc6402418ebf2efa95f7765964ad19729", func := "loop.example/g00233/laws.FnExactIsSigned", spec := "fnExactIsSigned", apart := false, narrowed := true }
def FnExactIsSignedUptoSaid : Prop := fnExactIsSignedUptoRow.holds Try.pinned (OpenSpec.upto fnExactIsSignedSpec)

/-- 'laws.FnExactBestHead', WHERE WHAT IT READS IS OF BULK AT MOST 1048576: true; the input reads as it did. -/
def fnExactBestHeadUptoRow : OpenClaim := { program := "ytanidhhcedinoaa", sum := "c7a17c6827f2393833e8f63799e217abc6402418ebf2efa95f7765964ad19729", func := "loop.example/g00233/laws.FnExactBestHead", spec := "fnExactBestHead", apart := false, narrowed := true }
def FnExactBestHeadUptoSaid : Prop := fnExactBestHeadUptoRow.holds Try.pinned (OpenSpec.upto fnExactBestHeadSpec)

/-- 'laws.FnExactFork', WHERE WHAT IT READS IS OF BULK AT MOST 1048576: true; the input reads as it did. -/
def fnExactForkUptoRow : OpenClaim := { program := "ytanidhhcedinoaa", sum := "c7a17c6827f2393833e8f63799e217abc6402418ebf2efa95f7765964ad19729", func := "loop.example/g00233/laws.FnExactFork", spec := "fnExactFork", apart := false, narrowed := true }
def FnExactForkUptoSaid : Prop := fnExactForkUptoRow.holds Try.pinned (OpenSpec.upto fnExactForkSpec)

end Rows
end Go.Proofs.Ytanidhhcedinoaa
