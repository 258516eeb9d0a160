/-
  NARROWER THAN 'FOR EVERY INPUT', by the rows' own cells (each row's printed sentence says how): FnHeard: ifaces, laid · FnFetched: ifaces, laid · FnCrashed: ifaces, laid · FnGossiped: ifaces, laid · FnExactMirrorOk: ifaces, laid.
  DERIVED. THE GIVEN ROWS OF THIS SEAT. 5 by the template 'for every input the law returns true; each argument reads behind the call as it read before'; 0 by the template 'total and deterministic' (their statements: YtchonoonclllbaaGreatDoorTotals.lean).
  GIVEN WITH THE SEED: the statements are not yours to turn. If you find one false, say at which input.
  Laid BY PROGRAM, IN A SANDBOX (cutbox-rows.mjs): the forced cells as the released guide's own fill.sh prints them over the translation 9dc704ac1f83475f… (all of the seat's roots in one cut). By AI agents, Wed Nov 11 2026. No macro, syntax, notation, axiom, sorry.
-/
import Derived.Test.YtchonoonclllbaaGreatDoorChecked
import GoSem.Claim
import GoSem.ClaimJoined
import GoSem.ClaimMapViews
import Derived.JoinedTies
import Derived.KernelRfl
namespace Go.Proofs.YtchonoonclllbaaGreatDoor
/- THE CELL 'sum', in the pinned program and in every row, IS THE sha256 OF THE DUMP (.gsa) THAT YtchonoonclllbaaGreatDoorProg.lean LOADS. Nothing in Lean hashes anything: it is a label: what it is worth is what the hold of that sum in a sandbox is worth. -/
noncomputable def Tryz.pinned : Pinned := { name := "ytchonoonclllbaagreatdoor", sum := "9dc704ac1f83475f71b608f5a500fd9d313e5770a4c11f9ff640ad86695c600b", checked := Tryz.checked }
namespace Rows
def none {H : Type} : Left H := { results := [], args := [] }

/- WHAT THE LISTED PACKAGE-LEVEL VARIABLES READ AS WHEN THE CALL BEGINS. Each datum BY PROGRAM (the guide's laid-datum.mjs) off the statement by which the dump's own 'gosem.cut.vars' lays the variable. In a bare row this is a premise. The card (YtchonoonclllbaaGreatDoorCards.lean) ties it to the program's text. -/
def laid_loop_example_g00233_impl_rootWords {H : Type} : DataW H := .agg [.lit (.int .u32 1779033703), .lit (.int .u32 3144134277), .lit (.int .u32 1013904242), .lit (.int .u32 2773480762), .lit (.int .u32 1359893119), .lit (.int .u32 2600822924), .lit (.int .u32 528734635), .lit (.int .u32 1541459225)]
def laid_loop_example_g00233_impl_roundWords {H : Type} : DataW H := .agg [.lit (.int .u32 1116352408), .lit (.int .u32 1899447441), .lit (.int .u32 3049323471), .lit (.int .u32 3921009573), .lit (.int .u32 961987163), .lit (.int .u32 1508970993), .lit (.int .u32 2453635748), .lit (.int .u32 2870763221), .lit (.int .u32 3624381080), .lit (.int .u32 310598401), .lit (.int .u32 607225278), .lit (.int .u32 1426881987), .lit (.int .u32 1925078388), .lit (.int .u32 2162078206), .lit (.int .u32 2614888103), .lit (.int .u32 3248222580), .lit (.int .u32 3835390401), .lit (.int .u32 4022224774), .lit (.int .u32 264347078), .lit (.int .u32 604807628), .lit (.int .u32 770255983), .lit (.int .u32 1249150122), .lit (.int .u32 1555081692), .lit (.int .u32 1996064986), .lit (.int .u32 2554220882), .lit (.int .u32 2821834349), .lit (.int .u32 2952996808), .lit (.int .u32 3210313671), .lit (.int .u32 3336571891), .lit (.int .u32 3584528711), .lit (.int .u32 113926993), .lit (.int .u32 338241895), .lit (.int .u32 666307205), .lit (.int .u32 773529912), .lit (.int .u32 1294757372), .lit (.int .u32 1396182291), .lit (.int .u32 1695183700), .lit (.int .u32 1986661051), .lit (.int .u32 2177026350), .lit (.int .u32 2456956037), .lit (.int .u32 2730485921), .lit (.int .u32 2820302411), .lit (.int .u32 3259730800), .lit (.int .u32 3345764771), .lit (.int .u32 3516065817), .lit (.int .u32 3600352804), .lit (.int .u32 4094571909), .lit (.int .u32 275423344), .lit (.int .u32 430227734), .lit (.int .u32 506948616), .lit (.int .u32 659060556), .lit (.int .u32 883997877), .lit (.int .u32 958139571), .lit (.int .u32 1322822218), .lit (.int .u32 1537002063), .lit (.int .u32 1747873779), .lit (.int .u32 1955562222), .lit (.int .u32 2024104815), .lit (.int .u32 2227730452), .lit (.int .u32 2361852424), .lit (.int .u32 2428436474), .lit (.int .u32 2756734187), .lit (.int .u32 3204031479), .lit (.int .u32 3329325298)]
def laid_loop_example_g00233_impl_errForm {H : Type} : DataW H := .iface "*errors.errorString" (.ptr (.agg [.lit (.string [116, 104, 101, 32, 108, 111, 103, 44, 32, 116, 104, 101, 32, 104, 101, 97, 100, 44, 32, 111, 114, 32, 104, 111, 119, 32, 109, 97, 110, 121, 32, 116, 101, 120, 116, 115, 32, 116, 104, 101, 114, 101, 32, 97, 114, 101, 32, 105, 115, 32, 110, 111, 116, 32, 114, 105, 103, 104, 116])]))
def laid_loop_example_g00233_impl_errUnsigned {H : Type} : DataW H := .iface "*errors.errorString" (.ptr (.agg [.lit (.string [116, 104, 101, 32, 104, 101, 97, 100, 32, 119, 97, 115, 32, 110, 111, 116, 32, 115, 105, 103, 110, 101, 100])]))
def laid_loop_example_g00233_impl_errBack {H : Type} : DataW H := .iface "*errors.errorString" (.ptr (.agg [.lit (.string [116, 104, 101, 114, 101, 32, 97, 114, 101, 32, 110, 111, 32, 116, 101, 120, 116, 115])]))
def laid_loop_example_g00233_impl_errRoot {H : Type} : DataW H := .iface "*errors.errorString" (.ptr (.agg [.lit (.string [116, 104, 101, 32, 104, 101, 97, 100, 32, 105, 115, 32, 116, 104, 97, 116, 32, 111, 102, 32, 111, 116, 104, 101, 114, 32, 116, 101, 120, 116, 115])]))
def laid_loop_example_g00233_impl_errNoCommit {H : Type} : DataW H := .iface "*errors.errorString" (.ptr (.agg [.lit (.string [116, 104, 101, 115, 101, 32, 98, 121, 116, 101, 115, 32, 97, 114, 101, 32, 110, 111, 32, 99, 111, 109, 109, 105, 116])]))

/-- 'laws.FnHeard': WHATEVER THE INPUT: true; the input reads as it did. -/
def fnHeardSpec : ChangeSpec := { name := "fnHeard", vars := ["loop.example/g00233/impl.rootWords", "loop.example/g00233/impl.roundWords", "loop.example/g00233/impl.errNoCommit", "loop.example/g00233/impl.errForm", "loop.example/g00233/impl.errUnsigned", "loop.example/g00233/impl.errBack", "loop.example/g00233/impl.errRoot"], fn := fun _ => fun
  | [d, g1, g2, g3, g4, g5, g6, g7] => { results := [.lit (.bool true)], args := [d], vars := [g1, g2, g3, g4, g5, g6, g7] }
  | _ => none }
def fnHeardRow : OpenClaim := { program := "ytchonoonclllbaagreatdoor", sum := "9dc704ac1f83475f71b608f5a500fd9d313e5770a4c11f9ff640ad86695c600b", func := "loop.example/g00233/laws.FnHeard", spec := "fnHeard", inPlace := ["internal/reflectlite.TypeOf"], unfollowed := true, recurses := true, named := ["loop.example/g00233/impl.rootWords", "loop.example/g00233/impl.roundWords", "loop.example/g00233/impl.errNoCommit", "loop.example/g00233/impl.errForm", "loop.example/g00233/impl.errUnsigned", "loop.example/g00233/impl.errBack", "loop.example/g00233/impl.errRoot"], ifaces := true, apart := false, laid := [("loop.example/g00233/impl.rootWords", laid_loop_example_g00233_impl_rootWords), ("loop.example/g00233/impl.roundWords", laid_loop_example_g00233_impl_roundWords), ("loop.example/g00233/impl.errForm", laid_loop_example_g00233_impl_errForm), ("loop.example/g00233/impl.errUnsigned", laid_loop_example_g00233_impl_errUnsigned), ("loop.example/g00233/impl.errBack", laid_loop_example_g00233_impl_errBack), ("loop.example/g00233/impl.errRoot", laid_loop_example_g00233_impl_errRoot), ("loop.example/g00233/impl.errNoCommit", laid_loop_example_g00233_impl_errNoCommit)] }
def FnHeardSaid : Prop := fnHeardRow.holds Tryz.pinned (OpenSpec.ofChange fnHeardSpec)

/-- ITS FALSE NEIGHBOUR: 'it returns false'. Refute it at one input. -/
def fnHeardWrong : ChangeSpec := { name := "fnHeard", vars := ["loop.example/g00233/impl.rootWords", "loop.example/g00233/impl.roundWords", "loop.example/g00233/impl.errNoCommit", "loop.example/g00233/impl.errForm", "loop.example/g00233/impl.errUnsigned", "loop.example/g00233/impl.errBack", "loop.example/g00233/impl.errRoot"], fn := fun _ => fun
  | [d, g1, g2, g3, g4, g5, g6, g7] => { results := [.lit (.bool false)], args := [d], vars := [g1, g2, g3, g4, g5, g6, g7] }
  | _ => none }
def FnHeardWrongFalsely : Prop := fnHeardRow.holds Tryz.pinned (OpenSpec.ofChange fnHeardWrong)

/-- 'laws.FnFetched': WHATEVER THE INPUT: true; the input reads as it did. -/
def fnFetchedSpec : ChangeSpec := { name := "fnFetched", vars := ["loop.example/g00233/impl.rootWords", "loop.example/g00233/impl.roundWords", "loop.example/g00233/impl.errNoCommit", "loop.example/g00233/impl.errForm", "loop.example/g00233/impl.errUnsigned", "loop.example/g00233/impl.errBack", "loop.example/g00233/impl.errRoot"], fn := fun _ => fun
  | [d, g1, g2, g3, g4, g5, g6, g7] => { results := [.lit (.bool true)], args := [d], vars := [g1, g2, g3, g4, g5, g6, g7] }
  | _ => none }
def fnFetchedRow : OpenClaim := { program := "ytchonoonclllbaagreatdoor", sum := "9dc704ac1f83475f71b608f5a500fd9d313e5770a4c11f9ff640ad86695c600b", func := "loop.example/g00233/laws.FnFetched", spec := "fnFetched", inPlace := ["internal/reflectlite.TypeOf"], unfollowed := true, recurses := true, named := ["loop.example/g00233/impl.rootWords", "loop.example/g00233/impl.roundWords", "loop.example/g00233/impl.errNoCommit", "loop.example/g00233/impl.errForm", "loop.example/g00233/impl.errUnsigned", "loop.example/g00233/impl.errBack", "loop.example/g00233/impl.errRoot"], ifaces := true, apart := false, laid := [("loop.example/g00233/impl.rootWords", laid_loop_example_g00233_impl_rootWords), ("loop.example/g00233/impl.roundWords", laid_loop_example_g00233_impl_roundWords), ("loop.example/g00233/impl.errForm", laid_loop_example_g00233_impl_errForm), ("loop.example/g00233/impl.errUnsigned", laid_loop_example_g00233_impl_errUnsigned), ("loop.example/g00233/impl.errBack", laid_loop_example_g00233_impl_errBack), ("loop.example/g00233/impl.errRoot", laid_loop_example_g00233_impl_errRoot), ("loop.example/g00233/impl.errNoCommit", laid_loop_example_g00233_impl_errNoCommit)] }
def FnFetchedSaid : Prop := fnFetchedRow.holds Tryz.pinned (OpenSpec.ofChange fnFetchedSpec)

/-- ITS FALSE NEIGHBOUR: 'it returns false'. Refute it at one input. -/
def fnFetchedWrong : ChangeSpec := { name := "fnFetched", vars := ["loop.example/g00233/impl.rootWords", "loop.example/g00233/impl.roundWords", "loop.example/g00233/impl.errNoCommit", "loop.example/g00233/impl.errForm", "loop.example/g00233/impl.errUnsigned", "loop.example/g00233/impl.errBack", "loop.example/g00233/impl.errRoot"], fn := fun _ => fun
  | [d, g1, g2, g3, g4, g5, g6, g7] => { results := [.lit (.bool false)], args := [d], vars := [g1, g2, g3, g4, g5, g6, g7] }
  | _ => none }
def FnFetchedWrongFalsely : Prop := fnFetchedRow.holds Tryz.pinned (OpenSpec.ofChange fnFetchedWrong)

/-- 'laws.FnCrashed': WHATEVER THE INPUT: true; the input reads as it did. -/
def fnCrashedSpec : ChangeSpec := { name := "fnCrashed", vars := ["loop.example/g00233/impl.rootWords", "loop.example/g00233/impl.roundWords", "loop.example/g00233/impl.errNoCommit", "loop.example/g00233/impl.errForm", "loop.example/g00233/impl.errUnsigned", "loop.example/g00233/impl.errBack", "loop.example/g00233/impl.errRoot"], fn := fun _ => fun
  | [d, g1, g2, g3, g4, g5, g6, g7] => { results := [.lit (.bool true)], args := [d], vars := [g1, g2, g3, g4, g5, g6, g7] }
  | _ => none }
def fnCrashedRow : OpenClaim := { program := "ytchonoonclllbaagreatdoor", sum := "9dc704ac1f83475f71b608f5a500fd9d313e5770a4c11f9ff640ad86695c600b", func := "loop.example/g00233/laws.FnCrashed", spec := "fnCrashed", inPlace := ["internal/reflectlite.TypeOf"], unfollowed := true, recurses := true, named := ["loop.example/g00233/impl.rootWords", "loop.example/g00233/impl.roundWords", "loop.example/g00233/impl.errNoCommit", "loop.example/g00233/impl.errForm", "loop.example/g00233/impl.errUnsigned", "loop.example/g00233/impl.errBack", "loop.example/g00233/impl.errRoot"], ifaces := true, apart := false, laid := [("loop.example/g00233/impl.rootWords", laid_loop_example_g00233_impl_rootWords), ("loop.example/g00233/impl.roundWords", laid_loop_example_g00233_impl_roundWords), ("loop.example/g00233/impl.errForm", laid_loop_example_g00233_impl_errForm), ("loop.example/g00233/impl.errUnsigned", laid_loop_example_g00233_impl_errUnsigned), ("loop.example/g00233/impl.errBack", laid_loop_example_g00233_impl_errBack), ("loop.example/g00233/impl.errRoot", laid_loop_example_g00233_impl_errRoot), ("loop.example/g00233/impl.errNoCommit", laid_loop_example_g00233_impl_errNoCommit)] }
def FnCrashedSaid : Prop := fnCrashedRow.holds Tryz.pinned (OpenSpec.ofChange fnCrashedSpec)

/-- ITS FALSE NEIGHBOUR: 'it returns false'. Refute it at one input. -/
def fnCrashedWrong : ChangeSpec := { name := "fnCrashed", vars := ["loop.example/g00233/impl.rootWords", "loop.example/g00233/impl.roundWords", "loop.example/g00233/impl.errNoCommit", "loop.example/g00233/impl.errForm", "loop.example/g00233/impl.errUnsigned", "loop.example/g00233/impl.errBack", "loop.example/g00233/impl.errRoot"], fn := fun _ => fun
  | [d, g1, g2, g3, g4, g5, g6, g7] => { results := [.lit (.bool false)], args := [d], vars := [g1, g2, g3, g4, g5, g6, g7] }
  | _ => none }
def FnCrashedWrongFalsely : Prop := fnCrashedRow.holds Tryz.pinned (OpenSpec.ofChange fnCrashedWrong)

/-- 'laws.FnGossiped': WHATEVER THE INPUT: true; the input reads as it did. -/
def fnGossipedSpec : ChangeSpec := { name := "fnGossiped", vars := ["loop.example/g00233/impl.rootWords", "loop.example/g00233/impl.roundWords", "loop.example/g00233/impl.errNoCommit"], fn := fun _ => fun
  | [d, g1, g2, g3] => { results := [.lit (.bool true)], args := [d], vars := [g1, g2, g3] }
  | _ => none }
def fnGossipedRow : OpenClaim := { program := "ytchonoonclllbaagreatdoor", sum := "9dc704ac1f83475f71b608f5a500fd9d313e5770a4c11f9ff640ad86695c600b", func := "loop.example/g00233/laws.FnGossiped", spec := "fnGossiped", unfollowed := true, recurses := true, named := ["loop.example/g00233/impl.rootWords", "loop.example/g00233/impl.roundWords", "loop.example/g00233/impl.errNoCommit"], ifaces := true, apart := false, laid := [("loop.example/g00233/impl.rootWords", laid_loop_example_g00233_impl_rootWords), ("loop.example/g00233/impl.roundWords", laid_loop_example_g00233_impl_roundWords), ("loop.example/g00233/impl.errNoCommit", laid_loop_example_g00233_impl_errNoCommit)] }
def FnGossipedSaid : Prop := fnGossipedRow.holds Tryz.pinned (OpenSpec.ofChange fnGossipedSpec)

/-- ITS FALSE NEIGHBOUR: 'it returns false'. Refute it at one input. -/
def fnGossipedWrong : ChangeSpec := { name := "fnGossiped", vars := ["loop.example/g00233/impl.rootWords", "loop.example/g00233/impl.roundWords", "loop.example/g00233/impl.errNoCommit"], fn := fun _ => fun
  | [d, g1, g2, g3] => { results := [.lit (.bool false)], args := [d], vars := [g1, g2, g3] }
  | _ => none }
def FnGossipedWrongFalsely : Prop := fnGossipedRow.holds Tryz.pinned (OpenSpec.ofChange fnGossipedWrong)

/-- 'laws.FnExactMirrorOk': WHATEVER THE INPUT: true; the input reads as it did. -/
def fnExactMirrorOkSpec : ChangeSpec := { name := "fnExactMirrorOk", vars := ["loop.example/g00233/impl.rootWords", "loop.example/g00233/impl.roundWords", "loop.example/g00233/impl.errNoCommit"], fn := fun _ => fun
  | [d1, d2, g1, g2, g3] => { results := [.lit (.bool true)], args := [d1, d2], vars := [g1, g2, g3] }
  | _ => none }
def fnExactMirrorOkRow : OpenClaim := { program := "ytchonoonclllbaagreatdoor", sum := "9dc704ac1f83475f71b608f5a500fd9d313e5770a4c11f9ff640ad86695c600b", func := "loop.example/g00233/laws.FnExactMirrorOk", spec := "fnExactMirrorOk", unfollowed := true, recurses := true, named := ["loop.example/g00233/impl.rootWords", "loop.example/g00233/impl.roundWords", "loop.example/g00233/impl.errNoCommit"], ifaces := true, apart := false, laid := [("loop.example/g00233/impl.rootWords", laid_loop_example_g00233_impl_rootWords), ("loop.example/g00233/impl.roundWords", laid_loop_example_g00233_impl_roundWords), ("loop.example/g00233/impl.errNoCommit", laid_loop_example_g00233_impl_errNoCommit)] }
def FnExactMirrorOkSaid : Prop := fnExactMirrorOkRow.holds Tryz.pinned (OpenSpec.ofChange fnExactMirrorOkSpec)

/-- ITS FALSE NEIGHBOUR: 'it returns false'. Refute it at one input. -/
def fnExactMirrorOkWrong : ChangeSpec := { name := "fnExactMirrorOk", vars := ["loop.example/g00233/impl.rootWords", "loop.example/g00233/impl.roundWords", "loop.example/g00233/impl.errNoCommit"], fn := fun _ => fun
  | [d1, d2, g1, g2, g3] => { results := [.lit (.bool false)], args := [d1, d2], vars := [g1, g2, g3] }
  | _ => none }
def FnExactMirrorOkWrongFalsely : Prop := fnExactMirrorOkRow.holds Tryz.pinned (OpenSpec.ofChange fnExactMirrorOkWrong)

/- THE SECOND FORM. 'bulk': how many values and letters a reading holds, each counted each time it is reached (what is shared counts as often as it is met; a slice's spare places count too). A statement '..UptoSaid' is the law's where the arguments, and the package variables that the reading takes, are together of bulk at most 1048576: NARROWER than '..Said'. Prove '..Said' where nothing that the law and all that it calls make is longer than what came in: it says more and counts as full. Else prove '..UptoSaid'. A law counts once. -/
mutual
def uptoBulk {H : Type} : DataW H → Nat
  | .lit (.string bytes) => bytes.length + 1
  | .lit _ => 1
  | .nil => 1
  | .ptr d => uptoBulk d + 1
  | .slice elems spare => uptoBulkAll elems + uptoBulkAll spare + 1
  | .agg parts => uptoBulkAll parts + 1
  | .iface _ d => uptoBulk d + 1
  | .map entries => uptoBulkEntries entries + 1
  | .held _ => 1
def uptoBulkAll {H : Type} : List (DataW H) → Nat
  | [] => 0
  | d :: r => uptoBulk d + uptoBulkAll r
def uptoBulkEntries {H : Type} : List (Lit × DataW H) → Nat
  | [] => 0
  | x :: r => uptoBulkEntry x + uptoBulkEntries r
def uptoBulkEntry {H : Type} : Lit × DataW H → Nat
  | (.string bytes, d) => bytes.length + uptoBulk d + 1
  | (_, d) => uptoBulk d + 1
 end
def uptoSmall : (H : Type) → List (DataW H) → Bool := fun _ ds => decide (uptoBulkAll ds ≤ 1048576)
def OpenSpec.upto (s : _root_.Go.ChangeSpec) : _root_.Go.OpenSpec := { _root_.Go.OpenSpec.ofChange s with cond := some uptoSmall }

/-- 'laws.FnHeard', WHERE WHAT IT READS IS OF BULK AT MOST 1048576: true; the input reads as it did. -/
def fnHeardUptoRow : OpenClaim := { program := "ytchonoonclllbaagreatdoor", sum := "9dc704ac1f83475f71b608f5a500fd9d313e5770a4c11f9ff640ad86695c600b", func := "loop.example/g00233/laws.FnHeard", spec := "fnHeard", inPlace := ["internal/reflectlite.TypeOf"], unfollowed := true, recurses := true, named := ["loop.example/g00233/impl.rootWords", "loop.example/g00233/impl.roundWords", "loop.example/g00233/impl.errNoCommit", "loop.example/g00233/impl.errForm", "loop.example/g00233/impl.errUnsigned", "loop.example/g00233/impl.errBack", "loop.example/g00233/impl.errRoot"], ifaces := true, apart := false, laid := [("loop.example/g00233/impl.rootWords", laid_loop_example_g00233_impl_rootWords), ("loop.example/g00233/impl.roundWords", laid_loop_example_g00233_impl_roundWords), ("loop.example/g00233/impl.errForm", laid_loop_example_g00233_impl_errForm), ("loop.example/g00233/impl.errUnsigned", laid_loop_example_g00233_impl_errUnsigned), ("loop.example/g00233/impl.errBack", laid_loop_example_g00233_impl_errBack), ("loop.example/g00233/impl.errRoot", laid_loop_example_g00233_impl_errRoot), ("loop.example/g00233/impl.errNoCommit", laid_loop_example_g00233_impl_errNoCommit)], narrowed := true }
def FnHeardUptoSaid : Prop := fnHeardUptoRow.holds Tryz.pinned (OpenSpec.upto fnHeardSpec)

/-- 'laws.FnFetched', WHERE WHAT IT READS IS OF BULK AT MOST 1048576: true; the input reads as it did. -/
def fnFetchedUptoRow : OpenClaim := { program := "ytchonoonclllbaagreatdoor", sum := "9dc704ac1f83475f71b608f5a500fd9d313e5770a4c11f9ff640ad86695c600b", func := "loop.example/g00233/laws.FnFetched", spec := "fnFetched", inPlace := ["internal/reflectlite.TypeOf"], unfollowed := true, recurses := true, named := ["loop.example/g00233/impl.rootWords", "loop.example/g00233/impl.roundWords", "loop.example/g00233/impl.errNoCommit", "loop.example/g00233/impl.errForm", "loop.example/g00233/impl.errUnsigned", "loop.example/g00233/impl.errBack", "loop.example/g00233/impl.errRoot"], ifaces := true, apart := false, laid := [("loop.example/g00233/impl.rootWords", laid_loop_example_g00233_impl_rootWords), ("loop.example/g00233/impl.roundWords", laid_loop_example_g00233_impl_roundWords), ("loop.example/g00233/impl.errForm", laid_loop_example_g00233_impl_errForm), ("loop.example/g00233/impl.errUnsigned", laid_loop_example_g00233_impl_errUnsigned), ("loop.example/g00233/impl.errBack", laid_loop_example_g00233_impl_errBack), ("loop.example/g00233/impl.errRoot", laid_loop_example_g00233_impl_errRoot), ("loop.example/g00233/impl.errNoCommit", laid_loop_example_g00233_impl_errNoCommit)], narrowed := true }
def FnFetchedUptoSaid : Prop := fnFetchedUptoRow.holds Tryz.pinned (OpenSpec.upto fnFetchedSpec)

/-- 'laws.FnCrashed', WHERE WHAT IT READS IS OF BULK AT MOST 1048576: true; the input reads as it did. -/
def fnCrashedUptoRow : OpenClaim := { program := "ytchonoonclllbaagreatdoor", sum := "9dc704ac1f83475f71b608f5a500fd9d313e5770a4c11f9ff640ad86695c600b", func := "loop.example/g00233/laws.FnCrashed", spec := "fnCrashed", inPlace := ["internal/reflectlite.TypeOf"], unfollowed := true, recurses := true, named := ["loop.example/g00233/impl.rootWords", "loop.example/g00233/impl.roundWords", "loop.example/g00233/impl.errNoCommit", "loop.example/g00233/impl.errForm", "loop.example/g00233/impl.errUnsigned", "loop.example/g00233/impl.errBack", "loop.example/g00233/impl.errRoot"], ifaces := true, apart := false, laid := [("loop.example/g00233/impl.rootWords", laid_loop_example_g00233_impl_rootWords), ("loop.example/g00233/impl.roundWords", laid_loop_example_g00233_impl_roundWords), ("loop.example/g00233/impl.errForm", laid_loop_example_g00233_impl_errForm), ("loop.example/g00233/impl.errUnsigned", laid_loop_example_g00233_impl_errUnsigned), ("loop.example/g00233/impl.errBack", laid_loop_example_g00233_impl_errBack), ("loop.example/g00233/impl.errRoot", laid_loop_example_g00233_impl_errRoot), ("loop.example/g00233/impl.errNoCommit", laid_loop_example_g00233_impl_errNoCommit)], narrowed := true }
def FnCrashedUptoSaid : Prop := fnCrashedUptoRow.holds Tryz.pinned (OpenSpec.upto fnCrashedSpec)

/-- 'laws.FnGossiped', WHERE WHAT IT READS IS OF BULK AT MOST 1048576: true; the input reads as it did. -/
def fnGossipedUptoRow : OpenClaim := { program := "ytchonoonclllbaagreatdoor", sum := "9dc704ac1f83475f71b608f5a500fd9d313e5770a4c11f9ff640ad86695c600b", func := "loop.example/g00233/laws.FnGossiped", spec := "fnGossiped", unfollowed := true, recurses := true, named := ["loop.example/g00233/impl.rootWords", "loop.example/g00233/impl.roundWords", "loop.example/g00233/impl.errNoCommit"], ifaces := true, apart := false, laid := [("loop.example/g00233/impl.rootWords", laid_loop_example_g00233_impl_rootWords), ("loop.example/g00233/impl.roundWords", laid_loop_example_g00233_impl_roundWords), ("loop.example/g00233/impl.errNoCommit", laid_loop_example_g00233_impl_errNoCommit)], narrowed := true }
def FnGossipedUptoSaid : Prop := fnGossipedUptoRow.holds Tryz.pinned (OpenSpec.upto fnGossipedSpec)

/-- 'laws.FnExactMirrorOk', WHERE WHAT IT READS IS OF BULK AT MOST 1048576: true; the input reads as it did. -/
def fnExactMirrorOkUptoRow : OpenClaim := { program := "ytchonoonclllbaagreatdoor", sum := "9dc704ac1f83475f71b608f5a500fd9d313e5770a4c11f9ff640ad86695c600b", func := "loop.example/g00233/laws.FnExactMirrorOk", spec := "fnExactMirrorOk", unfollowed := true, recurses := true, named := ["loop.example/g00233/impl.rootWords", "loop.example/g00233/impl.roundWords", "loop.example/g00233/impl.errNoCommit"], ifaces := true, apart := false, laid := [("loop.example/g00233/impl.rootWords", laid_loop_example_g00233_impl_rootWords), ("loop.example/g00233/impl.roundWords", laid_loop_example_g00233_impl_roundWords), ("loop.example/g00233/impl.errNoCommit", laid_loop_example_g00233_impl_errNoCommit)], narrowed := true }
def FnExactMirrorOkUptoSaid : Prop := fnExactMirrorOkUptoRow.holds Tryz.pinned (OpenSpec.upto fnExactMirrorOkSpec)

end Rows
end Go.Proofs.YtchonoonclllbaaGreatDoor
