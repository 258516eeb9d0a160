/-
  DERIVED. GIVEN WITH THE SEED: THE PROGRAM's TIES (one call each: nine closed facts by the kernel) AND EACH ROW's TIE, after the 31st guide's Derived/Test/Toyas{Tie, Card}.lean. No idea stands in it: it is a product of the set-up. Laid BY PROGRAM, IN A SANDBOX (cutbox-door.mjs). By AI agents, Wed Nov 11 2026. No macro, syntax, notation, axiom, sorry.
-/
import Derived.Test.YtchonoonclllbaaGreatDoorRows
import Derived.LaidByTextLater
import Derived.SevenTiedAt
import Derived.LaidSub
import Derived.LaidOnce
namespace Go.Proofs.YtchonoonclllbaaGreatDoor
open Go
set_option maxRecDepth 100000
theorem seatTie1 : Tryz.prog.laidByTextLater [("loop.example/g00233/impl.rootWords", Rows.laid_loop_example_g00233_impl_rootWords), ("loop.example/g00233/impl.roundWords", Rows.laid_loop_example_g00233_impl_roundWords), ("loop.example/g00233/impl.errForm", Rows.laid_loop_example_g00233_impl_errForm), ("loop.example/g00233/impl.errUnsigned", Rows.laid_loop_example_g00233_impl_errUnsigned), ("loop.example/g00233/impl.errBack", Rows.laid_loop_example_g00233_impl_errBack), ("loop.example/g00233/impl.errRoot", Rows.laid_loop_example_g00233_impl_errRoot), ("loop.example/g00233/impl.errNoCommit", Rows.laid_loop_example_g00233_impl_errNoCommit)] [.data, .data, .sentinel, .sentinel, .sentinel, .sentinel, .sentinel] true :=
  Program.laidByTextLater_by_one 114 8 65 (by kernel_rfl) (by kernel_rfl) (by kernel_rfl) (by kernel_rfl) (by kernel_rfl) (by kernel_rfl) (fun _ _ => by kernel_rfl)
theorem noOwnUnsafe : Tryz.pinned.checked.prog.headLifts.contains "ownunsafe" = false := by kernel_rfl
theorem tie : Tryz.prog.laidByTextLater [("loop.example/g00233/impl.rootWords", Rows.laid_loop_example_g00233_impl_rootWords), ("loop.example/g00233/impl.roundWords", Rows.laid_loop_example_g00233_impl_roundWords), ("loop.example/g00233/impl.errForm", Rows.laid_loop_example_g00233_impl_errForm), ("loop.example/g00233/impl.errUnsigned", Rows.laid_loop_example_g00233_impl_errUnsigned), ("loop.example/g00233/impl.errBack", Rows.laid_loop_example_g00233_impl_errBack), ("loop.example/g00233/impl.errRoot", Rows.laid_loop_example_g00233_impl_errRoot), ("loop.example/g00233/impl.errNoCommit", Rows.laid_loop_example_g00233_impl_errNoCommit)] [.data, .data, .sentinel, .sentinel, .sentinel, .sentinel, .sentinel] true :=
  Program.laidByTextLater.sub seatTie1 ["loop.example/g00233/impl.rootWords", "loop.example/g00233/impl.roundWords", "loop.example/g00233/impl.errForm", "loop.example/g00233/impl.errUnsigned", "loop.example/g00233/impl.errBack", "loop.example/g00233/impl.errRoot", "loop.example/g00233/impl.errNoCommit"] (by kernel_rfl) (by kernel_rfl)
theorem fnHeard_row_tie : Rows.fnHeardRow.laidByTextAt .later Tryz.pinned [.data, .data, .sentinel, .sentinel, .sentinel, .sentinel, .sentinel] true :=
  OpenClaim.laidByTextAt_later rfl rfl tie noOwnUnsafe
theorem fnFetched_row_tie : Rows.fnFetchedRow.laidByTextAt .later Tryz.pinned [.data, .data, .sentinel, .sentinel, .sentinel, .sentinel, .sentinel] true :=
  OpenClaim.laidByTextAt_later rfl rfl tie noOwnUnsafe
theorem fnCrashed_row_tie : Rows.fnCrashedRow.laidByTextAt .later Tryz.pinned [.data, .data, .sentinel, .sentinel, .sentinel, .sentinel, .sentinel] true :=
  OpenClaim.laidByTextAt_later rfl rfl tie noOwnUnsafe
theorem tie2 : Tryz.prog.laidByTextLater [("loop.example/g00233/impl.rootWords", Rows.laid_loop_example_g00233_impl_rootWords), ("loop.example/g00233/impl.roundWords", Rows.laid_loop_example_g00233_impl_roundWords), ("loop.example/g00233/impl.errNoCommit", Rows.laid_loop_example_g00233_impl_errNoCommit)] [.data, .data, .sentinel] true :=
  Program.laidByTextLater.sub seatTie1 ["loop.example/g00233/impl.rootWords", "loop.example/g00233/impl.roundWords", "loop.example/g00233/impl.errNoCommit"] (by kernel_rfl) (by kernel_rfl)
theorem fnGossiped_row_tie : Rows.fnGossipedRow.laidByTextAt .later Tryz.pinned [.data, .data, .sentinel] true :=
  OpenClaim.laidByTextAt_later rfl rfl tie2 noOwnUnsafe
theorem fnExactMirrorOk_row_tie : Rows.fnExactMirrorOkRow.laidByTextAt .later Tryz.pinned [.data, .data, .sentinel] true :=
  OpenClaim.laidByTextAt_later rfl rfl tie2 noOwnUnsafe
theorem fnHeardUpto_row_tie : Rows.fnHeardUptoRow.laidByTextAt .later Tryz.pinned [.data, .data, .sentinel, .sentinel, .sentinel, .sentinel, .sentinel] true :=
  OpenClaim.laidByTextAt_later rfl rfl tie noOwnUnsafe
theorem fnFetchedUpto_row_tie : Rows.fnFetchedUptoRow.laidByTextAt .later Tryz.pinned [.data, .data, .sentinel, .sentinel, .sentinel, .sentinel, .sentinel] true :=
  OpenClaim.laidByTextAt_later rfl rfl tie noOwnUnsafe
theorem fnCrashedUpto_row_tie : Rows.fnCrashedUptoRow.laidByTextAt .later Tryz.pinned [.data, .data, .sentinel, .sentinel, .sentinel, .sentinel, .sentinel] true :=
  OpenClaim.laidByTextAt_later rfl rfl tie noOwnUnsafe
theorem fnGossipedUpto_row_tie : Rows.fnGossipedUptoRow.laidByTextAt .later Tryz.pinned [.data, .data, .sentinel] true :=
  OpenClaim.laidByTextAt_later rfl rfl tie2 noOwnUnsafe
theorem fnExactMirrorOkUpto_row_tie : Rows.fnExactMirrorOkUptoRow.laidByTextAt .later Tryz.pinned [.data, .data, .sentinel] true :=
  OpenClaim.laidByTextAt_later rfl rfl tie2 noOwnUnsafe
end Go.Proofs.YtchonoonclllbaaGreatDoor
