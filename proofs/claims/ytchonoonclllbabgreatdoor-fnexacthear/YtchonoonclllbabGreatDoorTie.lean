/-
  DERIVED. GIVEN WITH THE SEED: THE PROGRAM's TIES (one call each: nine closed facts by the kernel) AND EACH ROW's TIE, after the 31st guide's Derived/Test/Toyas{Tie, Card}.lean. No idea stands in it: it is a product of the set-up. Laid BY PROGRAM, IN A SANDBOX (cutbox-door.mjs). By AI agents, Wed Nov 11 2026. No macro, syntax, notation, axiom, sorry.
-/
import Derived.Test.YtchonoonclllbabGreatDoorRows
import Derived.LaidByTextLater
import Derived.SevenTiedAt
import Derived.LaidSub
import Derived.LaidOnce
namespace Go.Proofs.YtchonoonclllbabGreatDoor
open Go
set_option maxRecDepth 100000
theorem seatTie1 : Tryz.prog.laidByTextLater [("loop.example/g00233/impl.rootWords", Rows.laid_loop_example_g00233_impl_rootWords), ("loop.example/g00233/impl.roundWords", Rows.laid_loop_example_g00233_impl_roundWords), ("loop.example/g00233/impl.errForm", Rows.laid_loop_example_g00233_impl_errForm), ("loop.example/g00233/impl.errUnsigned", Rows.laid_loop_example_g00233_impl_errUnsigned), ("loop.example/g00233/impl.errBack", Rows.laid_loop_example_g00233_impl_errBack), ("loop.example/g00233/impl.errRoot", Rows.laid_loop_example_g00233_impl_errRoot), ("loop.example/g00233/impl.errNoCommit", Rows.laid_loop_example_g00233_impl_errNoCommit)] [.data, .data, .sentinel, .sentinel, .sentinel, .sentinel, .sentinel] true :=
  Program.laidByTextLater_by_one 114 8 65 (by kernel_rfl) (by kernel_rfl) (by kernel_rfl) (by kernel_rfl) (by kernel_rfl) (by kernel_rfl) (fun _ _ => by kernel_rfl)
theorem noOwnUnsafe : Tryz.pinned.checked.prog.headLifts.contains "ownunsafe" = false := by kernel_rfl
theorem tie : Tryz.prog.laidByTextLater [("loop.example/g00233/impl.rootWords", Rows.laid_loop_example_g00233_impl_rootWords), ("loop.example/g00233/impl.roundWords", Rows.laid_loop_example_g00233_impl_roundWords), ("loop.example/g00233/impl.errForm", Rows.laid_loop_example_g00233_impl_errForm), ("loop.example/g00233/impl.errUnsigned", Rows.laid_loop_example_g00233_impl_errUnsigned), ("loop.example/g00233/impl.errBack", Rows.laid_loop_example_g00233_impl_errBack), ("loop.example/g00233/impl.errRoot", Rows.laid_loop_example_g00233_impl_errRoot), ("loop.example/g00233/impl.errNoCommit", Rows.laid_loop_example_g00233_impl_errNoCommit)] [.data, .data, .sentinel, .sentinel, .sentinel, .sentinel, .sentinel] true :=
  Program.laidByTextLater.sub seatTie1 ["loop.example/g00233/impl.rootWords", "loop.example/g00233/impl.roundWords", "loop.example/g00233/impl.errForm", "loop.example/g00233/impl.errUnsigned", "loop.example/g00233/impl.errBack", "loop.example/g00233/impl.errRoot", "loop.example/g00233/impl.errNoCommit"] (by kernel_rfl) (by kernel_rfl)
theorem fnExactHear_row_tie : Rows.fnExactHearRow.laidByTextAt .later Tryz.pinned [.data, .data, .sentinel, .sentinel, .sentinel, .sentinel, .sentinel] true :=
  OpenClaim.laidByTextAt_later rfl rfl tie noOwnUnsafe
theorem fnExactCrashMirror_row_tie : Rows.fnExactCrashMirrorRow.laidByTextAt .later Tryz.pinned [.data, .data, .sentinel, .sentinel, .sentinel, .sentinel, .sentinel] true :=
  OpenClaim.laidByTextAt_later rfl rfl tie noOwnUnsafe
theorem tie2 : Tryz.prog.laidByTextLater [("loop.example/g00233/impl.rootWords", Rows.laid_loop_example_g00233_impl_rootWords), ("loop.example/g00233/impl.roundWords", Rows.laid_loop_example_g00233_impl_roundWords), ("loop.example/g00233/impl.errNoCommit", Rows.laid_loop_example_g00233_impl_errNoCommit)] [.data, .data, .sentinel] true :=
  Program.laidByTextLater.sub seatTie1 ["loop.example/g00233/impl.rootWords", "loop.example/g00233/impl.roundWords", "loop.example/g00233/impl.errNoCommit"] (by kernel_rfl) (by kernel_rfl)
theorem fnExactGossip_row_tie : Rows.fnExactGossipRow.laidByTextAt .later Tryz.pinned [.data, .data, .sentinel] true :=
  OpenClaim.laidByTextAt_later rfl rfl tie2 noOwnUnsafe
theorem fnExactAskFor_row_tie : Rows.fnExactAskForRow.laidByTextAt .later Tryz.pinned [.data, .data, .sentinel] true :=
  OpenClaim.laidByTextAt_later rfl rfl tie2 noOwnUnsafe
theorem fnExactSyncMirror_row_tie : Rows.fnExactSyncMirrorRow.laidByTextAt .later Tryz.pinned [.data, .data, .sentinel] true :=
  OpenClaim.laidByTextAt_later rfl rfl tie2 noOwnUnsafe
theorem fnExactHearUpto_row_tie : Rows.fnExactHearUptoRow.laidByTextAt .later Tryz.pinned [.data, .data, .sentinel, .sentinel, .sentinel, .sentinel, .sentinel] true :=
  OpenClaim.laidByTextAt_later rfl rfl tie noOwnUnsafe
theorem fnExactGossipUpto_row_tie : Rows.fnExactGossipUptoRow.laidByTextAt .later Tryz.pinned [.data, .data, .sentinel] true :=
  OpenClaim.laidByTextAt_later rfl rfl tie2 noOwnUnsafe
theorem fnExactAskForUpto_row_tie : Rows.fnExactAskForUptoRow.laidByTextAt .later Tryz.pinned [.data, .data, .sentinel] true :=
  OpenClaim.laidByTextAt_later rfl rfl tie2 noOwnUnsafe
theorem fnExactSyncMirrorUpto_row_tie : Rows.fnExactSyncMirrorUptoRow.laidByTextAt .later Tryz.pinned [.data, .data, .sentinel] true :=
  OpenClaim.laidByTextAt_later rfl rfl tie2 noOwnUnsafe
theorem fnExactCrashMirrorUpto_row_tie : Rows.fnExactCrashMirrorUptoRow.laidByTextAt .later Tryz.pinned [.data, .data, .sentinel, .sentinel, .sentinel, .sentinel, .sentinel] true :=
  OpenClaim.laidByTextAt_later rfl rfl tie noOwnUnsafe
end Go.Proofs.YtchonoonclllbabGreatDoor
