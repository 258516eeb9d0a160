/- Texts in one: Bytes. -/
import Derived.Test.YtchonoonclllbaaGreatDoorRows
import Derived.Test.YtchonoonclllbaaGreatDoorPh1
import Derived.WalkKit
import Derived.WalkSpells
import Derived.WalkLawsBesides
import Derived.Deep.QuietTactic
import Derived.BigQuiet
set_option maxHeartbeats 16000000
set_option linter.unusedVariables false
set_option linter.unusedSimpArgs false
namespace Go.Proofs.YtchonoonclllbaaGreatDoor.Bytes
open Go.RowKit Mem
theorem info5 : (Tryz.prog.info? 5).map (fun i => (i.zero, i.size, i.bytes)) = some (some (.int .u8 0), 1, 1) := by kernel_rfl
theorem take_snoc {xs : List Int} {k : Nat} {c : Int} (h : xs[k]? = some c) : xs.take (k + 1) = xs.take k ++ [c] := by
 obtain ⟨hk, rfl⟩ := List.getElem?_eq_some_iff.1 h
 exact List.take_succ_eq_append_getElem hk
end Go.Proofs.YtchonoonclllbaaGreatDoor.Bytes
