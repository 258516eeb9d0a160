/- Texts in one: Row2. -/
import Derived.Test.YtchonoonclllbaaDoorPk2
import Derived.Test.YtchonoonclllbaaDoorPk3
import Derived.Deep.MidRow
import Derived.Laws.OwnMore
namespace Go.Proofs.YtchonoonclllbaaDoor.Mem
open Go.RowKit
set_option linter.unusedVariables false
set_option linter.unusedSimpArgs false
theorem rowKeep {w w' : World} {g : Nat} {o : Obj} (h : w.heap[g]? = some o) (hb : Below w.heap.size w w') : w'.heap[g]? = some o := (hb.block g (Array.getElem?_eq_some_iff.1 h).1).trans h
end Go.Proofs.YtchonoonclllbaaDoor.Mem
