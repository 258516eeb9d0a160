/- Chapter 6, the landed code: roots. -/
import Derived.Test.YtkdlgbccaaehaabDoorTsA
import Derived.Test.YtkdlgbccaaehaabDoorTsB
import Derived.Test.YtkdlgbccaaehaabDoorTr8
import Derived.Deep.RegionHeld3
import Derived.Laws.EntriesVeiled
namespace Go.Proofs.YtkdlgbccaaehaabDoor.Tr
open Go.RowKit Go.Proofs.YtkdlgbccaaehaabDoor.Mem Go.Proofs.YtkdlgbccaaehaabDoor.Laws Go.Proofs.YtkdlgbccaaehaabDoor.Bytes Go.Proofs.YtkdlgbccaaehaabDoor.Sha
set_option linter.unusedVariables false
set_option linter.unusedSimpArgs false

theorem keepB {W W' : World} {p : Addr} {x : Value} (h : W.cell? p = some x) (b : Below W.heap.size W W') : W'.cell? p = some x := by
  rw [b.cell (World.block_lt_of_cell? W p h)]; exact h

theorem new_cellT (w : World) (u : Value) (t : TypeId) : (w.alloc (.cells #[u] t)).cell? ⟨w.heap.size, 0, none⟩ = some u := by
  rw [cell_of_row _ w.heap.size 0 #[u] t (0, 0) (heap_alloc_new w _)]
  rfl

end Go.Proofs.YtkdlgbccaaehaabDoor.Tr
