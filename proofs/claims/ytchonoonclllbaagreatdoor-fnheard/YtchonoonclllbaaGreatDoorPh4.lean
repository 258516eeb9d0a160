/- Texts in one: Row2. -/
import Derived.Test.YtchonoonclllbaaGreatDoorPh2
import Derived.Test.YtchonoonclllbaaGreatDoorPh3
import Derived.Deep.MidRow
import Derived.Laws.OwnMore
set_option maxHeartbeats 16000000
set_option linter.unusedVariables false
set_option linter.unusedSimpArgs false
namespace Go.Proofs.YtchonoonclllbaaGreatDoor.Mem
open Go.RowKit
def putL : List Value → Nat → List Value → List Value
 | cs, _, [] => cs
 | cs, o, v :: r => putL (cs.set o v) (o + 1) r
theorem size_setCells (g : Nat) : ∀ (vs : List Value) (o : Nat) (w : World), (w.setCells g o vs).heap.size = w.heap.size := by
 intro vs
 induction vs with
 | nil => intro o w; rfl
 | cons v r ih => intro o w; rw [World.setCells, ih]; simp [World.setCell]
theorem heap_setCells (g : Nat) : ∀ (vs : List Value) (o : Nat) (w : World) (cur : List Value) (e : TypeId), w.heap[g]? = some (.cells cur.toArray e (0, 0)) → (w.setCells g o vs).heap[g]? = some (.cells (putL cur o vs).toArray e (0, 0)) := by
 intro vs
 induction vs with
 | nil => intro o w cur e h; exact h
 | cons v r ih =>
  intro o w cur e h
  rw [World.setCells, putL]
  refine ih (o + 1) _ _ e ?_
  rw [heap_setCell_same w g o cur.toArray e v h]
  simp
theorem heap_setCells_other (g k : Nat) (hk : k ≠ g) : ∀ (vs : List Value) (o : Nat) (w : World), (w.setCells g o vs).heap[k]? = w.heap[k]? := by
 intro vs
 induction vs with
 | nil => intro o w; rfl
 | cons v r ih =>
  intro o w
  rw [World.setCells, ih]
  exact heap_setCell_other w ⟨g, o, none⟩ k v hk
theorem rowKeep {w w' : World} {g : Nat} {o : Obj} (h : w.heap[g]? = some o) (hb : Below w.heap.size w w') : w'.heap[g]? = some o := (hb.block g (Array.getElem?_eq_some_iff.1 h).1).trans h
theorem there_row {w : World} {g o n : Nat} {cur : Array Value} {e : TypeId} (h : w.heap[g]? = some (.cells cur e (0, 0))) (hn : o + n ≤ cur.size) : w.there g o n := by
 intro j hj
 refine ⟨?_, frozen_of_row w g (o + j) cur e h⟩
 rw [cell_of_row w g (o + j) cur e (0, 0) h]
 simp
 omega
end Go.Proofs.YtchonoonclllbaaGreatDoor.Mem
