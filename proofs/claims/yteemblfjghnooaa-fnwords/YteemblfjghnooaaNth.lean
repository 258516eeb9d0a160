/- Blocks that were made one behind the other; no program is named here. -/
import Derived.Test.YteemblfjghnooaaRec
namespace Go.Proofs.Yteemblfjghnooaa.Mem
open Go.RowKit
set_option linter.unusedVariables false
set_option linter.unusedSimpArgs false

theorem alloc_nth1_0 (w : World) (O0 : Obj) : (w.alloc O0).heap[w.heap.size]? = some O0 := by
  exact heap_alloc_new w O0
theorem alloc_nth2_0 (w : World) (O0 O1 : Obj) : ((w.alloc O0).alloc O1).heap[w.heap.size]? = some O0 := by
  rw [heap_alloc_old _ _ (by simp; try omega)]
  exact alloc_nth1_0 w O0
theorem alloc_nth2_1 (w : World) (O0 O1 : Obj) : ((w.alloc O0).alloc O1).heap[w.heap.size + 1]? = some O1 := by
  have h := heap_alloc_new (w.alloc O0) O1
  simpa using h
theorem alloc_nth3_0 (w : World) (O0 O1 O2 : Obj) : (((w.alloc O0).alloc O1).alloc O2).heap[w.heap.size]? = some O0 := by
  rw [heap_alloc_old _ _ (by simp; try omega)]
  exact alloc_nth2_0 w O0 O1
theorem alloc_nth3_1 (w : World) (O0 O1 O2 : Obj) : (((w.alloc O0).alloc O1).alloc O2).heap[w.heap.size + 1]? = some O1 := by
  rw [heap_alloc_old _ _ (by simp; try omega)]
  exact alloc_nth2_1 w O0 O1
theorem alloc_nth3_2 (w : World) (O0 O1 O2 : Obj) : (((w.alloc O0).alloc O1).alloc O2).heap[w.heap.size + 1 + 1]? = some O2 := by
  have h := heap_alloc_new ((w.alloc O0).alloc O1) O2
  simpa using h
theorem alloc_nth4_0 (w : World) (O0 O1 O2 O3 : Obj) : ((((w.alloc O0).alloc O1).alloc O2).alloc O3).heap[w.heap.size]? = some O0 := by
  rw [heap_alloc_old _ _ (by simp; try omega)]
  exact alloc_nth3_0 w O0 O1 O2
theorem alloc_nth4_1 (w : World) (O0 O1 O2 O3 : Obj) : ((((w.alloc O0).alloc O1).alloc O2).alloc O3).heap[w.heap.size + 1]? = some O1 := by
  rw [heap_alloc_old _ _ (by simp; try omega)]
  exact alloc_nth3_1 w O0 O1 O2
theorem alloc_nth4_2 (w : World) (O0 O1 O2 O3 : Obj) : ((((w.alloc O0).alloc O1).alloc O2).alloc O3).heap[w.heap.size + 1 + 1]? = some O2 := by
  rw [heap_alloc_old _ _ (by simp; try omega)]
  exact alloc_nth3_2 w O0 O1 O2
theorem alloc_nth4_3 (w : World) (O0 O1 O2 O3 : Obj) : ((((w.alloc O0).alloc O1).alloc O2).alloc O3).heap[w.heap.size + 1 + 1 + 1]? = some O3 := by
  have h := heap_alloc_new (((w.alloc O0).alloc O1).alloc O2) O3
  simpa using h
theorem alloc_nth5_0 (w : World) (O0 O1 O2 O3 O4 : Obj) : (((((w.alloc O0).alloc O1).alloc O2).alloc O3).alloc O4).heap[w.heap.size]? = some O0 := by
  rw [heap_alloc_old _ _ (by simp; try omega)]
  exact alloc_nth4_0 w O0 O1 O2 O3
theorem alloc_nth5_1 (w : World) (O0 O1 O2 O3 O4 : Obj) : (((((w.alloc O0).alloc O1).alloc O2).alloc O3).alloc O4).heap[w.heap.size + 1]? = some O1 := by
  rw [heap_alloc_old _ _ (by simp; try omega)]
  exact alloc_nth4_1 w O0 O1 O2 O3
theorem alloc_nth5_2 (w : World) (O0 O1 O2 O3 O4 : Obj) : (((((w.alloc O0).alloc O1).alloc O2).alloc O3).alloc O4).heap[w.heap.size + 1 + 1]? = some O2 := by
  rw [heap_alloc_old _ _ (by simp; try omega)]
  exact alloc_nth4_2 w O0 O1 O2 O3
theorem alloc_nth5_3 (w : World) (O0 O1 O2 O3 O4 : Obj) : (((((w.alloc O0).alloc O1).alloc O2).alloc O3).alloc O4).heap[w.heap.size + 1 + 1 + 1]? = some O3 := by
  rw [heap_alloc_old _ _ (by simp; try omega)]
  exact alloc_nth4_3 w O0 O1 O2 O3
theorem alloc_nth5_4 (w : World) (O0 O1 O2 O3 O4 : Obj) : (((((w.alloc O0).alloc O1).alloc O2).alloc O3).alloc O4).heap[w.heap.size + 1 + 1 + 1 + 1]? = some O4 := by
  have h := heap_alloc_new ((((w.alloc O0).alloc O1).alloc O2).alloc O3) O4
  simpa using h

end Go.Proofs.Yteemblfjghnooaa.Mem
