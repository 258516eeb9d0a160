/- Chapter 6, the specification's side: leaves, nodes, roots. -/
import Derived.Test.YthcmkpdmdkpebaaTr1
import Derived.Test.YthcmkpdmdkpebaaSha4
import Derived.Deep.RegionHeld3
namespace Go.Proofs.Ythcmkpdmdkpebaa.Tr
open Go.RowKit Go.Proofs.Ythcmkpdmdkpebaa.Mem Go.Proofs.Ythcmkpdmdkpebaa.Laws Go.Proofs.Ythcmkpdmdkpebaa.Bytes Go.Proofs.Ythcmkpdmdkpebaa.Sha
set_option linter.unusedVariables false
set_option linter.unusedSimpArgs false

theorem oneB (w : World) (lo : Nat) (x : Int) (h : lo ≤ w.heap.size) : Own (w.alloc (.cells #[.int .u8 x] 5)) lo (w.alloc (.cells #[.int .u8 x] 5)).heap.size 5 (.slice (some ⟨w.heap.size, 0, none⟩) 1 1) (bs [x]) := by
  exact Own.of (World.ownsRow_lit (e := 5) (base := lo) (size := 1) w #[.int .u8 x] 1 h (by unfold maxLen; omega) rfl)

end Go.Proofs.Ythcmkpdmdkpebaa.Tr
