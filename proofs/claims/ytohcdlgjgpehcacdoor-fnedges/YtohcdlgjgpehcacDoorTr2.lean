/- Chapter 6, the specification's side: leaves, nodes, roots. -/
import Derived.Test.YtohcdlgjgpehcacDoorTr1
import Derived.Test.YtohcdlgjgpehcacDoorSha4
import Derived.Deep.RegionHeld3
namespace Go.Proofs.YtohcdlgjgpehcacDoor.Tr
open Go.RowKit Go.Proofs.YtohcdlgjgpehcacDoor.Mem Go.Proofs.YtohcdlgjgpehcacDoor.Laws Go.Proofs.YtohcdlgjgpehcacDoor.Bytes Go.Proofs.YtohcdlgjgpehcacDoor.Sha
set_option linter.unusedVariables false
set_option linter.unusedSimpArgs false

theorem oneB (w : World) (lo : Nat) (x : Int) (h : lo ≤ w.heap.size) : Own (w.alloc (.cells #[.int .u8 x] 5)) lo (w.alloc (.cells #[.int .u8 x] 5)).heap.size 5 (.slice (some ⟨w.heap.size, 0, none⟩) 1 1) (bs [x]) := by
  exact Own.of (World.ownsRow_lit (e := 5) (base := lo) (size := 1) w #[.int .u8 x] 1 h (by unfold maxLen; omega) rfl)

end Go.Proofs.YtohcdlgjgpehcacDoor.Tr
