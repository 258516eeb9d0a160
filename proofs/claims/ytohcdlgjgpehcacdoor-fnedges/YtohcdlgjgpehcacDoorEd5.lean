/- Chapter 7, the specification's side: the edge of texts; its root. -/
import Derived.Test.YtohcdlgjgpehcacDoorEd4
namespace Go.Proofs.YtohcdlgjgpehcacDoor.Ed
open Go.RowKit Go.Proofs.YtohcdlgjgpehcacDoor.Mem Go.Proofs.YtohcdlgjgpehcacDoor.Laws Go.Proofs.YtohcdlgjgpehcacDoor.Bytes Go.Proofs.YtohcdlgjgpehcacDoor.Sha Go.Proofs.YtohcdlgjgpehcacDoor.Tr
set_option linter.unusedVariables false
set_option linter.unusedSimpArgs false

theorem nil9 (w : World) (lo hi : Nat) : Own w lo hi 9 (.slice none 0 0) (ss []) :=
  ⟨World.ownsRow_nil w lo 9 1, fun g hg => by simp [Value.ownBlock] at hg⟩

end Go.Proofs.YtohcdlgjgpehcacDoor.Ed
