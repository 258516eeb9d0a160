/- Chapter 7, the specification's side: one more. -/
import Derived.Test.YtohcdlgjgpehcacDoorEd2
namespace Go.Proofs.YtohcdlgjgpehcacDoor.Ed
open Go.RowKit Go.Proofs.YtohcdlgjgpehcacDoor.Mem Go.Proofs.YtohcdlgjgpehcacDoor.Laws Go.Proofs.YtohcdlgjgpehcacDoor.Bytes Go.Proofs.YtohcdlgjgpehcacDoor.Sha Go.Proofs.YtohcdlgjgpehcacDoor.Tr
set_option linter.unusedVariables false
set_option linter.unusedSimpArgs false

end Go.Proofs.YtohcdlgjgpehcacDoor.Ed
