/- Chapter 7, the specification's side: one more, or not; the edge of texts; its root. -/
import Derived.Test.YtkdlgbccaaehaaaEd3
namespace Go.Proofs.Ytkdlgbccaaehaaa.Ed
open Go.RowKit Go.Proofs.Ytkdlgbccaaehaaa.Mem Go.Proofs.Ytkdlgbccaaehaaa.Laws Go.Proofs.Ytkdlgbccaaehaaa.Bytes Go.Proofs.Ytkdlgbccaaehaaa.Sha Go.Proofs.Ytkdlgbccaaehaaa.Tr
set_option linter.unusedVariables false
set_option linter.unusedSimpArgs false

end Go.Proofs.Ytkdlgbccaaehaaa.Ed
