/- Contracts of the draws of chapter 2: some bytes, in new memory. -/
import Derived.Test.YtpnmhanjibhgoaaDoorDraw
namespace Go.Proofs.YtpnmhanjibhgoaaDoor.Draw
open Go.RowKit Go.Proofs.YtpnmhanjibhgoaaDoor.Mem Go.Proofs.YtpnmhanjibhgoaaDoor.Laws Go.Proofs.YtpnmhanjibhgoaaDoor.Bytes
set_option linter.unusedVariables false

end Go.Proofs.YtpnmhanjibhgoaaDoor.Draw
