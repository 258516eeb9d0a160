/- Chapter 3, the specification's side: a version's text. -/
import Derived.Test.YtbpgdagmffbagabVer4
namespace Go.Proofs.Ytbpgdagmffbagab.Ver
set_option linter.unusedVariables false
set_option linter.unusedSimpArgs false
open Go.RowKit Go.Proofs.Ytbpgdagmffbagab.Mem Go.Proofs.Ytbpgdagmffbagab.Laws Go.Proofs.Ytbpgdagmffbagab.Bytes Go.Proofs.Ytbpgdagmffbagab.Sha

end Go.Proofs.Ytbpgdagmffbagab.Ver
