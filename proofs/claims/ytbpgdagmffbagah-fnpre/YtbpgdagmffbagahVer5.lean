/- Chapter 3, the specification's side: a version's text. -/
import Derived.Test.YtbpgdagmffbagahVer4
namespace Go.Proofs.Ytbpgdagmffbagah.Ver
set_option linter.unusedVariables false
set_option linter.unusedSimpArgs false
open Go.RowKit Go.Proofs.Ytbpgdagmffbagah.Mem Go.Proofs.Ytbpgdagmffbagah.Laws Go.Proofs.Ytbpgdagmffbagah.Bytes Go.Proofs.Ytbpgdagmffbagah.Sha

end Go.Proofs.Ytbpgdagmffbagah.Ver
