/- Chapter 3, the specification's side: a version's text. -/
import Derived.Test.YtnoopfpgkgjdcabVer4
namespace Go.Proofs.Ytnoopfpgkgjdcab.Ver
set_option linter.unusedVariables false
set_option linter.unusedSimpArgs false
open Go.RowKit Go.Proofs.Ytnoopfpgkgjdcab.Mem Go.Proofs.Ytnoopfpgkgjdcab.Laws Go.Proofs.Ytnoopfpgkgjdcab.Bytes Go.Proofs.Ytnoopfpgkgjdcab.Sha

end Go.Proofs.Ytnoopfpgkgjdcab.Ver
