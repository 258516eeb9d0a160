/- Chapter 3, the specification's side: a version's text. -/
import Derived.Test.YtnoopfpgkgjdcalVer4
namespace Go.Proofs.Ytnoopfpgkgjdcal.Ver
set_option linter.unusedVariables false
set_option linter.unusedSimpArgs false
open Go.RowKit Go.Proofs.Ytnoopfpgkgjdcal.Mem Go.Proofs.Ytnoopfpgkgjdcal.Laws Go.Proofs.Ytnoopfpgkgjdcal.Bytes Go.Proofs.Ytnoopfpgkgjdcal.Sha

end Go.Proofs.Ytnoopfpgkgjdcal.Ver
