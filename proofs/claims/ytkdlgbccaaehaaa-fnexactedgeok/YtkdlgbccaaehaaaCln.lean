/- The library's strings.Clone: a copy of a text. -/
import Derived.Test.YtkdlgbccaaehaaaTr4
import Derived.WalkKit
import Derived.Lib.Strings
import Derived.Lib.Walk
import Derived.Lib.BufferWrite
import Derived.Lib.UnsafeStr
import Derived.Lib.Hide
import Derived.Laws.MakeOwn
namespace Go.Proofs.Ytkdlgbccaaehaaa.Cln
open Go.RowKit Go.Proofs.Ytkdlgbccaaehaaa.Mem Go.Proofs.Ytkdlgbccaaehaaa.Laws Go.Proofs.Ytkdlgbccaaehaaa.Bytes Go.Proofs.Ytkdlgbccaaehaaa.Sha
set_option linter.unusedVariables false
set_option linter.unusedSimpArgs false

end Go.Proofs.Ytkdlgbccaaehaaa.Cln
