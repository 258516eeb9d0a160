/- Texts in one: Is1. -/
import Derived.Test.YtfpaichdkddglabDoorPk2
import Derived.Test.YtfpaichdkddglabDoorChecked
import Derived.WalkKit
import Derived.LaidEql
import Derived.Stop.Asserts
import Derived.RowKitTokens
/- errors.Is at an error of a type of its own (a struct by value, with Unwrap) that wraps an error made by errors.New; the library's own text is walked. -/
namespace Go.Proofs.YtfpaichdkddglabDoor.Is
open Go.RowKit Go.Extern.Stop Go.Stop Go.Extern
set_option linter.unusedVariables false
set_option linter.unusedSimpArgs false

end Go.Proofs.YtfpaichdkddglabDoor.Is
