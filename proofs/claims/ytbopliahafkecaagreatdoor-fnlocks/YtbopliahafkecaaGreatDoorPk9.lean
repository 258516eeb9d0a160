/- Texts in one: Ver7. -/
import Derived.Test.YtbopliahafkecaaGreatDoorPk8
/- Chapter 3, the specification's side: versions in order, and what is bumped. -/
namespace Go.Proofs.YtbopliahafkecaaGreatDoor.Ver
set_option linter.unusedVariables false
set_option linter.unusedSimpArgs false
open Go.RowKit Go.Proofs.YtbopliahafkecaaGreatDoor.Mem Go.Proofs.YtbopliahafkecaaGreatDoor.Laws Go.Proofs.YtbopliahafkecaaGreatDoor.Bytes Go.Proofs.YtbopliahafkecaaGreatDoor.Sha

def lessV (a1 b1 c1 : Int) (p1 : ByteArray) (a2 b2 c2 : Int) (p2 : ByteArray) : Bool :=
  if a1 ≠ a2 then decide (a1 < a2) else if b1 ≠ b2 then decide (b1 < b2) else if c1 ≠ c2 then decide (c1 < c2)
  else if eqT p1 p2 = true ∨ p1.size = 0 then false else if p2.size = 0 then true else lessPre p1 p2

end Go.Proofs.YtbopliahafkecaaGreatDoor.Ver
