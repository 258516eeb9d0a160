/- Chapter 7, the specification's side: the edge of texts; its root. -/
import Derived.Test.YtkdlgbccaaehaaaEd4
namespace Go.Proofs.Ytkdlgbccaaehaaa.Ed
open Go.RowKit Go.Proofs.Ytkdlgbccaaehaaa.Mem Go.Proofs.Ytkdlgbccaaehaaa.Laws Go.Proofs.Ytkdlgbccaaehaaa.Bytes Go.Proofs.Ytkdlgbccaaehaaa.Sha Go.Proofs.Ytkdlgbccaaehaaa.Tr
set_option linter.unusedVariables false
set_option linter.unusedSimpArgs false

theorem nil9 (w : World) (lo hi : Nat) : Own w lo hi 9 (.slice none 0 0) (ss []) :=
  ⟨World.ownsRow_nil w lo 9 1, fun g hg => by simp [Value.ownBlock] at hg⟩

end Go.Proofs.Ytkdlgbccaaehaaa.Ed
