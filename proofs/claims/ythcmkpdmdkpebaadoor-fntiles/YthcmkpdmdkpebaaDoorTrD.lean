/- Chapter 6: drawn leaves. -/
import Derived.Test.YthcmkpdmdkpebaaDoorTr4
import Derived.Test.YthcmkpdmdkpebaaDoorDraw
namespace Go.Proofs.YthcmkpdmdkpebaaDoor.Tr
open Go.RowKit Go.Proofs.YthcmkpdmdkpebaaDoor.Mem Go.Proofs.YthcmkpdmdkpebaaDoor.Laws Go.Proofs.YthcmkpdmdkpebaaDoor.Bytes Go.Proofs.YthcmkpdmdkpebaaDoor.Sha Go.Proofs.YthcmkpdmdkpebaaDoor.Draw
set_option linter.unusedVariables false
set_option linter.unusedSimpArgs false

/-- the texts that l6List draws of -/
def four6 : List ByteArray := [⟨#[]⟩, ⟨#[97]⟩, ⟨#[98]⟩, ⟨#[120, 121, 122]⟩]
theorem four6_size : ∀ s ∈ four6, s.size ≤ 3 := by decide

end Go.Proofs.YthcmkpdmdkpebaaDoor.Tr
