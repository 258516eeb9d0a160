/- Chapter 10: drawn tables of heads. -/
import Derived.Test.YteemblfjghnooaaHe6
namespace Go.Proofs.Yteemblfjghnooaa.He
open Go.RowKit Go.Proofs.Yteemblfjghnooaa.Mem Go.Proofs.Yteemblfjghnooaa.Laws Go.Proofs.Yteemblfjghnooaa.Bytes Go.Proofs.Yteemblfjghnooaa.Sha Go.Proofs.Yteemblfjghnooaa.Tr Go.Proofs.Yteemblfjghnooaa.Draw
set_option linter.unusedVariables false
set_option linter.unusedSimpArgs false

theorem sz_snoc {T : List Hd} {M : Hd} (h : ∀ x ∈ T, x.r.size ≤ 32) (hm : M.r.size ≤ 32) : ∀ x ∈ T ++ [M], x.r.size ≤ 32 := by
  intro x hx
  rcases List.mem_append.1 hx with h1 | h1
  · exact h x h1
  · rw [List.mem_singleton] at h1; rw [h1]; exact hm

end Go.Proofs.Yteemblfjghnooaa.He
