/- Chapter 6, the specification's side: paths. -/
import Derived.Test.YteemblfjghnooaaTr3
namespace Go.Proofs.Yteemblfjghnooaa.Tr
open Go.RowKit Go.Proofs.Yteemblfjghnooaa.Mem Go.Proofs.Yteemblfjghnooaa.Laws Go.Proofs.Yteemblfjghnooaa.Bytes Go.Proofs.Yteemblfjghnooaa.Sha
set_option linter.unusedVariables false
set_option linter.unusedSimpArgs false

theorem emptyT (w : World) (lo : Nat) (h : lo ≤ w.heap.size) : Own (w.alloc (.cells #[] 9)) lo (w.alloc (.cells #[] 9)).heap.size 9 (.slice (some ⟨w.heap.size, 0, none⟩) 0 0) (ss []) :=
  Own.of (World.ownsRow_lit w #[] 0 h (Nat.zero_le _) rfl)
theorem oneT (s : ByteArray) : ∀ u ∈ [Value.string s], u.oneCell' = true := by
  intro u hu
  simp at hu
  subst hu
  rfl
theorem info9t : (Try.prog.info? 9).map (fun i => (i.zero, i.size, i.bytes)) = some (some (.string ⟨#[]⟩), 1, 16) := by kernel_rfl
theorem dep_le (n : Nat) : ∀ i, dep i n ≤ n := by
  refine natRec (P := fun n => ∀ i, dep i n ≤ n) ?_ n
  intro n ih i
  by_cases h : 2 ≤ n
  · have hk := half_ok h
    have hp := half_pos h
    rw [dep_if, if_pos h]
    split
    · have := ih (half n) (by omega) i; omega
    · have := ih (n - half n) (by omega) (i - half n); omega
  · rw [dep_if, if_neg h]; omega

end Go.Proofs.Yteemblfjghnooaa.Tr
