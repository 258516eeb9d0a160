/- Chapter 6, the specification's side: what tells that a list came of its beginning. -/
import Derived.Test.YteemblfjghnooaaTr4
namespace Go.Proofs.Yteemblfjghnooaa.Tr
open Go.RowKit Go.Proofs.Yteemblfjghnooaa.Mem Go.Proofs.Yteemblfjghnooaa.Laws Go.Proofs.Yteemblfjghnooaa.Bytes Go.Proofs.Yteemblfjghnooaa.Sha
set_option linter.unusedVariables false
set_option linter.unusedSimpArgs false

theorem oneS (w : World) (lo : Nat) (x : ByteArray) (h : lo ≤ w.heap.size) : Own (w.alloc (.cells #[.string x] 9)) lo (w.alloc (.cells #[.string x] 9)).heap.size 9 (.slice (some ⟨w.heap.size, 0, none⟩) 1 1) (ss [x]) := by
  exact Own.of (World.ownsRow_lit (e := 9) (base := lo) (size := 1) w #[.string x] 1 h (by unfold maxLen; omega) rfl)
theorem gdep_le (m : Nat) : ∀ n whole, gdep n m whole ≤ m + 1 := by
  refine natRec (P := fun m => ∀ n whole, gdep n m whole ≤ m + 1) ?_ m
  intro m ih n whole
  rw [gdep_if]
  split
  · split <;> omega
  · split
    · rename_i h
      have hk := half_ok h
      have hp := half_pos h
      split
      · have := ih (half m) (by omega) n whole; omega
      · have := ih (m - half m) (by omega) (n - half m) false; omega
    · omega

end Go.Proofs.Yteemblfjghnooaa.Tr
