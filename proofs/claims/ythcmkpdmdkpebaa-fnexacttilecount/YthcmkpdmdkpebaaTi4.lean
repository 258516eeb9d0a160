/- Chapter 9: the exact laws, over contracts of the landed functions. -/
import Derived.Test.YthcmkpdmdkpebaaTi3
import Derived.Test.YthcmkpdmdkpebaaTrX
namespace Go.Proofs.Ythcmkpdmdkpebaa.Ti
open Go.RowKit Go.Proofs.Ythcmkpdmdkpebaa.Mem Go.Proofs.Ythcmkpdmdkpebaa.Laws Go.Proofs.Ythcmkpdmdkpebaa.Bytes Go.Proofs.Ythcmkpdmdkpebaa.Sha Go.Proofs.Ythcmkpdmdkpebaa.Tr
set_option linter.unusedVariables false
set_option linter.unusedSimpArgs false

set_option maxRecDepth 1000000 in
set_option maxHeartbeats 1000000 in
theorem exact_count (w : World) (n level : Int)
    (iF : ∀ W, Below w.heap.size w W → Calls Try.prog 5 #[.int .i64 n, .int .i64 level] W fun e w' => e = .returned (.int .i64 (tileCount n level : Int)) ∧ Below W.heap.size W w') :
    Calls Try.prog 3 #[.int .i64 n, .int .i64 level] w fun e w' => e = .returned (.bool true) ∧ Below w.heap.size w w' := by
  have q1 := count_spec w n level
  have q2 := iF w (Below.refl _ _)
  obtain ⟨T, hT⟩ : ∃ T : Nat, tileCount n level = T := ⟨_, rfl⟩
  rw [hT] at q1 q2
  clear iF hT
  go_enter Try.func3, Try.ntmps3
  go_wp2_with fail
  refine q1.mono ?_
  rintro e W1 ⟨rfl, rfl⟩
  go_wp2_with fail
  refine q2.mono ?_
  rintro e W2 ⟨rfl, b2⟩
  go_wp2
  go_ret
  exact ⟨rfl, b2⟩

end Go.Proofs.Ythcmkpdmdkpebaa.Ti
