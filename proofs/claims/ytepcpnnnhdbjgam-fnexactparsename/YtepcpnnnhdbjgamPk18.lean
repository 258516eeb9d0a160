/- Texts in one: EfA. -/
import Derived.Test.YtepcpnnnhdbjgamPk11
import Derived.Test.YtepcpnnnhdbjgamPk17
/- Chapter 5, the landed code: needs. -/
namespace Go.Proofs.Ytepcpnnnhdbjgam.Ent
open Go.RowKit Go.Proofs.Ytepcpnnnhdbjgam.Mem Go.Proofs.Ytepcpnnnhdbjgam.Laws Go.Proofs.Ytepcpnnnhdbjgam.Bytes Go.Proofs.Ytepcpnnnhdbjgam.Sha Go.Proofs.Ytepcpnnnhdbjgam.Ver Go.Proofs.Ytepcpnnnhdbjgam.Mod
set_option linter.unusedVariables false
set_option linter.unusedSimpArgs false

set_option maxRecDepth 1000000 in
set_option maxHeartbeats 1000000 in
theorem need_impl (w : World) (n : Nd) (hp : n.path.size ≤ 1000000000000) (hq : n.pre.size ≤ 1000000000000) :
    Calls Try.prog 13 #[.agg #[.string n.path, .int .i64 n.a, .int .i64 n.b, .int .i64 n.c, .string n.pre]] w fun e w' => e = .returned (.bool n.ok) ∧ Below w.heap.size w w' := by
  have q : ∀ W, _ := fun W => fits_impl W n.path n.a n.b n.c n.pre hp hq
  unfold Ver.ver at q
  have HR : Hid (Nr (w.alloc (.cells #[.string n.path, .int .i64 n.a, .int .i64 n.b, .int .i64 n.c, .string n.pre] 25)) w.heap.size n) := heap_alloc_new w _
  obtain ⟨k0, k1, k2, k3, k4⟩ := Nr.cells HR.out
  have hB : Below w.heap.size w (w.alloc (.cells #[.string n.path, .int .i64 n.a, .int .i64 n.b, .int .i64 n.c, .string n.pre] 25)) := (Below.refl _ _).alloc (Nat.le_refl _) _
  go_enter Try.func13, Try.ntmps13
  go_wp2_with fail
  refine (q _).mono ?_
  rintro e w1 ⟨rfl, b1⟩
  have hB1 : Below w.heap.size w w1 := hB.trans (b1.mono hB.size)
  go_wp2
  go_ret
  exact ⟨rfl, hB1⟩

end Go.Proofs.Ytepcpnnnhdbjgam.Ent
