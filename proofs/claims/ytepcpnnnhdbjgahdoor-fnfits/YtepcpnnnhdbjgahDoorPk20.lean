/- Texts in one: EfA. -/
import Derived.Test.YtepcpnnnhdbjgahDoorPk12
import Derived.Test.YtepcpnnnhdbjgahDoorPk19
/- Chapter 5, the landed code: needs. -/
namespace Go.Proofs.YtepcpnnnhdbjgahDoor.Ent
open Go.RowKit Go.Proofs.YtepcpnnnhdbjgahDoor.Mem Go.Proofs.YtepcpnnnhdbjgahDoor.Laws Go.Proofs.YtepcpnnnhdbjgahDoor.Bytes Go.Proofs.YtepcpnnnhdbjgahDoor.Sha Go.Proofs.YtepcpnnnhdbjgahDoor.Ver Go.Proofs.YtepcpnnnhdbjgahDoor.Mod
set_option linter.unusedVariables false
set_option linter.unusedSimpArgs false

set_option maxRecDepth 1000000 in
set_option maxHeartbeats 1000000 in
theorem need_impl (w : World) (n : Nd) (hp : n.path.size ≤ 1000000000000) (hq : n.pre.size ≤ 1000000000000) :
    Calls Tryd.prog 6 #[.agg #[.string n.path, .int .i64 n.a, .int .i64 n.b, .int .i64 n.c, .string n.pre]] w fun e w' => e = .returned (.bool n.ok) ∧ Below w.heap.size w w' := by
  have q : ∀ W, _ := fun W => fits_impl W n.path n.a n.b n.c n.pre hp hq
  unfold Ver.ver at q
  have HR : Hid (Nr (w.alloc (.cells #[.string n.path, .int .i64 n.a, .int .i64 n.b, .int .i64 n.c, .string n.pre] 27)) w.heap.size n) := heap_alloc_new w _
  obtain ⟨k0, k1, k2, k3, k4⟩ := Nr.cells HR.out
  have hB : Below w.heap.size w (w.alloc (.cells #[.string n.path, .int .i64 n.a, .int .i64 n.b, .int .i64 n.c, .string n.pre] 27)) := (Below.refl _ _).alloc (Nat.le_refl _) _
  go_enter Tryd.func6, Tryd.ntmps6
  go_wp2_with fail
  refine (q _).mono ?_
  rintro e w1 ⟨rfl, b1⟩
  have hB1 : Below w.heap.size w w1 := hB.trans (b1.mono hB.size)
  go_wp2
  go_ret
  exact ⟨rfl, hB1⟩

end Go.Proofs.YtepcpnnnhdbjgahDoor.Ent
