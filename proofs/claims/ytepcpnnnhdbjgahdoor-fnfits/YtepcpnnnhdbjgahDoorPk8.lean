/- Texts in one: Ent2. -/
import Derived.Test.YtepcpnnnhdbjgahDoorPk7
import Derived.Deep.RegionHeld3
/- Chapter 5, the specification's side: needs. -/
namespace Go.Proofs.YtepcpnnnhdbjgahDoor.Ent
open Go.RowKit Go.Proofs.YtepcpnnnhdbjgahDoor.Mem Go.Proofs.YtepcpnnnhdbjgahDoor.Laws Go.Proofs.YtepcpnnnhdbjgahDoor.Bytes Go.Proofs.YtepcpnnnhdbjgahDoor.Sha Go.Proofs.YtepcpnnnhdbjgahDoor.Ver Go.Proofs.YtepcpnnnhdbjgahDoor.Mod
set_option linter.unusedVariables false
set_option linter.unusedSimpArgs false

theorem geq_str (t : TypeId) (a b : ByteArray) : binOp .geq t (.string a) (.string b) = pure (.bool !(ltT a b)) := by simp [binOp, Op.stringOp, ltT]

/-- a block holds a need -/
def Nr (w : World) (g : Nat) (n : Nd) : Prop := w.heap[g]? = some (.cells #[.string n.path, .int .i64 n.a, .int .i64 n.b, .int .i64 n.c, .string n.pre] 27 (0, 0))
theorem Nr.cells {w : World} {g : Nat} {n : Nd} (h : Nr w g n) : w.cell? ⟨g, 0, none⟩ = some (.string n.path) ∧ w.cell? ⟨g, 1, none⟩ = some (.int .i64 n.a) ∧ w.cell? ⟨g, 2, none⟩ = some (.int .i64 n.b) ∧ w.cell? ⟨g, 3, none⟩ = some (.int .i64 n.c) ∧ w.cell? ⟨g, 4, none⟩ = some (.string n.pre) := by
  unfold Nr at h
  refine ⟨?_, ?_, ?_, ?_, ?_⟩ <;> simp [World.cell?, h]

set_option maxRecDepth 1000000 in
set_option maxHeartbeats 1000000 in
theorem need_spec (w : World) (n : Nd) (hp : n.path.size ≤ 1000000000000) (hq : n.pre.size ≤ 1000000000000) :
    Calls Tryd.prog 7 #[.agg #[.string n.path, .int .i64 n.a, .int .i64 n.b, .int .i64 n.c, .string n.pre]] w fun e w' => e = .returned (.bool n.ok) ∧ Below w.heap.size w w' := by
  have q : ∀ W, _ := fun W => fits_spec W n.path n.a n.b n.c n.pre hp hq
  unfold Ver.ver at q
  have HR : Hid (Nr (w.alloc (.cells #[.string n.path, .int .i64 n.a, .int .i64 n.b, .int .i64 n.c, .string n.pre] 27)) w.heap.size n) := heap_alloc_new w _
  obtain ⟨k0, k1, k2, k3, k4⟩ := Nr.cells HR.out
  have hB : Below w.heap.size w (w.alloc (.cells #[.string n.path, .int .i64 n.a, .int .i64 n.b, .int .i64 n.c, .string n.pre] 27)) := (Below.refl _ _).alloc (Nat.le_refl _) _
  go_enter Tryd.func7, Tryd.ntmps7
  go_wp2_with fail
  refine (q _).mono ?_
  rintro e w1 ⟨rfl, b1⟩
  have hB1 : Below w.heap.size w w1 := hB.trans (b1.mono hB.size)
  go_wp2
  go_ret
  exact ⟨rfl, hB1⟩

end Go.Proofs.YtepcpnnnhdbjgahDoor.Ent
