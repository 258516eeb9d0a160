/- Texts in one: Ent2. -/
import Derived.Test.YtpfiaginonnjmaaPq9
import Derived.Deep.RegionHeld3
/- Chapter 5, the specification's side: needs. -/
namespace Go.Proofs.Ytpfiaginonnjmaa.Ent
open Go.RowKit Go.Proofs.Ytpfiaginonnjmaa.Mem Go.Proofs.Ytpfiaginonnjmaa.Laws Go.Proofs.Ytpfiaginonnjmaa.Bytes Go.Proofs.Ytpfiaginonnjmaa.Sha Go.Proofs.Ytpfiaginonnjmaa.Ver Go.Proofs.Ytpfiaginonnjmaa.Mod
set_option linter.unusedVariables false
set_option linter.unusedSimpArgs false

theorem geq_str (t : TypeId) (a b : ByteArray) : binOp .geq t (.string a) (.string b) = pure (.bool !(ltT a b)) := by simp [binOp, Op.stringOp, ltT]

/-- a block holds a need -/
def Nr (w : World) (g : Nat) (n : Nd) : Prop := w.heap[g]? = some (.cells #[.string n.path, .int .i64 n.a, .int .i64 n.b, .int .i64 n.c, .string n.pre] 38 (0, 0))
theorem Nr.cells {w : World} {g : Nat} {n : Nd} (h : Nr w g n) : w.cell? ⟨g, 0, none⟩ = some (.string n.path) ∧ w.cell? ⟨g, 1, none⟩ = some (.int .i64 n.a) ∧ w.cell? ⟨g, 2, none⟩ = some (.int .i64 n.b) ∧ w.cell? ⟨g, 3, none⟩ = some (.int .i64 n.c) ∧ w.cell? ⟨g, 4, none⟩ = some (.string n.pre) := by
  unfold Nr at h
  refine ⟨?_, ?_, ?_, ?_, ?_⟩ <;> simp [World.cell?, h]

end Go.Proofs.Ytpfiaginonnjmaa.Ent
