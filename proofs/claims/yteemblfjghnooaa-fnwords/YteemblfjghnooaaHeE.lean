/- Two heads held against each other, as the language does it. -/
import Derived.Test.YteemblfjghnooaaHe1
import Derived.Laws.StructEq
namespace Go.Proofs.Yteemblfjghnooaa.He
open Go.RowKit Go.Proofs.Yteemblfjghnooaa.Mem Go.Proofs.Yteemblfjghnooaa.Laws Go.Proofs.Yteemblfjghnooaa.Bytes Go.Proofs.Yteemblfjghnooaa.Sha Go.Proofs.Yteemblfjghnooaa.Tr
set_option linter.unusedVariables false
set_option linter.unusedSimpArgs false

theorem fieldsH : Try.prog.underlying 25 = some (.struct (Try.prog.fieldsOf 25)) := by kernel_rfl
theorem heldH : Try.prog.stoodInHeld 25 = false := by kernel_rfl
theorem guardH : Try.prog.eqGuardType Try.prog.depth 25 = false := by kernel_rfl
theorem eqHrun (w : World) (a b : Hd) :
    (Op.equalIn 10000 25 (.agg #[.int .i64 a.n, .string a.r]) (.agg #[.int .i64 b.n, .string b.r])).run Try.prog w = .ok (eqH a b) w := by
  rw [run_equalIn_struct w 9999 _ _ _ fieldsH heldH]
  simp [Program.fieldsOf, Try.underlying25, Op.eqFields, go_sem, run_underlying Try.underlying3, run_underlying Try.underlying9, Try.underlying3, Try.underlying9, part]
  unfold eqH
  repeat' split
  all_goals simp_all
theorem eqlH (w : World) (a b : Hd) : (binOp .eql 25 (.agg #[.int .i64 a.n, .string a.r]) (.agg #[.int .i64 b.n, .string b.r])).run Try.prog w = .ok (.bool (eqH a b)) w := by
  rw [run_eql_struct, eqHrun]
  rfl
theorem neqH (w : World) (a b : Hd) : (binOp .neq 25 (.agg #[.int .i64 a.n, .string a.r]) (.agg #[.int .i64 b.n, .string b.r])).run Try.prog w = .ok (.bool (!eqH a b)) w := by
  rw [run_neq_struct, eqHrun]
  rfl
theorem grdH (w : World) (op : BinOp) (x y : Operand) (xs ys : Array Value) : (eqGuard op 25 x y (.agg xs) (.agg ys)).run Try.prog w = .ok () w := run_eqGuard_agg w op 25 x y xs ys guardH
theorem eqH_iff (a b : Hd) : eqH a b = true ↔ a = b := by
  unfold eqH
  simp only [Bool.and_eq_true, beq_iff_eq, ByteArray.toList_eq]
  constructor
  · rintro ⟨h1, h2⟩
    exact Hd.ext' h1 (by apply ByteArray.ext; apply Array.ext'; exact h2)
  · rintro rfl
    exact ⟨rfl, rfl⟩

end Go.Proofs.Yteemblfjghnooaa.He
