/- Two heads held against each other, as the language does it. -/
import Derived.Test.YtccnhhdcdamgmaaDoorHe1
import Derived.Laws.StructEq
namespace Go.Proofs.YtccnhhdcdamgmaaDoor.He
open Go.RowKit Go.Proofs.YtccnhhdcdamgmaaDoor.Mem Go.Proofs.YtccnhhdcdamgmaaDoor.Laws Go.Proofs.YtccnhhdcdamgmaaDoor.Bytes Go.Proofs.YtccnhhdcdamgmaaDoor.Sha Go.Proofs.YtccnhhdcdamgmaaDoor.Tr
set_option linter.unusedVariables false
set_option linter.unusedSimpArgs false

theorem fieldsH : Tryd.prog.underlying 26 = some (.struct (Tryd.prog.fieldsOf 26)) := by kernel_rfl
theorem heldH : Tryd.prog.stoodInHeld 26 = false := by kernel_rfl
theorem guardH : Tryd.prog.eqGuardType Tryd.prog.depth 26 = false := by kernel_rfl
theorem eqHrun (w : World) (a b : Hd) :
    (Op.equalIn 10000 26 (.agg #[.int .i64 a.n, .string a.r]) (.agg #[.int .i64 b.n, .string b.r])).run Tryd.prog w = .ok (eqH a b) w := by
  rw [run_equalIn_struct w 9999 _ _ _ fieldsH heldH]
  simp [Program.fieldsOf, Tryd.underlying26, Op.eqFields, go_sem, run_underlying Tryd.underlying3, run_underlying Tryd.underlying9, Tryd.underlying3, Tryd.underlying9, part]
  unfold eqH
  repeat' split
  all_goals simp_all
theorem eqlH (w : World) (a b : Hd) : (binOp .eql 26 (.agg #[.int .i64 a.n, .string a.r]) (.agg #[.int .i64 b.n, .string b.r])).run Tryd.prog w = .ok (.bool (eqH a b)) w := by
  rw [run_eql_struct, eqHrun]
  rfl
theorem neqH (w : World) (a b : Hd) : (binOp .neq 26 (.agg #[.int .i64 a.n, .string a.r]) (.agg #[.int .i64 b.n, .string b.r])).run Tryd.prog w = .ok (.bool (!eqH a b)) w := by
  rw [run_neq_struct, eqHrun]
  rfl
theorem grdH (w : World) (op : BinOp) (x y : Operand) (xs ys : Array Value) : (eqGuard op 26 x y (.agg xs) (.agg ys)).run Tryd.prog w = .ok () w := run_eqGuard_agg w op 26 x y xs ys guardH
theorem eqH_iff (a b : Hd) : eqH a b = true ↔ a = b := by
  unfold eqH
  simp only [Bool.and_eq_true, beq_iff_eq, ByteArray.toList_eq]
  constructor
  · rintro ⟨h1, h2⟩
    exact Hd.ext' h1 (by apply ByteArray.ext; apply Array.ext'; exact h2)
  · rintro rfl
    exact ⟨rfl, rfl⟩

end Go.Proofs.YtccnhhdcdamgmaaDoor.He
