/- Two versions held against each other, as the language does it. -/
import Derived.Test.YtbpgdagmffbagabVer8
import Derived.Laws.StructEq
namespace Go.Proofs.Ytbpgdagmffbagab.Ver
open Go.RowKit Go.Proofs.Ytbpgdagmffbagab.Mem Go.Proofs.Ytbpgdagmffbagab.Laws Go.Proofs.Ytbpgdagmffbagab.Bytes Go.Proofs.Ytbpgdagmffbagab.Sha
set_option linter.unusedVariables false
set_option linter.unusedSimpArgs false

theorem fieldsV : Try.prog.underlying 25 = some (.struct (Try.prog.fieldsOf 25)) := by kernel_rfl
theorem heldV : Try.prog.stoodInHeld 25 = false := by kernel_rfl
theorem guardV : Try.prog.eqGuardType Try.prog.depth 25 = false := by kernel_rfl
theorem fieldsL : (Try.prog.fieldsOf 25).toList.map (fun f => (f.type, f.offset)) = [(3, 0), (3, 1), (3, 2), (9, 3)] := by kernel_rfl
/-- the same version -/
def sameV (a1 b1 c1 : Int) (p1 : ByteArray) (a2 b2 c2 : Int) (p2 : ByteArray) : Bool := (a1 == a2) && (b1 == b2) && (c1 == c2) && (p1.toList == p2.toList)

theorem eqV (w : World) (a1 b1 c1 : Int) (p1 : ByteArray) (a2 b2 c2 : Int) (p2 : ByteArray) :
    (Op.equalIn 10000 25 (.agg #[.int .i64 a1, .int .i64 b1, .int .i64 c1, .string p1]) (.agg #[.int .i64 a2, .int .i64 b2, .int .i64 c2, .string p2])).run Try.prog w = .ok (sameV a1 b1 c1 p1 a2 b2 c2 p2) w := by
  rw [run_equalIn_struct w 9999 _ _ _ fieldsV heldV]
  simp [Program.fieldsOf, Try.underlying25, Op.eqFields, go_sem, run_underlying Try.underlying3, run_underlying Try.underlying9, Try.underlying3, Try.underlying9, part]
  unfold sameV
  repeat' split
  all_goals simp_all

theorem neqV (w : World) (a1 b1 c1 : Int) (p1 : ByteArray) (a2 b2 c2 : Int) (p2 : ByteArray) :
    (binOp .neq 25 (.agg #[.int .i64 a1, .int .i64 b1, .int .i64 c1, .string p1]) (.agg #[.int .i64 a2, .int .i64 b2, .int .i64 c2, .string p2])).run Try.prog w = .ok (.bool (!sameV a1 b1 c1 p1 a2 b2 c2 p2)) w := by
  rw [run_neq_struct, eqV]
  rfl
theorem eqlV (w : World) (a1 b1 c1 : Int) (p1 : ByteArray) (a2 b2 c2 : Int) (p2 : ByteArray) :
    (binOp .eql 25 (.agg #[.int .i64 a1, .int .i64 b1, .int .i64 c1, .string p1]) (.agg #[.int .i64 a2, .int .i64 b2, .int .i64 c2, .string p2])).run Try.prog w = .ok (.bool (sameV a1 b1 c1 p1 a2 b2 c2 p2)) w := by
  rw [run_eql_struct, eqV]
  rfl
theorem grdV (w : World) (op : BinOp) (x y : Operand) (xs ys : Array Value) : (eqGuard op 25 x y (.agg xs) (.agg ys)).run Try.prog w = .ok () w := run_eqGuard_agg w op 25 x y xs ys guardV
theorem sameV_iff (a1 b1 c1 : Int) (p1 : ByteArray) (a2 b2 c2 : Int) (p2 : ByteArray) : sameV a1 b1 c1 p1 a2 b2 c2 p2 = true ↔ a1 = a2 ∧ b1 = b2 ∧ c1 = c2 ∧ p1 = p2 := by
  unfold sameV
  simp only [Bool.and_eq_true, beq_iff_eq, ByteArray.toList_eq]
  constructor
  · rintro ⟨⟨⟨h1, h2⟩, h3⟩, h4⟩
    exact ⟨h1, h2, h3, by apply ByteArray.ext; apply Array.ext'; exact h4⟩
  · rintro ⟨h1, h2, h3, rfl⟩
    exact ⟨⟨⟨h1, h2⟩, h3⟩, rfl⟩

end Go.Proofs.Ytbpgdagmffbagab.Ver
