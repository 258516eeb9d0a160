/- Texts in one: OrdE, EntI. -/
import Derived.Test.YtepcpnnnhdbjgamGreatDoorPk7
import Derived.Test.YtepcpnnnhdbjgamGreatDoorPk12
import Derived.Laws.StructEq
/- Two versions held against each other, as the language does it. -/
namespace Go.Proofs.YtepcpnnnhdbjgamGreatDoor.Ver
open Go.RowKit Go.Proofs.YtepcpnnnhdbjgamGreatDoor.Mem Go.Proofs.YtepcpnnnhdbjgamGreatDoor.Laws Go.Proofs.YtepcpnnnhdbjgamGreatDoor.Bytes Go.Proofs.YtepcpnnnhdbjgamGreatDoor.Sha
set_option linter.unusedVariables false
set_option linter.unusedSimpArgs false

theorem fieldsV : Tryz.prog.underlying 29 = some (.struct (Tryz.prog.fieldsOf 29)) := by kernel_rfl
theorem heldV : Tryz.prog.stoodInHeld 29 = false := by kernel_rfl
theorem guardV : Tryz.prog.eqGuardType Tryz.prog.depth 29 = false := by kernel_rfl
theorem fieldsL : (Tryz.prog.fieldsOf 29).toList.map (fun f => (f.type, f.offset)) = [(3, 0), (3, 1), (3, 2), (9, 3)] := by kernel_rfl
/-- the same version -/
def sameV (a1 b1 c1 : Int) (p1 : ByteArray) (a2 b2 c2 : Int) (p2 : ByteArray) : Bool := (a1 == a2) && (b1 == b2) && (c1 == c2) && (p1.toList == p2.toList)

theorem eqV (w : World) (a1 b1 c1 : Int) (p1 : ByteArray) (a2 b2 c2 : Int) (p2 : ByteArray) :
    (Op.equalIn 10000 29 (.agg #[.int .i64 a1, .int .i64 b1, .int .i64 c1, .string p1]) (.agg #[.int .i64 a2, .int .i64 b2, .int .i64 c2, .string p2])).run Tryz.prog w = .ok (sameV a1 b1 c1 p1 a2 b2 c2 p2) w := by
  rw [run_equalIn_struct w 9999 _ _ _ fieldsV heldV]
  simp [Program.fieldsOf, Tryz.underlying29, Op.eqFields, go_sem, run_underlying Tryz.underlying3, run_underlying Tryz.underlying9, Tryz.underlying3, Tryz.underlying9, part]
  unfold sameV
  repeat' split
  all_goals simp_all

theorem neqV (w : World) (a1 b1 c1 : Int) (p1 : ByteArray) (a2 b2 c2 : Int) (p2 : ByteArray) :
    (binOp .neq 29 (.agg #[.int .i64 a1, .int .i64 b1, .int .i64 c1, .string p1]) (.agg #[.int .i64 a2, .int .i64 b2, .int .i64 c2, .string p2])).run Tryz.prog w = .ok (.bool (!sameV a1 b1 c1 p1 a2 b2 c2 p2)) w := by
  rw [run_neq_struct, eqV]
  rfl
theorem eqlV (w : World) (a1 b1 c1 : Int) (p1 : ByteArray) (a2 b2 c2 : Int) (p2 : ByteArray) :
    (binOp .eql 29 (.agg #[.int .i64 a1, .int .i64 b1, .int .i64 c1, .string p1]) (.agg #[.int .i64 a2, .int .i64 b2, .int .i64 c2, .string p2])).run Tryz.prog w = .ok (.bool (sameV a1 b1 c1 p1 a2 b2 c2 p2)) w := by
  rw [run_eql_struct, eqV]
  rfl
theorem grdV (w : World) (op : BinOp) (x y : Operand) (xs ys : Array Value) : (eqGuard op 29 x y (.agg xs) (.agg ys)).run Tryz.prog w = .ok () w := run_eqGuard_agg w op 29 x y xs ys guardV
theorem sameV_iff (a1 b1 c1 : Int) (p1 : ByteArray) (a2 b2 c2 : Int) (p2 : ByteArray) : sameV a1 b1 c1 p1 a2 b2 c2 p2 = true ↔ a1 = a2 ∧ b1 = b2 ∧ c1 = c2 ∧ p1 = p2 := by
  unfold sameV
  simp only [Bool.and_eq_true, beq_iff_eq, ByteArray.toList_eq]
  constructor
  · rintro ⟨⟨⟨h1, h2⟩, h3⟩, h4⟩
    exact ⟨h1, h2, h3, by apply ByteArray.ext; apply Array.ext'; exact h4⟩
  · rintro ⟨h1, h2, h3, rfl⟩
    exact ⟨⟨⟨h1, h2⟩, h3⟩, rfl⟩

end Go.Proofs.YtepcpnnnhdbjgamGreatDoor.Ver

/- Chapter 5, the laws' helpers: lists of needs and entries held against each other, as the language does it. -/
namespace Go.Proofs.YtepcpnnnhdbjgamGreatDoor.Ent
open Go.RowKit Go.Proofs.YtepcpnnnhdbjgamGreatDoor.Mem Go.Proofs.YtepcpnnnhdbjgamGreatDoor.Laws Go.Proofs.YtepcpnnnhdbjgamGreatDoor.Bytes Go.Proofs.YtepcpnnnhdbjgamGreatDoor.Sha Go.Proofs.YtepcpnnnhdbjgamGreatDoor.Ver Go.Proofs.YtepcpnnnhdbjgamGreatDoor.Mod
set_option linter.unusedVariables false
set_option linter.unusedSimpArgs false

theorem fieldsN : Tryz.prog.underlying 46 = some (.struct (Tryz.prog.fieldsOf 46)) := by kernel_rfl
theorem heldN : Tryz.prog.stoodInHeld 46 = false := by kernel_rfl
theorem guardN : Tryz.prog.eqGuardType Tryz.prog.depth 46 = false := by kernel_rfl
theorem eqVs (w : World) (a1 b1 c1 : Int) (p1 : ByteArray) :
    (Op.equalIn 9999 29 (.agg #[.int .i64 a1, .int .i64 b1, .int .i64 c1, .string p1]) (.agg #[.int .i64 a1, .int .i64 b1, .int .i64 c1, .string p1])).run Tryz.prog w = .ok true w := by
  rw [run_equalIn_struct w 9998 _ _ _ fieldsV heldV]
  simp [Program.fieldsOf, Tryz.underlying29, Op.eqFields, go_sem, run_underlying Tryz.underlying3, run_underlying Tryz.underlying9, Tryz.underlying3, Tryz.underlying9, part]
theorem eqNs (w : World) (s : ByteArray) (a1 b1 c1 : Int) (p1 : ByteArray) :
    (Op.equalIn 10000 46 (.agg #[.string s, .int .i64 a1, .int .i64 b1, .int .i64 c1, .string p1]) (.agg #[.string s, .int .i64 a1, .int .i64 b1, .int .i64 c1, .string p1])).run Tryz.prog w = .ok true w := by
  rw [run_equalIn_struct w 9999 _ _ _ fieldsN heldN]
  simp [Program.fieldsOf, Tryz.underlying46, Op.eqFields, go_sem, run_underlying Tryz.underlying9, Tryz.underlying9, Tryz.underlying29, part, eqVs]
theorem neqNs (w : World) (s : ByteArray) (a1 b1 c1 : Int) (p1 : ByteArray) :
    (binOp .neq 46 (.agg #[.string s, .int .i64 a1, .int .i64 b1, .int .i64 c1, .string p1]) (.agg #[.string s, .int .i64 a1, .int .i64 b1, .int .i64 c1, .string p1])).run Tryz.prog w = .ok (.bool false) w := by
  rw [run_neq_struct, eqNs]
  rfl
theorem grdN (w : World) (op : BinOp) (x y : Operand) (xs ys : Array Value) : (eqGuard op 46 x y (.agg xs) (.agg ys)).run Tryz.prog w = .ok () w := run_eqGuard_agg w op 46 x y xs ys guardN

end Go.Proofs.YtepcpnnnhdbjgamGreatDoor.Ent
