/- Texts in one: As0. -/
import Derived.Test.YtlhmemnaiobgkaaGreatDoorPq1
import Derived.Test.YtlhmemnaiobgkaaGreatDoorRows
import Derived.LaidSub
import Derived.LaidHandle
/- The variable errors.errorType holds the handle of the type error. -/
namespace Go.Proofs.YtlhmemnaiobgkaaGreatDoor.As
open Go.RowKit
set_option linter.unusedVariables false

/-- the variable errors.errorType holds the type error's handle -/
def Hand (w : World) : Prop := w.cell? ⟨0, 0, none⟩ = some (.iface 156 (.agg #[typeHandle Tryz.prog 106]))
theorem et : Tryz.prog.globalNamed "errors.errorType" = some 0 := by kernel_rfl
theorem rt : (Tryz.prog.cutTypes.find? (·.1 == "internal/reflectlite.rtype")).map (·.2) = some 156 := by kernel_rfl
theorem oneRow : ((List.range Tryz.prog.types.size).filter fun t => Tryz.prog.rowNamed t [101, 114, 114, 111, 114]) = [106] := by kernel_rfl
theorem handle : typeHandle Tryz.prog 106 = .pointer (some ⟨2, 106, none⟩) := by kernel_rfl
def one : List (String × DataW Unit) := [("errors.errorType", Rows.laid_errors_errorType)]
theorem hand_of1 {W : World} (h : laidMetH Tryz.prog one W) : Hand W := by
  have h' := (laidMetH_iff.1 h).2
  obtain ⟨name, u, ty, e1, e2, e3, e4, e5⟩ := h' ("errors.errorType", Rows.laid_errors_errorType) (List.mem_singleton.2 rfl)
  have en : name = [101, 114, 114, 111, 114] := (Option.some.inj e1).symm
  subst en
  obtain rfl := Option.some.inj (rt.symm.trans e2)
  have hm : ty ∈ (List.range Tryz.prog.types.size).filter fun t => Tryz.prog.rowNamed t [101, 114, 114, 111, 114] := List.mem_filter.2 ⟨List.mem_range.2 e3, e4⟩
  rw [oneRow] at hm
  obtain rfl := List.mem_singleton.1 hm
  show W.cell? _ = _
  simpa using World.var?_cell et e5 0

end Go.Proofs.YtlhmemnaiobgkaaGreatDoor.As
