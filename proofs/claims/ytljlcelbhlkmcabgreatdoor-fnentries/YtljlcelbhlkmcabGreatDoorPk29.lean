/- Texts in one: As1. -/
import Derived.Test.YtljlcelbhlkmcabGreatDoorPk26
import Derived.Test.YtljlcelbhlkmcabGreatDoorPk24
import Derived.LaidSub
import Derived.LaidHandle
/- From the row's list of variables to errors.errorType's cell, and to the table of powers of ten. -/
namespace Go.Proofs.YtljlcelbhlkmcabGreatDoor.As
open Go.RowKit
set_option linter.unusedVariables false

def four : List (String × DataW Unit) := [("math/bits.deBruijn32tab", Rows.laid_math_bits_deBruijn32tab), ("math/bits.deBruijn64tab", Rows.laid_math_bits_deBruijn64tab), ("internal/strconv.uint64pow10", Rows.laid_internal_strconv_uint64pow10), ("errors.errorType", Rows.laid_errors_errorType)]
theorem glob_of4 {W : World} (h : laidMetH Tryz.prog four W) : Ver.Glob W := Ver.glob_of (laidMetH_iff.1 h).1
theorem hand_of4 {W : World} (h : laidMetH Tryz.prog four W) : Hand W := by
  have h' := (laidMetH_iff.1 h).2
  obtain ⟨name, u, ty, e1, e2, e3, e4, e5⟩ := h' ("errors.errorType", Rows.laid_errors_errorType) (List.mem_singleton.2 rfl)
  have en : name = [101, 114, 114, 111, 114] := (Option.some.inj e1).symm
  subst en
  obtain rfl := Option.some.inj (rt.symm.trans e2)
  have hm : ty ∈ (List.range Tryz.prog.types.size).filter fun t => Tryz.prog.rowNamed t [101, 114, 114, 111, 114] := List.mem_filter.2 ⟨List.mem_range.2 e3, e4⟩
  rw [oneRow] at hm
  obtain rfl := List.mem_singleton.1 hm
  show W.cell? _ = _
  simpa using World.var?_cell et e5 0

end Go.Proofs.YtljlcelbhlkmcabGreatDoor.As
