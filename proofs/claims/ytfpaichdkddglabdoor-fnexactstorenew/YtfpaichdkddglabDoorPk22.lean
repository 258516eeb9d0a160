/- Texts in one: KpB. -/
import Derived.Test.YtfpaichdkddglabDoorPk4
/- Chapter 12, the landed code: bytes joined by copy. -/
namespace Go.Proofs.YtfpaichdkddglabDoor.Sr
open Go.RowKit Go.Proofs.YtfpaichdkddglabDoor.Mem Go.Proofs.YtfpaichdkddglabDoor.Laws Go.Proofs.YtfpaichdkddglabDoor.Bytes
set_option linter.unusedVariables false
set_option linter.unusedSimpArgs false

/-- how many bytes the first k parts have -/
def acc (ps : List (List Int)) (k : Nat) : Nat := (ps.take k).flatten.length
theorem acc_zero (ps : List (List Int)) : acc ps 0 = 0 := by simp [acc]
theorem acc_step {ps : List (List Int)} {k : Nat} {p : List Int} (h : ps[k]? = some p) : acc ps (k + 1) = acc ps k + p.length := by
  unfold acc
  rw [List.take_add_one, h]
  simp
theorem acc_all {ps : List (List Int)} {k : Nat} (h : ps.length ≤ k) : acc ps k = ps.flatten.length := by
  unfold acc
  rw [List.take_of_length_le h]
theorem acc_le (ps : List (List Int)) (k : Nat) : acc ps k ≤ ps.flatten.length := by
  unfold acc
  conv => rhs; rw [← List.take_append_drop k ps, List.flatten_append, List.length_append]
  omega
theorem flat_step {ps : List (List Int)} {k : Nat} {p : List Int} (h : ps[k]? = some p) : (ps.take (k + 1)).flatten = (ps.take k).flatten ++ p := by
  rw [List.take_add_one, h]
  simp
theorem splice_take {L : List Value} {off : Nat} {cs : List Value} (h : off + cs.length ≤ L.length) : (splice L off cs).take (off + cs.length) = L.take off ++ cs := by
  unfold splice
  have h1 : (L.take off).length = off := by rw [List.length_take]; omega
  rw [← List.append_assoc, List.take_append_of_le_length (by rw [List.length_append, h1]; omega), List.take_of_length_le (by rw [List.length_append, h1]; omega)]

end Go.Proofs.YtfpaichdkddglabDoor.Sr
