/- Chapter 10, the specification's side: heads that are right, signed, the best. -/
import Derived.Test.YtccnhhdcdamgmabDoorHeE
import Derived.Test.YtccnhhdcdamgmabDoorHe2
import Derived.BigQuiet
import Derived.Deep.RegionHeld3
namespace Go.Proofs.YtccnhhdcdamgmabDoor.He
open Go.RowKit Go.Proofs.YtccnhhdcdamgmabDoor.Mem Go.Proofs.YtccnhhdcdamgmabDoor.Laws Go.Proofs.YtccnhhdcdamgmabDoor.Bytes Go.Proofs.YtccnhhdcdamgmabDoor.Sha Go.Proofs.YtccnhhdcdamgmabDoor.Tr
set_option linter.unusedVariables false
set_option linter.unusedSimpArgs false

theorem signed_snoc {t : List Hd} {k : Nat} {x : Hd} (hx : t[k]? = some x) (h : Hd) : signed (t.take (k + 1)) h = (signed (t.take k) h || eqH x h) := by
  unfold signed
  rw [List.take_add_one, hx]
  simp
theorem signed_yes {t : List Hd} {k : Nat} {x h : Hd} (hx : t[k]? = some x) (he : eqH x h = true) : signed t h = true := by
  unfold signed
  rw [List.any_eq_true]
  exact ⟨x, List.mem_of_getElem? hx, he⟩

theorem bestF_snoc (b : Hd) (r : List Hd) (x : Hd) : bestF b (r ++ [x]) = if (bestF b r).n < x.n then x else bestF b r := by
  induction r generalizing b with
  | nil => rfl
  | cons y r ih =>
    simp only [List.cons_append, bestF]
    split
    · exact ih y
    · exact ih b

end Go.Proofs.YtccnhhdcdamgmabDoor.He
