/- Texts in one: Bytes. -/
import Derived.Test.YtbopliahafkecaaGreatDoorRows
import Derived.Test.YtbopliahafkecaaGreatDoorPk1
import Derived.WalkKit
import Derived.WalkSpells
import Derived.WalkLawsBesides
import Derived.Deep.QuietTactic
import Derived.BigQuiet
/- Contracts of the laws' own small functions on bytes: a copy, a comparison, marks laid, marks looked for. -/
namespace Go.Proofs.YtbopliahafkecaaGreatDoor.Bytes
open Go.RowKit Go.Proofs.YtbopliahafkecaaGreatDoor.Mem
set_option linter.unusedVariables false

theorem info5 : (Tryz.prog.info? 5).map (fun i => (i.zero, i.size, i.bytes)) = some (some (.int .u8 0), 1, 1) := by kernel_rfl

theorem take_snoc {xs : List Int} {k : Nat} {c : Int} (h : xs[k]? = some c) : xs.take (k + 1) = xs.take k ++ [c] := by
  obtain ⟨hk, rfl⟩ := List.getElem?_eq_some_iff.1 h
  exact List.take_succ_eq_append_getElem hk

theorem set_take {α : Type} {L C : List α} {k : Nat} {u : α} (hk : k < L.length) (h : L.take k = C.take k) (hu : C[k]? = some u) : (L.set k u).take (k + 1) = C.take (k + 1) := by
  apply List.ext_getElem?
  intro j
  have hj := congrArg (fun l => l[j]?) h
  simp only [List.getElem?_take] at hj ⊢
  by_cases h1 : j < k
  · rw [if_pos h1, if_pos h1] at hj
    rw [if_pos (by omega), if_pos (by omega), List.getElem?_set_ne (by omega), hj]
  · by_cases h2 : j = k
    · subst h2
      rw [if_pos (by omega), if_pos (by omega), hu]
      simp [hk]
    · rw [if_neg (by omega), if_neg (by omega)]

/-- What marks from k on are. -/
def marks (k : Nat) (n : Nat) : List Int := (List.range n).map fun i => ((k + i : Nat) : Int) % 256

theorem marks_len (k n : Nat) : (marks k n).length = n := by simp [marks]
theorem marks_get (k n j : Nat) (h : j < n) : (marks k n)[j]? = some (((k + j : Nat) : Int) % 256) := by simp [marks, h]
theorem marks_byt (k n : Nat) : Byt (marks k n) := by
  intro x hx
  obtain ⟨i, _, rfl⟩ := List.mem_map.1 hx
  omega

end Go.Proofs.YtbopliahafkecaaGreatDoor.Bytes
