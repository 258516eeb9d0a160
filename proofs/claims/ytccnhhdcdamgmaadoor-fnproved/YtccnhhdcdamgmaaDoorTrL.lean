/- Chapter 6: the laws FnRoots, FnPaths, FnGrown, over contracts of the landed functions. -/
import Derived.Test.YtccnhhdcdamgmaaDoorTrD
import Derived.Test.YtccnhhdcdamgmaaDoorTr8
namespace Go.Proofs.YtccnhhdcdamgmaaDoor.Tr
open Go.RowKit Go.Proofs.YtccnhhdcdamgmaaDoor.Mem Go.Proofs.YtccnhhdcdamgmaaDoor.Laws Go.Proofs.YtccnhhdcdamgmaaDoor.Bytes Go.Proofs.YtccnhhdcdamgmaaDoor.Sha Go.Proofs.YtccnhhdcdamgmaaDoor.Draw
set_option linter.unusedVariables false
set_option linter.unusedSimpArgs false

theorem rootOf_small {l : List ByteArray} (h : l.length ≤ 200) : rootOf l = root l := by unfold rootOf; rw [if_pos h]
theorem eq6_same (a : ByteArray) : eq6 a a = true := by unfold eq6; simp
theorem keepC {W W' : World} {p : Addr} {x : Value} (h : W.cell? p = some x) (b : Below W.heap.size W W') : W'.cell? p = some x := by
  rw [b.cell (World.block_lt_of_cell? W p h)]; exact h
/-- where a text of a slice lies -/
theorem slAt {w : World} {b off n cap : Nat} {l : List ByteArray} (h : Sl w (.slice (some ⟨b, off, none⟩) n cap) (ss l)) {i : Nat} {s : ByteArray} (hi : l[i]? = some s) : w.cell? ⟨b, off + i, none⟩ = some (.string s) := by
  have hil : i < l.length := (List.getElem?_eq_some_iff.1 hi).1
  obtain ⟨ao', c', he, _, _, hr⟩ := h
  simp only [Value.slice.injEq] at he
  obtain ⟨rfl, _, rfl⟩ := he
  obtain ⟨b', off', he', hcell⟩ := hr (by rw [ss_len]; omega)
  simp only [Option.some.injEq, Addr.mk.injEq] at he'
  obtain ⟨rfl, rfl, _⟩ := he'
  rw [hcell i (by rw [ss_len]; omega)]
  simp [ss, hi]

end Go.Proofs.YtccnhhdcdamgmaaDoor.Tr
