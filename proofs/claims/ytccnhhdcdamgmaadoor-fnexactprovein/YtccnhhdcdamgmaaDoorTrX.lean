/- Chapter 6: the exact laws, over contracts of the landed functions. -/
import Derived.Test.YtccnhhdcdamgmaaDoorTr8
namespace Go.Proofs.YtccnhhdcdamgmaaDoor.Tr
open Go.RowKit Go.Proofs.YtccnhhdcdamgmaaDoor.Mem Go.Proofs.YtccnhhdcdamgmaaDoor.Laws Go.Proofs.YtccnhhdcdamgmaaDoor.Bytes Go.Proofs.YtccnhhdcdamgmaaDoor.Sha
set_option linter.unusedVariables false
set_option linter.unusedSimpArgs false

theorem mem_tot {l : List ByteArray} {s : ByteArray} (h : s ∈ l) : s.size ≤ Puts.tot l := by
  induction l with
  | nil => cases h
  | cons t r ih =>
    have e : Puts.tot (t :: r) = t.size + Puts.tot r := by simp [Puts.tot]
    rw [e]
    rcases List.mem_cons.1 h with rfl | h
    · omega
    · have := ih h; omega
theorem inPath_len (l : List ByteArray) (i : Int) : (inPath l i).length ≤ 1000 := by
  unfold inPath
  split
  · rename_i h
    rw [path_len]
    have := dep_le l.length i.toNat
    omega
  · simp
theorem growPath_len (l : List ByteArray) (n : Int) : (growPath l n).length ≤ 1000 := by
  unfold growPath
  split
  · rename_i h
    rw [grow_len]
    have := gdep_le l.length n.toNat true
    omega
  · simp

end Go.Proofs.YtccnhhdcdamgmaaDoor.Tr
