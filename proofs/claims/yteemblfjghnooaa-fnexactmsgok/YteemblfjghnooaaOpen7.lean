/- What came in, read as edges. -/
import Derived.Test.YteemblfjghnooaaRowSl
import Derived.Test.YteemblfjghnooaaProg
import Derived.Deep.Slices
import Derived.Lib.SmallJoins
import Derived.ChangeSame
import Derived.SliceStrings
import Derived.OpenShut
import Derived.ChangeOld
namespace Go.Proofs.Yteemblfjghnooaa.Open
open Go.RowKit Go.ChangeShapes Go.WideShapes Go.ChangeAt Go.Deep Go.Joins Go.Proofs.Yteemblfjghnooaa.Mem
set_option linter.unusedVariables false
set_option linter.unusedSimpArgs false

section
variable {H : Type} {enc : TypeId × Value → H} {w : World} {base : Nat} {held : Bool}

set_option maxRecDepth 1000000 in
theorem read_strs {fuel : Nat} {cs : List Value} {y : DataW H × List MemPlace} (h : DataW.trod enc Try.prog w base (fun _ => true) held fuel 26 cs = some y) :
    ∃ (ao : Option Addr) (m cap : Nat) (l : List ByteArray), cs = [.slice ao m cap] ∧ l.length ≤ maxLen ∧ (∀ s ∈ l, s.size ≤ maxLen) ∧ Sl w (.slice ao m cap) (ss l) := by
  rcases open_strings Try.underlying26 Try.underlying9 (by kernel_rfl) h with ⟨hcs, _⟩ | ⟨x, l, c, zs, hcs, _, hl, hm, hz, _, hcell, hwz⟩
  · exact ⟨none, 0, 0, [], hcs, Nat.zero_le _, fun s hs => (by cases hs), Sl.nil w⟩
  · obtain ⟨t, h1, h2, h3⟩ := RowSl.row_str hl hm (by simpa using hz) hcell hwz
    exact ⟨_, _, _, t, hcs, h3, h2, h1⟩

end

end Go.Proofs.Yteemblfjghnooaa.Open
