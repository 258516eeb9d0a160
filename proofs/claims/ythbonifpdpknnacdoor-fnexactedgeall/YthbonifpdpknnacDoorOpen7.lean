/- What came in, read as edges. -/
import Derived.Test.YthbonifpdpknnacDoorRowSl
import Derived.Test.YthbonifpdpknnacDoorProg
import Derived.Deep.Slices
import Derived.Lib.SmallJoins
import Derived.ChangeSame
import Derived.SliceStrings
import Derived.OpenShut
import Derived.ChangeOld
namespace Go.Proofs.YthbonifpdpknnacDoor.Open
open Go.RowKit Go.ChangeShapes Go.WideShapes Go.ChangeAt Go.Deep Go.Joins Go.Proofs.YthbonifpdpknnacDoor.Mem
set_option linter.unusedVariables false
set_option linter.unusedSimpArgs false

section
variable {H : Type} {enc : TypeId × Value → H} {w : World} {base : Nat} {held : Bool}

set_option maxRecDepth 1000000 in
theorem read_strs {fuel : Nat} {cs : List Value} {y : DataW H × List MemPlace} (h : DataW.trod enc Tryd.prog w base (fun _ => true) held fuel 22 cs = some y) :
    ∃ (ao : Option Addr) (m cap : Nat) (l : List ByteArray), cs = [.slice ao m cap] ∧ l.length ≤ maxLen ∧ (∀ s ∈ l, s.size ≤ maxLen) ∧ Sl w (.slice ao m cap) (ss l) := by
  rcases open_strings Tryd.underlying22 Tryd.underlying9 (by kernel_rfl) h with ⟨hcs, _⟩ | ⟨x, l, c, zs, hcs, _, hl, hm, hz, _, hcell, hwz⟩
  · exact ⟨none, 0, 0, [], hcs, Nat.zero_le _, fun s hs => (by cases hs), Sl.nil w⟩
  · obtain ⟨t, h1, h2, h3⟩ := RowSl.row_str hl hm (by simpa using hz) hcell hwz
    exact ⟨_, _, _, t, hcs, h3, h2, h1⟩

set_option maxRecDepth 1000000 in
theorem cells_edge : Tryd.prog.cellsOf 32 = 2 := by kernel_rfl

set_option maxRecDepth 1000000 in
theorem read_edge {fuel : Nat} {cs : List Value} {y : DataW H × List MemPlace} (h : DataW.trod enc Tryd.prog w base (fun _ => true) held fuel 32 cs = some y) :
    ∃ (n : Int) (ao : Option Addr) (m cap : Nat) (l : List ByteArray), cs = [.int .i64 n, .slice ao m cap] ∧ (Lit.int .i64 n).wf = true ∧ l.length ≤ maxLen ∧ (∀ s ∈ l, s.size ≤ maxLen) ∧ Sl w (.slice ao m cap) (ss l) := by
  obtain ⟨y0, y1, k, _, hl, h0, h1⟩ := trod_struct2 Tryd.underlying32 h
  rw [cells_edge] at hl
  match cs, hl with
  | [c0, c1], _ =>
    have k3 : Tryd.prog.cellsOf 3 = 1 := by kernel_rfl
    have ks : Tryd.prog.cellsOf 22 = 1 := by kernel_rfl
    simp only [k3, ks, List.drop_zero, List.drop_succ_cons, List.take_succ_cons, List.take_zero] at h0 h1
    obtain ⟨n, e0, _, wn⟩ := DataW.trod_int Tryd.underlying3 h0
    obtain ⟨ao, m, cap, l, e1, hm, hz, hs⟩ := read_strs h1
    simp only [List.cons.injEq, and_true] at e0 e1
    subst e0 e1
    exact ⟨n, ao, m, cap, l, rfl, wn, hm, hz, hs⟩

end

end Go.Proofs.YthbonifpdpknnacDoor.Open
