/- What came in, read as logs. -/
import Derived.Test.YtccnhhdcdamgmaaDoorOpen7
import Derived.Test.YtccnhhdcdamgmaaDoorOpenH
namespace Go.Proofs.YtccnhhdcdamgmaaDoor.Open
open Go.RowKit Go.ChangeShapes Go.WideShapes Go.ChangeAt Go.Deep Go.Joins Go.Proofs.YtccnhhdcdamgmaaDoor.Mem Go.Proofs.YtccnhhdcdamgmaaDoor.He
set_option linter.unusedVariables false
set_option linter.unusedSimpArgs false

section
variable {H : Type} {enc : TypeId × Value → H} {w : World} {base : Nat} {held : Bool}

set_option maxRecDepth 1000000 in
theorem cells_log : Tryd.prog.cellsOf 50 = 3 := by kernel_rfl

set_option maxRecDepth 1000000 in
theorem read_log {fuel : Nat} {cs : List Value} {y : DataW H × List MemPlace} (h : DataW.trod enc Tryd.prog w base (fun _ => true) held fuel 50 cs = some y) :
    ∃ (n : Hd) (ao : Option Addr) (m cap : Nat) (l : List ByteArray), cs = [.slice ao m cap, .int .i64 n.n, .string n.r] ∧ Okh n ∧ l.length ≤ maxLen ∧ (∀ s ∈ l, s.size ≤ maxLen) ∧ Sl w (.slice ao m cap) (ss l) := by
  obtain ⟨y0, y1, k, _, hl, h0, h1⟩ := trod_struct2 Tryd.underlying50 h
  rw [cells_log] at hl
  match cs, hl with
  | [c0, c1, c2], _ =>
    have kh : Tryd.prog.cellsOf 48 = 2 := cells_head
    have ks : Tryd.prog.cellsOf 24 = 1 := by kernel_rfl
    simp only [kh, ks, List.drop_zero, List.drop_succ_cons, List.take_succ_cons, List.take_zero] at h0 h1
    obtain ⟨ao, m, cap, l, e0, hm, hz, hs⟩ := read_strs h0
    obtain ⟨n, e1, ho⟩ := read_head h1
    simp only [Hd.cs, List.cons.injEq, and_true] at e0 e1
    obtain ⟨e1, e2⟩ := e1
    subst e0 e1 e2
    exact ⟨n, ao, m, cap, l, rfl, ho, hm, hz, hs⟩

end

end Go.Proofs.YtccnhhdcdamgmaaDoor.Open
