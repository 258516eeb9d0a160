/- What came in, read as words. -/
import Derived.Test.YteemblfjghnooaaOpen7
import Derived.Test.YteemblfjghnooaaOpenH
import Derived.Test.YteemblfjghnooaaMg1
namespace Go.Proofs.Yteemblfjghnooaa.Open
open Go.RowKit Go.ChangeShapes Go.WideShapes Go.ChangeAt Go.Deep Go.Joins Go.Proofs.Yteemblfjghnooaa.Mem Go.Proofs.Yteemblfjghnooaa.He
set_option linter.unusedVariables false
set_option linter.unusedSimpArgs false

section
variable {H : Type} {enc : TypeId × Value → H} {w : World} {base : Nat} {held : Bool}

theorem six {P : Program} {spare : Nat → Bool} {t : TypeId} {f0 f1 f2 f3 f4 f5 : Field} {fuel : Nat} {cs : List Value} {x : DataW H × List MemPlace} (ht : P.underlying t = some (.struct #[f0, f1, f2, f3, f4, f5])) (h : DataW.trod enc P w base spare held fuel t cs = some x) :
    ∃ y0 y1 y2 y3 y4 y5 n, cs.length = P.cellsOf t ∧ DataW.trod enc P w base spare held n f0.type ((cs.drop f0.offset).take (P.cellsOf f0.type)) = some y0 ∧ DataW.trod enc P w base spare held n f1.type ((cs.drop f1.offset).take (P.cellsOf f1.type)) = some y1 ∧ DataW.trod enc P w base spare held n f2.type ((cs.drop f2.offset).take (P.cellsOf f2.type)) = some y2 ∧ DataW.trod enc P w base spare held n f3.type ((cs.drop f3.offset).take (P.cellsOf f3.type)) = some y3 ∧ DataW.trod enc P w base spare held n f4.type ((cs.drop f4.offset).take (P.cellsOf f4.type)) = some y4 ∧ DataW.trod enc P w base spare held n f5.type ((cs.drop f5.offset).take (P.cellsOf f5.type)) = some y5 := by
  obtain ⟨xs, n, _, rfl, hl, hlen, hf⟩ := DataW.trod_struct ht h
  match xs, hlen with
  | [y0, y1, y2, y3, y4, y5], _ => exact ⟨y0, y1, y2, y3, y4, y5, n, hl, by simpa using hf 0 f0 rfl, by simpa using hf 1 f1 rfl, by simpa using hf 2 f2 rfl, by simpa using hf 3 f3 rfl, by simpa using hf 4 f4 rfl, by simpa using hf 5 f5 rfl⟩

set_option maxRecDepth 1000000 in
theorem cells_msg : Try.prog.cellsOf 38 = 7 := by kernel_rfl

set_option maxRecDepth 1000000 in
theorem read_msg {fuel : Nat} {cs : List Value} {y : DataW H × List MemPlace} (h : DataW.trod enc Try.prog w base (fun _ => true) held fuel 38 cs = some y) :
    ∃ (q : Mg.Ms) (ao : Option Addr) (m cap : Nat), cs = [.int .i64 q.k, .int .i64 q.f, .int .i64 q.t, .int .i64 q.h.n, .string q.h.r, .int .i64 q.n, .slice ao m cap] ∧ q.h.r.size ≤ maxLen ∧ q.x.length ≤ maxLen ∧ (∀ s ∈ q.x, s.size ≤ maxLen) ∧ Sl w (.slice ao m cap) (ss q.x) := by
  obtain ⟨y0, y1, y2, y3, y4, y5, j, hl, h0, h1, h2, h3, h4, h5⟩ := six Try.underlying38 h
  rw [cells_msg] at hl
  match cs, hl with
  | [c0, c1, c2, c3, c4, c5, c6], _ =>
    have kh : Try.prog.cellsOf 36 = 2 := cells_head
    have ks : Try.prog.cellsOf 26 = 1 := by kernel_rfl
    have ki : Try.prog.cellsOf 3 = 1 := by kernel_rfl
    simp only [kh, ks, ki, List.drop_zero, List.drop_succ_cons, List.take_succ_cons, List.take_zero] at h0 h1 h2 h3 h4 h5
    obtain ⟨k, e0, _, _⟩ := DataW.trod_int Try.underlying3 h0
    obtain ⟨f, e1, _, _⟩ := DataW.trod_int Try.underlying3 h1
    obtain ⟨t, e2, _, _⟩ := DataW.trod_int Try.underlying3 h2
    obtain ⟨nh, e3, ho⟩ := read_head h3
    obtain ⟨n, e4, _, _⟩ := DataW.trod_int Try.underlying3 h4
    obtain ⟨ao, m, cap, l, e5, hm, hz, hs⟩ := read_strs h5
    simp only [Hd.cs, List.cons.injEq, and_true] at e0 e1 e2 e3 e4 e5
    obtain ⟨e3, e6⟩ := e3
    subst e0 e1 e2 e3 e4 e5 e6
    exact ⟨⟨k, f, t, nh, n, l⟩, ao, m, cap, rfl, ho.2, hm, hz, hs⟩

end

end Go.Proofs.Yteemblfjghnooaa.Open
