/- Texts in one: OpenS. -/
import Derived.Test.YtfpaichdkddglabPk16
import Derived.Deep.Strs
/- What came in, read as stores. -/
namespace Go.Proofs.Ytfpaichdkddglab.Open
open Go.RowKit Go.ChangeShapes Go.WideShapes Go.ChangeAt Go.Deep Go.Joins Go.Proofs.Ytfpaichdkddglab.Mem Go.Proofs.Ytfpaichdkddglab.He
set_option linter.unusedVariables false
set_option linter.unusedSimpArgs false

section
variable {H : Type} {enc : TypeId × Value → H} {w : World} {base : Nat} {held : Bool}

set_option maxRecDepth 1000000 in
theorem read_bytes {fuel : Nat} {cs : List Value} {y : DataW H × List MemPlace} (h : DataW.trod enc Try.prog w base (fun _ => true) held fuel 27 cs = some y) :
    ∃ (ao : Option Addr) (m cap : Nat) (xs : List Int), cs = [.slice ao m cap] ∧ xs.length ≤ maxLen ∧ Byt xs ∧ Sl w (.slice ao m cap) (bs xs) := by
  rcases open_ints Try.underlying27 Try.underlying5 (by kernel_rfl) h with ⟨hcs, _⟩ | ⟨x, l, c, zs, hcs, _, hl, hm, hz, _, hcell, hwz⟩
  · obtain ⟨xs, hs, h0, hy⟩ := RowSl.row_sl (w := w) (a := none) (len := 0) (cap := 0) (zs := []) (.inl ⟨rfl, rfl, rfl, rfl⟩)
    exact ⟨none, 0, 0, xs, hcs, by have h0 : xs.length = 0 := (by omega); rw [h0]; exact Nat.zero_le _, hy, hs⟩
  · obtain ⟨xs, hs, he, hy⟩ := RowSl.row_sl (w := w) (.inr ⟨_, rfl, hl, hm, by simpa using hz, hcell, hwz⟩)
    exact ⟨_, _, _, xs, hcs, by rw [← he]; exact Nat.le_trans hl hm, hy, hs⟩

set_option maxRecDepth 1000000 in
theorem cells_store : Try.prog.cellsOf 29 = 5 := by kernel_rfl

set_option maxRecDepth 1000000 in
theorem read_store {fuel : Nat} {cs : List Value} {y : DataW H × List MemPlace} (h : DataW.trod enc Try.prog w base (fun _ => true) held fuel 29 cs = some y) :
    ∃ (n : Hd) (ao : Option Addr) (m cap : Nat) (l : List ByteArray) (ao' : Option Addr) (m' cap' : Nat) (b : List Int) (s : Int), cs = [.slice ao m cap, .int .i64 n.n, .string n.r, .slice ao' m' cap', .int .i64 s] ∧ Okh n ∧ l.length ≤ maxLen ∧ (∀ s ∈ l, s.size ≤ maxLen) ∧ Sl w (.slice ao m cap) (ss l) ∧ b.length ≤ maxLen ∧ Byt b ∧ Sl w (.slice ao' m' cap') (bs b) ∧ (Lit.int .i64 s).wf = true := by
  obtain ⟨y0, y1, y2, k, _, hl, h0, h1, h2⟩ := trod_struct3 Try.underlying29 h
  rw [cells_store] at hl
  match cs, hl with
  | [c0, c1, c2, c3, c4], _ =>
    have kl : Try.prog.cellsOf 26 = 3 := cells_log
    have kb : Try.prog.cellsOf 27 = 1 := by kernel_rfl
    have ki : Try.prog.cellsOf 3 = 1 := by kernel_rfl
    simp only [kl, kb, ki, List.drop_zero, List.drop_succ_cons, List.take_succ_cons, List.take_zero] at h0 h1 h2
    obtain ⟨n, ao, m, cap, l, e0, ho, hm, hz, hs⟩ := read_log h0
    obtain ⟨ao', m', cap', b, e1, hb1, hb2, hb3⟩ := read_bytes h1
    obtain ⟨s, e2, _, hw⟩ := DataW.trod_int Try.underlying3 h2
    simp only [List.cons.injEq, and_true] at e0 e1 e2
    obtain ⟨e0, e3, e4⟩ := e0
    subst e0 e1 e2 e3 e4
    exact ⟨n, ao, m, cap, l, ao', m', cap', b, s, rfl, ho, hm, hz, hs, hb1, hb2, hb3, hw⟩

end

end Go.Proofs.Ytfpaichdkddglab.Open
