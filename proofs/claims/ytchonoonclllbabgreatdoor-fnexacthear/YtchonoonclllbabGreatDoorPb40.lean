/- Texts in one: OpenS, OpenQ, OpenM. -/
import Derived.Test.YtchonoonclllbabGreatDoorPb39
import Derived.Test.YtchonoonclllbabGreatDoorPb12
import Derived.Deep.Strs
namespace Go.Proofs.YtchonoonclllbabGreatDoor.Open
open Go.RowKit Go.ChangeShapes Go.WideShapes Go.ChangeAt Go.Deep Go.Joins Go.Proofs.YtchonoonclllbabGreatDoor.Mem Go.Proofs.YtchonoonclllbabGreatDoor.He
set_option linter.unusedVariables false
set_option linter.unusedSimpArgs false
section
variable {H : Type} {enc : TypeId × Value → H} {w : World} {base : Nat} {held : Bool}
set_option maxRecDepth 1000000 in
theorem read_bytes {fuel : Nat} {cs : List Value} {y : DataW H × List MemPlace} (h : DataW.trod enc Tryz.prog w base (fun _ => true) held fuel 27 cs = some y) :
  ∃ (ao : Option Addr) (m cap : Nat) (xs : List Int), cs = [.slice ao m cap] ∧ xs.length ≤ maxLen ∧ Byt xs ∧ Sl w (.slice ao m cap) (bs xs) := by
 rcases open_ints Tryz.underlying27 Tryz.underlying5 (by kernel_rfl) h with ⟨hcs, _⟩ | ⟨x, l, c, zs, hcs, _, hl, hm, hz, _, hcell, hwz⟩
 ·
  obtain ⟨xs, hs, h0, hy⟩ := RowSl.row_sl (w := w) (a := none) (len := 0) (cap := 0) (zs := []) (.inl ⟨rfl, rfl, rfl, rfl⟩)
  exact ⟨none, 0, 0, xs, hcs, by have h0 : xs.length = 0 := (by omega); rw [h0]; exact Nat.zero_le _, hy, hs⟩
 ·
  obtain ⟨xs, hs, he, hy⟩ := RowSl.row_sl (w := w) (.inr ⟨_, rfl, hl, hm, by simpa using hz, hcell, hwz⟩)
  exact ⟨_, _, _, xs, hcs, by rw [← he]; exact Nat.le_trans hl hm, hy, hs⟩
set_option maxRecDepth 1000000 in
theorem cells_store : Tryz.prog.cellsOf 29 = 5 := by kernel_rfl
set_option maxRecDepth 1000000 in
theorem read_store {fuel : Nat} {cs : List Value} {y : DataW H × List MemPlace} (h : DataW.trod enc Tryz.prog w base (fun _ => true) held fuel 29 cs = some y) :
  ∃ (n : Hd) (ao : Option Addr) (m cap : Nat) (l : List ByteArray) (ao' : Option Addr) (m' cap' : Nat) (b : List Int) (s : Int), cs = [.slice ao m cap, .int .i64 n.n, .string n.r, .slice ao' m' cap', .int .i64 s] ∧ Okh n ∧ l.length ≤ maxLen ∧ (∀ s ∈ l, s.size ≤ maxLen) ∧ Sl w (.slice ao m cap) (ss l) ∧ b.length ≤ maxLen ∧ Byt b ∧ Sl w (.slice ao' m' cap') (bs b) ∧ (Lit.int .i64 s).wf = true := by
 obtain ⟨y0, y1, y2, k, _, hl, h0, h1, h2⟩ := trod_struct3 Tryz.underlying29 h
 rw [cells_store] at hl
 match cs, hl with
 | [c0, c1, c2, c3, c4], _ =>
  have kl : Tryz.prog.cellsOf 26 = 3 := cells_log
  have kb : Tryz.prog.cellsOf 27 = 1 := by kernel_rfl
  have ki : Tryz.prog.cellsOf 3 = 1 := by kernel_rfl
  simp only [kl, kb, ki, List.drop_zero, List.drop_succ_cons, List.take_succ_cons, List.take_zero] at h0 h1 h2
  obtain ⟨n, ao, m, cap, l, e0, ho, hm, hz, hs⟩ := read_log h0
  obtain ⟨ao', m', cap', b, e1, hb1, hb2, hb3⟩ := read_bytes h1
  obtain ⟨s, e2, _, hw⟩ := DataW.trod_int Tryz.underlying3 h2
  simp only [List.cons.injEq, and_true] at e0 e1 e2
  obtain ⟨e0, e3, e4⟩ := e0
  subst e0 e1 e2 e3 e4
  exact ⟨n, ao, m, cap, l, ao', m', cap', b, s, rfl, ho, hm, hz, hs, hb1, hb2, hb3, hw⟩
end
section
variable {H : Type} {enc : TypeId × Value → H} {w : World} {base : Nat} {held : Bool}
set_option maxRecDepth 1000000 in
theorem cells_mirror : Tryz.prog.cellsOf 31 = 8 := by kernel_rfl
set_option maxRecDepth 1000000 in
theorem read_mirror {fuel : Nat} {cs : List Value} {y : DataW H × List MemPlace} (h : DataW.trod enc Tryz.prog w base (fun _ => true) held fuel 31 cs = some y) :
  ∃ (id : Int) (n : Hd) (ao : Option Addr) (m cap : Nat) (l : List ByteArray) (ao' : Option Addr) (m' cap' : Nat) (b : List Int) (s : Int) (g : Hd), cs = [.int .i64 id, .slice ao m cap, .int .i64 n.n, .string n.r, .slice ao' m' cap', .int .i64 s, .int .i64 g.n, .string g.r] ∧ Okh n ∧ Okh g ∧ l.length ≤ maxLen ∧ (∀ s ∈ l, s.size ≤ maxLen) ∧ Sl w (.slice ao m cap) (ss l) ∧ b.length ≤ maxLen ∧ Byt b ∧ Sl w (.slice ao' m' cap') (bs b) ∧ (Lit.int .i64 s).wf = true ∧ (Lit.int .i64 id).wf = true := by
 obtain ⟨y0, y1, y2, k, _, hl, h0, h1, h2⟩ := trod_struct3 Tryz.underlying31 h
 rw [cells_mirror] at hl
 match cs, hl with
 | [c0, c1, c2, c3, c4, c5, c6, c7], _ =>
  have kl : Tryz.prog.cellsOf 29 = 5 := cells_store
  have kb : Tryz.prog.cellsOf 24 = 2 := cells_head
  have ki : Tryz.prog.cellsOf 3 = 1 := by kernel_rfl
  simp only [kl, kb, ki, List.drop_zero, List.drop_succ_cons, List.take_succ_cons, List.take_zero] at h0 h1 h2
  obtain ⟨id, e0, _, hw⟩ := DataW.trod_int Tryz.underlying3 h0
  obtain ⟨n, ao, m, cap, l, ao', m', cap', b, s, e1, ho, hm, hz, hs, hb1, hb2, hb3, hws⟩ := read_store h1
  obtain ⟨g, e2, hg⟩ := read_head h2
  simp only [Hd.cs, List.cons.injEq, and_true] at e0 e1 e2
  obtain ⟨e3, e4, e5, e6, e7⟩ := e1
  obtain ⟨e8, e9⟩ := e2
  subst e0 e3 e4 e5 e6 e7 e8 e9
  exact ⟨id, n, ao, m, cap, l, ao', m', cap', b, s, g, rfl, ho, hg, hm, hz, hs, hb1, hb2, hb3, hws, hw⟩
end
section
variable {H : Type} {enc : TypeId × Value → H} {w : World} {base : Nat} {held : Bool}
theorem six {P : Program} {spare : Nat → Bool} {t : TypeId} {f0 f1 f2 f3 f4 f5 : Field} {fuel : Nat} {cs : List Value} {x : DataW H × List MemPlace} (ht : P.underlying t = some (.struct #[f0, f1, f2, f3, f4, f5])) (h : DataW.trod enc P w base spare held fuel t cs = some x) :
  ∃ y0 y1 y2 y3 y4 y5 n, cs.length = P.cellsOf t ∧ DataW.trod enc P w base spare held n f0.type ((cs.drop f0.offset).take (P.cellsOf f0.type)) = some y0 ∧ DataW.trod enc P w base spare held n f1.type ((cs.drop f1.offset).take (P.cellsOf f1.type)) = some y1 ∧ DataW.trod enc P w base spare held n f2.type ((cs.drop f2.offset).take (P.cellsOf f2.type)) = some y2 ∧ DataW.trod enc P w base spare held n f3.type ((cs.drop f3.offset).take (P.cellsOf f3.type)) = some y3 ∧ DataW.trod enc P w base spare held n f4.type ((cs.drop f4.offset).take (P.cellsOf f4.type)) = some y4 ∧ DataW.trod enc P w base spare held n f5.type ((cs.drop f5.offset).take (P.cellsOf f5.type)) = some y5 := by
 obtain ⟨xs, n, _, rfl, hl, hlen, hf⟩ := DataW.trod_struct ht h
 match xs, hlen with
 | [y0, y1, y2, y3, y4, y5], _ => exact ⟨y0, y1, y2, y3, y4, y5, n, hl, by simpa using hf 0 f0 rfl, by simpa using hf 1 f1 rfl, by simpa using hf 2 f2 rfl, by simpa using hf 3 f3 rfl, by simpa using hf 4 f4 rfl, by simpa using hf 5 f5 rfl⟩
set_option maxRecDepth 1000000 in
theorem cells_msg : Tryz.prog.cellsOf 34 = 7 := by kernel_rfl
set_option maxRecDepth 1000000 in
theorem read_msg {fuel : Nat} {cs : List Value} {y : DataW H × List MemPlace} (h : DataW.trod enc Tryz.prog w base (fun _ => true) held fuel 34 cs = some y) :
  ∃ (q : Mg.Ms) (ao : Option Addr) (m cap : Nat), cs = [.int .i64 q.k, .int .i64 q.f, .int .i64 q.t, .int .i64 q.h.n, .string q.h.r, .int .i64 q.n, .slice ao m cap] ∧ q.h.r.size ≤ maxLen ∧ q.x.length ≤ maxLen ∧ (∀ s ∈ q.x, s.size ≤ maxLen) ∧ Sl w (.slice ao m cap) (ss q.x) := by
 obtain ⟨y0, y1, y2, y3, y4, y5, j, hl, h0, h1, h2, h3, h4, h5⟩ := six Tryz.underlying34 h
 rw [cells_msg] at hl
 match cs, hl with
 | [c0, c1, c2, c3, c4, c5, c6], _ =>
  have kh : Tryz.prog.cellsOf 24 = 2 := cells_head
  have ks : Tryz.prog.cellsOf 22 = 1 := by kernel_rfl
  have ki : Tryz.prog.cellsOf 3 = 1 := by kernel_rfl
  simp only [kh, ks, ki, List.drop_zero, List.drop_succ_cons, List.take_succ_cons, List.take_zero] at h0 h1 h2 h3 h4 h5
  obtain ⟨k, e0, _, _⟩ := DataW.trod_int Tryz.underlying3 h0
  obtain ⟨f, e1, _, _⟩ := DataW.trod_int Tryz.underlying3 h1
  obtain ⟨t, e2, _, _⟩ := DataW.trod_int Tryz.underlying3 h2
  obtain ⟨nh, e3, ho⟩ := read_head h3
  obtain ⟨n, e4, _, _⟩ := DataW.trod_int Tryz.underlying3 h4
  obtain ⟨ao, m, cap, l, e5, hm, hz, hs⟩ := read_strs h5
  simp only [Hd.cs, List.cons.injEq, and_true] at e0 e1 e2 e3 e4 e5
  obtain ⟨e3, e6⟩ := e3
  subst e0 e1 e2 e3 e4 e5 e6
  exact ⟨⟨k, f, t, nh, n, l⟩, ao, m, cap, rfl, ho.2, hm, hz, hs⟩
end
end Go.Proofs.YtchonoonclllbabGreatDoor.Open
