/- Texts in one: OpenS, OpenQ, Is3. -/
import Derived.Test.YtchonoonclllbaaGreatDoorPv26
import Derived.Test.YtchonoonclllbaaGreatDoorPv16
import Derived.Deep.Strs
namespace Go.Proofs.YtchonoonclllbaaGreatDoor.Open
open Go.RowKit Go.ChangeShapes Go.WideShapes Go.ChangeAt Go.Deep Go.Joins Go.Proofs.YtchonoonclllbaaGreatDoor.Mem Go.Proofs.YtchonoonclllbaaGreatDoor.He
set_option linter.unusedVariables false
set_option linter.unusedSimpArgs false
section
variable {H : Type} {enc : TypeId × Value → H} {w : World} {base : Nat} {held : Bool}
set_option maxRecDepth 1000000 in
theorem read_bytes {fuel : Nat} {cs : List Value} {y : DataW H × List MemPlace} (h : DataW.trod enc Tryz.prog w base (fun _ => true) held fuel 22 cs = some y) :
  ∃ (ao : Option Addr) (m cap : Nat) (xs : List Int), cs = [.slice ao m cap] ∧ xs.length ≤ maxLen ∧ Byt xs ∧ Sl w (.slice ao m cap) (bs xs) := by
 rcases open_ints Tryz.underlying22 Tryz.underlying5 (by kernel_rfl) h with ⟨hcs, _⟩ | ⟨x, l, c, zs, hcs, _, hl, hm, hz, _, hcell, hwz⟩
 ·
  obtain ⟨xs, hs, h0, hy⟩ := RowSl.row_sl (w := w) (a := none) (len := 0) (cap := 0) (zs := []) (.inl ⟨rfl, rfl, rfl, rfl⟩)
  exact ⟨none, 0, 0, xs, hcs, by have h0 : xs.length = 0 := (by omega); rw [h0]; exact Nat.zero_le _, hy, hs⟩
 ·
  obtain ⟨xs, hs, he, hy⟩ := RowSl.row_sl (w := w) (.inr ⟨_, rfl, hl, hm, by simpa using hz, hcell, hwz⟩)
  exact ⟨_, _, _, xs, hcs, by rw [← he]; exact Nat.le_trans hl hm, hy, hs⟩
set_option maxRecDepth 1000000 in
theorem cells_store : Tryz.prog.cellsOf 61 = 5 := by kernel_rfl
set_option maxRecDepth 1000000 in
theorem read_store {fuel : Nat} {cs : List Value} {y : DataW H × List MemPlace} (h : DataW.trod enc Tryz.prog w base (fun _ => true) held fuel 61 cs = some y) :
  ∃ (n : Hd) (ao : Option Addr) (m cap : Nat) (l : List ByteArray) (ao' : Option Addr) (m' cap' : Nat) (b : List Int) (s : Int), cs = [.slice ao m cap, .int .i64 n.n, .string n.r, .slice ao' m' cap', .int .i64 s] ∧ Okh n ∧ l.length ≤ maxLen ∧ (∀ s ∈ l, s.size ≤ maxLen) ∧ Sl w (.slice ao m cap) (ss l) ∧ b.length ≤ maxLen ∧ Byt b ∧ Sl w (.slice ao' m' cap') (bs b) ∧ (Lit.int .i64 s).wf = true := by
 obtain ⟨y0, y1, y2, k, _, hl, h0, h1, h2⟩ := trod_struct3 Tryz.underlying61 h
 rw [cells_store] at hl
 match cs, hl with
 | [c0, c1, c2, c3, c4], _ =>
  have kl : Tryz.prog.cellsOf 59 = 3 := cells_log
  have kb : Tryz.prog.cellsOf 22 = 1 := by kernel_rfl
  have ki : Tryz.prog.cellsOf 3 = 1 := by kernel_rfl
  simp only [kl, kb, ki, List.drop_zero, List.drop_succ_cons, List.take_succ_cons, List.take_zero] at h0 h1 h2
  obtain ⟨n, ao, m, cap, l, e0, ho, hm, hz, hs⟩ := read_log h0
  obtain ⟨ao', m', cap', b, e1, hb1, hb2, hb3⟩ := read_bytes h1
  obtain ⟨s, e2, _, hw⟩ := DataW.trod_int Tryz.underlying3 h2
  simp only [List.cons.injEq, and_true] at e0 e1 e2
  obtain ⟨e0, e3, e4⟩ := e0
  subst e0 e1 e2 e3 e4
  exact ⟨n, ao, m, cap, l, ao', m', cap', b, s, rfl, ho, hm, hz, hs, hb1, hb2, hb3, hw⟩
end
section
variable {H : Type} {enc : TypeId × Value → H} {w : World} {base : Nat} {held : Bool}
set_option maxRecDepth 1000000 in
theorem cells_mirror : Tryz.prog.cellsOf 63 = 8 := by kernel_rfl
set_option maxRecDepth 1000000 in
theorem read_mirror {fuel : Nat} {cs : List Value} {y : DataW H × List MemPlace} (h : DataW.trod enc Tryz.prog w base (fun _ => true) held fuel 63 cs = some y) :
  ∃ (id : Int) (n : Hd) (ao : Option Addr) (m cap : Nat) (l : List ByteArray) (ao' : Option Addr) (m' cap' : Nat) (b : List Int) (s : Int) (g : Hd), cs = [.int .i64 id, .slice ao m cap, .int .i64 n.n, .string n.r, .slice ao' m' cap', .int .i64 s, .int .i64 g.n, .string g.r] ∧ Okh n ∧ Okh g ∧ l.length ≤ maxLen ∧ (∀ s ∈ l, s.size ≤ maxLen) ∧ Sl w (.slice ao m cap) (ss l) ∧ b.length ≤ maxLen ∧ Byt b ∧ Sl w (.slice ao' m' cap') (bs b) ∧ (Lit.int .i64 s).wf = true ∧ (Lit.int .i64 id).wf = true := by
 obtain ⟨y0, y1, y2, k, _, hl, h0, h1, h2⟩ := trod_struct3 Tryz.underlying63 h
 rw [cells_mirror] at hl
 match cs, hl with
 | [c0, c1, c2, c3, c4, c5, c6, c7], _ =>
  have kl : Tryz.prog.cellsOf 61 = 5 := cells_store
  have kb : Tryz.prog.cellsOf 57 = 2 := cells_head
  have ki : Tryz.prog.cellsOf 3 = 1 := by kernel_rfl
  simp only [kl, kb, ki, List.drop_zero, List.drop_succ_cons, List.take_succ_cons, List.take_zero] at h0 h1 h2
  obtain ⟨id, e0, _, hw⟩ := DataW.trod_int Tryz.underlying3 h0
  obtain ⟨n, ao, m, cap, l, ao', m', cap', b, s, e1, ho, hm, hz, hs, hb1, hb2, hb3, hws⟩ := read_store h1
  obtain ⟨g, e2, hg⟩ := read_head h2
  simp only [Hd.cs, List.cons.injEq, and_true] at e0 e1 e2
  obtain ⟨e3, e4, e5, e6, e7⟩ := e1
  obtain ⟨e8, e9⟩ := e2
  subst e0 e3 e4 e5 e6 e7 e8 e9
  exact ⟨id, n, ao, m, cap, l, ao', m', cap', b, s, g, rfl, ho, hg, hm, hz, hs, hb1, hb2, hb3, hws, hw⟩
end
end Go.Proofs.YtchonoonclllbaaGreatDoor.Open
namespace Go.Proofs.YtchonoonclllbaaGreatDoor.Is
open Go.RowKit Go.Extern.Stop Go.Stop Go.Extern
set_option linter.unusedVariables false
set_option linter.unusedSimpArgs false
theorem laid_one {P : Program} {n0 nm : String} {text0 : List UInt8} {r : List (String × DataW Unit)} {W : World} {g0 : Nat} {ti tp te ts : TypeId} {ms : Array (String × TypeId)} {f : Field}
  (h : laidMet P ((n0, .iface nm (.ptr (.agg [.lit (.string text0)]))) :: r) W)
  (hg0 : P.globalNamed n0 = some g0) (ht0 : (P.globals[g0]?).map (·.type) = some ti)
  (hi : P.underlying ti = some (.interface ms)) (hrow : ∀ u, P.typeName? 3 u = some nm → u = tp)
  (hp : P.underlying tp = some (.pointer te)) (he : P.underlying te = some (.struct #[f])) (hft : f.type = ts) (hfo : f.offset = 0) (hs : P.underlying ts = some .string) (hc : P.cellsOf te = 1) (hcs : P.cellsOf ts = 1) :
  ∃ (a0 : Addr) (c0 : Array Value) (t0 : TypeId), W.var? P n0 = some #[.iface tp (.pointer (some a0))] ∧ W.heap[a0.block]? = some (.cells c0 t0 (0, 0)) := by
 obtain ⟨ps, ⟨g0', t0', cs0, f0, p0, q0, hg0', ht0', hv0, hd0, _, e0⟩, hnd, hrows⟩ := h
 obtain rfl := Option.some.inj (hg0.symm.trans hg0')
 obtain rfl := Option.some.inj (ht0.symm.trans ht0')
 subst e0
 obtain ⟨l0⟩ := cs0
 have ok0 : ∀ u v, l0 = [.iface u v] → Value.okWide P W .any 0 u v := fun u v e => by
  subst e
  exact (hrows g0 0 (by simp [MemPlace.row])).2 u v (by simpa using World.var?_cell hg0' hv0 0)
 obtain ⟨a0, s0, rfl, hc0, hs0, hz0, rfl⟩ := errorString_of_trod hi hrow hp he hft hfo hs hc hcs hd0 ok0
 obtain ⟨c0, t0, hb0⟩ := (hrows a0.block a0.off (by simp [MemPlace.row])).1
 exact ⟨a0, c0, t0, hv0, hb0⟩
theorem one {n0 : String} {x0 : List UInt8} {g0 : Nat} {W : World} (h : laidMet Tryz.prog [(n0, lay x0)] W)
  (hg0 : Tryz.prog.globalNamed n0 = some g0) (ht0 : (Tryz.prog.globals[g0]?).map (·.type) = some 173) : ∃ a0 : Addr, At W g0 a0 := by
 obtain ⟨a0, c0, t0, hv0, hb0⟩ := laid_one h hg0 ht0 Tryz.underlying173 rowE Tryz.underlying238 Tryz.underlying262 rfl rfl Tryz.underlying9 cellsE cells9
 exact ⟨a0, by simpa using World.var?_cell hg0 hv0 0, c0, t0, hb0⟩
end Go.Proofs.YtchonoonclllbaaGreatDoor.Is
