/- Texts in one: OpenH, KpT, Is3. -/
import Derived.Test.YtfpaichdkddglaaDoorPk27
import Derived.Test.YtfpaichdkddglaaDoorPk9
import Derived.Test.YtfpaichdkddglaaDoorProg
import Derived.Test.YtfpaichdkddglaaDoorPk7
import Derived.Test.YtfpaichdkddglaaDoorPk20
import Derived.ChangeSame
/- What came in, read as heads. -/
namespace Go.Proofs.YtfpaichdkddglaaDoor.Open
open Go.RowKit Go.ChangeShapes Go.WideShapes Go.ChangeAt Go.Deep Go.Joins Go.Proofs.YtfpaichdkddglaaDoor.Mem Go.Proofs.YtfpaichdkddglaaDoor.He
set_option linter.unusedVariables false
set_option linter.unusedSimpArgs false

/-- a head whose number and text are such as Go can hold -/
def Okh (h : Hd) : Prop := (Lit.int .i64 h.n).wf = true ∧ h.r.size ≤ maxLen

section
variable {H : Type} {enc : TypeId × Value → H} {w : World} {base : Nat} {spare : Nat → Bool} {held : Bool}

set_option maxRecDepth 1000000 in
theorem cells_head : Tryd.prog.cellsOf 36 = 2 := by kernel_rfl

set_option maxRecDepth 1000000 in
theorem read_head {fuel : Nat} {cs : List Value} {y : DataW H × List MemPlace} (h : DataW.trod enc Tryd.prog w base spare held fuel 36 cs = some y) :
    ∃ n : Hd, cs = n.cs ∧ Okh n := by
  obtain ⟨y0, y1, n, _, hl, h0, h1⟩ := trod_struct2 Tryd.underlying36 h
  rw [cells_head] at hl
  match cs, hl with
  | [c0, c1], _ =>
    have k3 : Tryd.prog.cellsOf 3 = 1 := by kernel_rfl
    have k9 : Tryd.prog.cellsOf 9 = 1 := by kernel_rfl
    simp only [k3, k9, List.drop_zero, List.drop_succ_cons, List.take_succ_cons, List.take_zero] at h0 h1
    obtain ⟨a, e0, _, wa⟩ := DataW.trod_int Tryd.underlying3 h0
    obtain ⟨p, e1, _, wp⟩ := DataW.trod_string Tryd.underlying9 h1
    simp only [List.cons.injEq, and_true] at e0 e1
    subst e0 e1
    exact ⟨⟨a, p⟩, rfl, wa, wp⟩

theorem flat_hds : ∀ l : List Hd, (l.map Hd.cs).flatten = hds l := by
  intro l
  induction l with
  | nil => rfl
  | cons n r ih => rw [List.map_cons, List.flatten_cons, ih]; rfl
theorem rows_hds : ∀ R : List (List Value), (∀ r ∈ R, ∃ n : Hd, r = n.cs ∧ Okh n) → ∃ l : List Hd, R = l.map Hd.cs ∧ ∀ n ∈ l, Okh n := by
  intro R
  induction R with
  | nil => intro _; exact ⟨[], rfl, fun n hn => (by cases hn)⟩
  | cons r R ih =>
    intro h
    obtain ⟨n, rfl, hn⟩ := h r (by simp)
    obtain ⟨l, rfl, hl⟩ := ih (fun x hx => h x (by simp [hx]))
    exact ⟨n :: l, rfl, fun x hx => by rcases List.mem_cons.1 hx with rfl | hx; exact hn; exact hl x hx⟩

end

end Go.Proofs.YtfpaichdkddglaaDoor.Open

/- Chapter 12: how many bytes texts have together. -/
namespace Go.Proofs.YtfpaichdkddglaaDoor.Sr
set_option linter.unusedVariables false

theorem tot_leN (N : Nat) : ∀ l : List ByteArray, (∀ s ∈ l, s.size ≤ N) → Puts.tot l ≤ l.length * N := by
  intro l
  induction l with
  | nil => intro _; exact Nat.zero_le _
  | cons a r ih =>
    intro hl
    have h1 := hl a (List.mem_cons_self ..)
    have h2 := ih (fun s hs => hl s (List.mem_cons_of_mem _ hs))
    simp only [Puts.tot, List.length_cons]
    rw [Nat.add_mul]
    omega
theorem tot_le1000 (l : List ByteArray) (hl : l.length ≤ 1000) (h : ∀ s ∈ l, s.size ≤ 1000) : Puts.tot l ≤ 1000000 := by
  have h1 := tot_leN 1000 l h
  have h2 : l.length * 1000 ≤ 1000 * 1000 := Nat.mul_le_mul_right _ hl
  omega

end Go.Proofs.YtfpaichdkddglaaDoor.Sr

/- From a row's list of variables to one error made by errors.New. -/
namespace Go.Proofs.YtfpaichdkddglaaDoor.Is
open Go.RowKit Go.Extern.Stop Go.Stop Go.Extern
set_option linter.unusedVariables false
set_option linter.unusedSimpArgs false

theorem laid_one {P : Program} {n0 nm : String} {text0 : List UInt8} {r : List (String × DataW Unit)} {W : World} {g0 : Nat} {ti tp te ts : TypeId} {ms : Array (String × TypeId)} {f : Field}
    (h : laidMet P ((n0, .iface nm (.ptr (.agg [.lit (.string text0)]))) :: r) W)
    (hg0 : P.globalNamed n0 = some g0) (ht0 : (P.globals[g0]?).map (·.type) = some ti)
    (hi : P.underlying ti = some (.interface ms)) (hrow : ∀ u, P.typeName? 3 u = some nm → u = tp)
    (hp : P.underlying tp = some (.pointer te)) (he : P.underlying te = some (.struct #[f])) (hft : f.type = ts) (hfo : f.offset = 0) (hs : P.underlying ts = some .string) (hc : P.cellsOf te = 1) (hcs : P.cellsOf ts = 1) :
    ∃ (a0 : Addr) (c0 : Array Value) (t0 : TypeId), W.var? P n0 = some #[.iface tp (.pointer (some a0))] ∧ W.heap[a0.block]? = some (.cells c0 t0 (0, 0)) := by
  obtain ⟨ps, ⟨g0', t0', cs0, f0, p0, q0, hg0', ht0', hv0, hd0, _, e0⟩, hnd, hrows⟩ := h
  obtain rfl := Option.some.inj (hg0.symm.trans hg0')
  obtain rfl := Option.some.inj (ht0.symm.trans ht0')
  subst e0
  obtain ⟨l0⟩ := cs0
  have ok0 : ∀ u v, l0 = [.iface u v] → Value.okWide P W .any 0 u v := fun u v e => by
    subst e
    exact (hrows g0 0 (by simp [MemPlace.row])).2 u v (by simpa using World.var?_cell hg0' hv0 0)
  obtain ⟨a0, s0, rfl, hc0, hs0, hz0, rfl⟩ := errorString_of_trod hi hrow hp he hft hfo hs hc hcs hd0 ok0
  obtain ⟨c0, t0, hb0⟩ := (hrows a0.block a0.off (by simp [MemPlace.row])).1
  exact ⟨a0, c0, t0, hv0, hb0⟩

theorem one {n0 : String} {x0 : List UInt8} {g0 : Nat} {W : World} (h : laidMet Tryd.prog [(n0, lay x0)] W)
    (hg0 : Tryd.prog.globalNamed n0 = some g0) (ht0 : (Tryd.prog.globals[g0]?).map (·.type) = some 90) : ∃ a0 : Addr, At W g0 a0 := by
  obtain ⟨a0, c0, t0, hv0, hb0⟩ := laid_one h hg0 ht0 Tryd.underlying90 rowE Tryd.underlying99 Tryd.underlying116 rfl rfl Tryd.underlying9 cellsE cells9
  exact ⟨a0, by simpa using World.var?_cell hg0 hv0 0, c0, t0, hb0⟩

end Go.Proofs.YtfpaichdkddglaaDoor.Is
