/- Texts in one: Is2. -/
import Derived.Test.YtchonoonclllbaaGreatDoorPh26
import Derived.Test.YtchonoonclllbaaGreatDoorRows
import Derived.Stop.LaidTwo
import Derived.LaidSub
import Derived.MakeChecks
import Derived.ChangeShapes
set_option maxHeartbeats 16000000
set_option linter.unusedVariables false
set_option linter.unusedSimpArgs false
namespace Go.Proofs.YtchonoonclllbaaGreatDoor.Is
open Go.RowKit Go.Extern.Stop Go.Stop Go.Extern
theorem star : "*" ++ "errors.errorString" = "*errors.errorString" := by decide
theorem rowE (u : TypeId) (h : Tryz.prog.typeName? 3 u = some "*errors.errorString") : u = 238 :=
 typeName_ptr_named (nm := "errors.errorString") (by rw [star]; kernel_rfl) (by kernel_rfl) (by decide) u (by rw [star]; exact h)
theorem cellsE : Tryz.prog.cellsOf 262 = 1 := by kernel_rfl
theorem cells9 : Tryz.prog.cellsOf 9 = 1 := by kernel_rfl
abbrev lay (x : List UInt8) : DataW Unit := .iface "*errors.errorString" (.ptr (.agg [.lit (.string x)]))
def At (w : World) (g : Nat) (a : Addr) : Prop := w.cell? ⟨g, 0, none⟩ = some (.iface 238 (.pointer (some a))) ∧ ∃ c t, w.heap[a.block]? = some (.cells c t (0, 0))
theorem At.later {w w' : World} {g : Nat} {a : Addr} (h : At w g a) (b : Below w.heap.size w w') : At w' g a := by
 obtain ⟨h1, c, t, h2⟩ := h
 exact ⟨(b.cell (World.block_lt_of_cell? w _ h1)).trans h1, c, t, (b.block _ (Array.getElem?_eq_some_iff.1 h2).1).trans h2⟩
theorem At.same {w : World} {g : Nat} {a b : Addr} (h : At w g a) (k : At w g b) : a = b := by
 have := h.1.symm.trans k.1
 simpa using this
theorem two {n0 n1 : String} {x0 x1 : List UInt8} {g0 g1 : Nat} {W : World} (h : laidMet Tryz.prog [(n0, lay x0), (n1, lay x1)] W)
  (hg0 : Tryz.prog.globalNamed n0 = some g0) (ht0 : (Tryz.prog.globals[g0]?).map (·.type) = some 173) (hg1 : Tryz.prog.globalNamed n1 = some g1) (ht1 : (Tryz.prog.globals[g1]?).map (·.type) = some 173) :
  ∃ a0 a1 : Addr, At W g0 a0 ∧ At W g1 a1 ∧ a0 ≠ a1 := by
 obtain ⟨a0, a1, s0, s1, c0, c1, t0, t1, hv0, hv1, hc0, hs0, hz0, hc1, hs1, hz1, hne, hb0, hb1⟩ := laid_sentinels2 h hg0 ht0 hg1 ht1 Tryz.underlying173 rowE Tryz.underlying238 Tryz.underlying262 rfl rfl Tryz.underlying9 cellsE cells9
 exact ⟨a0, a1, ⟨by simpa using World.var?_cell hg0 hv0 0, c0, t0, hb0⟩, ⟨by simpa using World.var?_cell hg1 hv1 0, c1, t1, hb1⟩, hne⟩
theorem vars_len {H : Type} {enc : TypeId × Value → H} {P : Program} {w : World} {spare : Nat → Bool} : ∀ (ns : List String) (gs : List (DataW H)) (ps : List MemPlace), DataW.TrodVars enc P w spare ns gs ps → gs.length = ns.length := by
 intro ns
 induction ns with
 | nil =>
  intro gs ps h
  obtain ⟨rfl, _⟩ := Go.ChangeShapes.trodVars_none h
  rfl
 | cons n ns ih =>
  intro gs ps h
  cases gs with
  | nil => simp [DataW.TrodVars] at h
  | cons d ds =>
   obtain ⟨_, _, _, _, _, _, _, _, _, _, hs, _⟩ := h
   simp [ih _ _ hs]
end Go.Proofs.YtchonoonclllbaaGreatDoor.Is
