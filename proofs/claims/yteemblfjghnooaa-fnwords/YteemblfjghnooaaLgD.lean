/- Chapter 11, the specification's draws: logs that may be wrong. -/
import Derived.Test.YteemblfjghnooaaLg1
import Derived.Test.YteemblfjghnooaaHe7
import Derived.Test.YteemblfjghnooaaNth
namespace Go.Proofs.Yteemblfjghnooaa.Lg
open Go.RowKit Go.Proofs.Yteemblfjghnooaa.Mem Go.Proofs.Yteemblfjghnooaa.Laws Go.Proofs.Yteemblfjghnooaa.Bytes Go.Proofs.Yteemblfjghnooaa.Sha Go.Proofs.Yteemblfjghnooaa.Tr Go.Proofs.Yteemblfjghnooaa.Draw Go.Proofs.Yteemblfjghnooaa.He
set_option linter.unusedVariables false
set_option linter.unusedSimpArgs false

theorem keep1 {w w' : World} {lo hi : Nat} {e : TypeId} {v : Value} {cs : List Value} (h : Own w lo hi e v cs) (hk : ∀ g, v.ownBlock = some g → w'.heap[g]? = w.heap[g]?) : Own w' lo hi e v cs := by
  obtain ⟨⟨h1, h2⟩, h3⟩ := h
  refine ⟨⟨h1, ?_⟩, h3⟩
  rcases h2 with h2 | ⟨g, cap, cur, rfl, hb, hg, r⟩
  · exact .inl h2
  · exact .inr ⟨g, cap, cur, rfl, hb, by rw [hk g rfl]; exact hg, r⟩
/-- a row of another type is not what is owned -/
theorem ne_row {w : World} {lo hi g : Nat} {e t : TypeId} {v : Value} {cs : List Value} {cs' : Array Value} {fr : Nat × Nat} (h : Own w lo hi e v cs) (hr : w.heap[g]? = some (.cells cs' t fr)) (ht : t ≠ e) : v.ownBlock ≠ some g := by
  intro hv
  obtain ⟨⟨h1, h2⟩, h3⟩ := h
  rcases h2 with ⟨rfl, _⟩ | ⟨g', cap, cur, rfl, hb, hg, r⟩
  · simp [Value.ownBlock] at hv
  · simp [Value.ownBlock] at hv
    subst hv
    rw [hg] at hr
    simp at hr
    exact ht hr.2.1.symm

theorem drawn_row {W0 w w' : World} {g k : Nat} {vb : Value} {xs : List Int} {o : Obj} (h : w.heap[k]? = some o) (d : Drawn W0 w g vb xs w') (hk : k ≠ g) : w'.heap[k]? = some o :=
  (d.apart.block k (Array.getElem?_eq_some_iff.1 h).1 (by omega)).trans h

end Go.Proofs.Yteemblfjghnooaa.Lg
