/- Texts in one: Row2. -/
import Derived.Test.YtbopliahafkecaaGreatDoorPk2
import Derived.Test.YtbopliahafkecaaGreatDoorPk3
import Derived.Deep.MidRow
import Derived.Laws.OwnMore
/- Stores of several cells into a row: what they leave; no program is named here. -/
namespace Go.Proofs.YtbopliahafkecaaGreatDoor.Mem
open Go.RowKit
set_option linter.unusedVariables false
set_option linter.unusedSimpArgs false

/-- cells with others in their place, from o on -/
def putL : List Value → Nat → List Value → List Value
  | cs, _, [] => cs
  | cs, o, v :: r => putL (cs.set o v) (o + 1) r
theorem putL_len : ∀ (vs cs : List Value) (o : Nat), (putL cs o vs).length = cs.length := by
  intro vs
  induction vs with
  | nil => intro cs o; rfl
  | cons v r ih => intro cs o; rw [putL, ih]; simp
theorem putL_get : ∀ (vs cs : List Value) (o j : Nat), (putL cs o vs)[j]? = if o ≤ j ∧ j < o + vs.length ∧ j < cs.length then vs[j - o]? else cs[j]? := by
  intro vs
  induction vs with
  | nil => intro cs o j; rw [putL, if_neg (by simp; omega)]
  | cons v r ih =>
    intro cs o j
    rw [putL, ih, List.length_set, List.length_cons, List.getElem?_set]
    by_cases h1 : o + 1 ≤ j ∧ j < o + 1 + r.length ∧ j < cs.length
    · rw [if_pos h1, if_pos (by omega)]
      rw [show j - o = (j - (o + 1)) + 1 by omega, List.getElem?_cons_succ]
    · rw [if_neg h1]
      by_cases h2 : o = j
      · subst h2
        rw [if_pos rfl]
        by_cases h3 : o < cs.length
        · rw [if_pos h3, if_pos ⟨Nat.le_refl _, by omega, h3⟩]
          simp
        · rw [if_neg h3, if_neg (by omega)]
          simp at h3
          simp [h3]
      · rw [if_neg h2, if_neg (by omega)]
/-- rows filled element by element -/
theorem putL_take {L C vs : List Value} {k n : Nat} (hL : L.length = C.length) (hk : k * n + n ≤ C.length) (h : L.take (k * n) = C.take (k * n)) (hv : vs.length = n) (hc : ∀ j, j < n → C[k * n + j]? = vs[j]?) : (putL L (k * n) vs).take ((k + 1) * n) = C.take ((k + 1) * n) := by
  have e : (k + 1) * n = k * n + n := by rw [Nat.add_mul, Nat.one_mul]
  rw [e]
  apply List.ext_getElem?
  intro j
  rw [List.getElem?_take, List.getElem?_take]
  by_cases h1 : j < k * n + n
  · rw [if_pos h1, if_pos h1, putL_get]
    by_cases h2 : k * n ≤ j
    · rw [if_pos ⟨h2, by omega, by omega⟩]
      have := hc (j - k * n) (by omega)
      rw [show k * n + (j - k * n) = j by omega] at this
      exact this.symm
    · rw [if_neg (by omega)]
      have := congrArg (fun l => l[j]?) h
      simp only [List.getElem?_take, if_pos (show j < k * n by omega)] at this
      exact this
  · rw [if_neg h1, if_neg h1]

theorem size_setCells (g : Nat) : ∀ (vs : List Value) (o : Nat) (w : World), (w.setCells g o vs).heap.size = w.heap.size := by
  intro vs
  induction vs with
  | nil => intro o w; rfl
  | cons v r ih => intro o w; rw [World.setCells, ih]; simp [World.setCell]
theorem heap_setCells (g : Nat) : ∀ (vs : List Value) (o : Nat) (w : World) (cur : List Value) (e : TypeId), w.heap[g]? = some (.cells cur.toArray e (0, 0)) → (w.setCells g o vs).heap[g]? = some (.cells (putL cur o vs).toArray e (0, 0)) := by
  intro vs
  induction vs with
  | nil => intro o w cur e h; exact h
  | cons v r ih =>
    intro o w cur e h
    rw [World.setCells, putL]
    refine ih (o + 1) _ _ e ?_
    rw [heap_setCell_same w g o cur.toArray e v h]
    simp
theorem heap_setCells_other (g k : Nat) (hk : k ≠ g) : ∀ (vs : List Value) (o : Nat) (w : World), (w.setCells g o vs).heap[k]? = w.heap[k]? := by
  intro vs
  induction vs with
  | nil => intro o w; rfl
  | cons v r ih =>
    intro o w
    rw [World.setCells, ih]
    exact heap_setCell_other w ⟨g, o, none⟩ k v hk
theorem below_setCells {B g : Nat} {a : World} (hg : B ≤ g) : ∀ (vs : List Value) (o : Nat) (w : World), Below B a w → Below B a (w.setCells g o vs) := by
  intro vs
  induction vs with
  | nil => intro o w h; exact h
  | cons v r ih =>
    intro o w h
    rw [World.setCells]
    exact ih (o + 1) _ (h.setCell (p := ⟨g, o, none⟩) hg v)
theorem apart_setCells {lo hi g : Nat} {a : World} (h1 : lo ≤ g) (h2 : g < hi) : ∀ (vs : List Value) (o : Nat) (w : World), Apart lo hi a w → Apart lo hi a (w.setCells g o vs) := by
  intro vs
  induction vs with
  | nil => intro o w h; exact h
  | cons v r ih =>
    intro o w h
    rw [World.setCells]
    exact ih (o + 1) _ (h.setCell (p := ⟨g, o, none⟩) h1 h2 v)
theorem own_setCells {n m cap lo g : Nat} {e : TypeId} : ∀ (vs : List Value) (o : Nat) (w : World) (cs : List Value), w.ownsRow lo e n (.slice (some ⟨g, 0, none⟩) m cap) m cs → (w.setCells g o vs).ownsRow lo e n (.slice (some ⟨g, 0, none⟩) m cap) m (putL cs o vs) := by
  intro vs
  induction vs with
  | nil => intro o w cs h; exact h
  | cons v r ih =>
    intro o w cs h
    rw [World.setCells, putL]
    exact ih (o + 1) _ _ (h.stored o v).1

theorem rowKeep {w w' : World} {g : Nat} {o : Obj} (h : w.heap[g]? = some o) (hb : Below w.heap.size w w') : w'.heap[g]? = some o := (hb.block g (Array.getElem?_eq_some_iff.1 h).1).trans h
theorem there_row {w : World} {g o n : Nat} {cur : Array Value} {e : TypeId} (h : w.heap[g]? = some (.cells cur e (0, 0))) (hn : o + n ≤ cur.size) : w.there g o n := by
  intro j hj
  refine ⟨?_, frozen_of_row w g (o + j) cur e h⟩
  rw [cell_of_row w g (o + j) cur e (0, 0) h]
  simp
  omega
theorem there_own {w : World} {g m cap lo n o k : Nat} {e : TypeId} {cs : List Value} (h : w.ownsRow lo e n (.slice (some ⟨g, 0, none⟩) m cap) m cs) (hk : o + k ≤ m * n) : w.there g o k := by
  intro j hj
  refine ⟨?_, h.frozenAt (o + j)⟩
  have hl := h.1
  rw [h.cellAt (o + j) (by omega)]
  simp
  omega

end Go.Proofs.YtbopliahafkecaaGreatDoor.Mem
