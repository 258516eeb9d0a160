/- Texts in one: Open. -/
import Derived.Test.YtbopliahafkecaaDoorPk2
import Derived.Deep.Slices
import Derived.Lib.SmallJoins
import Derived.OpenShut
/- What came in, read as records: a slice of structs is a list of rows of cells; no program is named here. -/
namespace Go.Proofs.YtbopliahafkecaaDoor.Open
open Go.RowKit Go.ChangeShapes Go.WideShapes Go.ChangeAt Go.Deep Go.Proofs.YtbopliahafkecaaDoor.Mem
set_option linter.unusedVariables false
set_option linter.unusedSimpArgs false

section
variable {H : Type} {enc : TypeId × Value → H} {P : Program} {w : World} {base : Nat} {spare : Nat → Bool} {held : Bool}

theorem flat_len {n : Nat} : ∀ rows : List (List Value), (∀ r ∈ rows, r.length = n) → rows.flatten.length = rows.length * n := by
  intro rows
  induction rows with
  | nil => intro _; simp
  | cons r s ih =>
    intro h
    rw [List.flatten_cons, List.length_append, ih (fun x hx => h x (by simp [hx])), h r (by simp), List.length_cons, Nat.add_mul]
    omega

theorem flat_get {n : Nat} : ∀ (rows : List (List Value)) (k j : Nat) (r : List Value), (∀ r ∈ rows, r.length = n) → rows[k]? = some r → j < n → rows.flatten[k * n + j]? = r[j]? := by
  intro rows
  induction rows with
  | nil => intro k j r _ h; simp at h
  | cons s rows ih =>
    intro k j r hl h hj
    have hs : s.length = n := hl s (by simp)
    rw [List.flatten_cons]
    cases k with
    | zero =>
      simp at h
      subst h
      rw [Nat.zero_mul, Nat.zero_add, List.getElem?_append_left (by omega)]
    | succ k =>
      rw [List.getElem?_append_right (by rw [hs, Nat.add_mul]; omega), hs, show (k + 1) * n + j - n = k * n + j by rw [Nat.add_mul]; omega]
      exact ih k j r (fun x hx => hl x (by simp [hx])) (by simpa using h) hj

/-- a slice of structs of n cells that came in -/
theorem rows {t e : TypeId} {fuel n : Nat} {cs : List Value} {x : DataW H × List MemPlace} (ht : P.underlying t = some (.slice e)) (hn : P.cellsOf e = n) (hn0 : 0 < n) (h : DataW.trod enc P w base spare held fuel t cs = some x) :
    ∃ (ao : Option Addr) (m cap : Nat) (R : List (List Value)), cs = [.slice ao m cap] ∧ m ≤ maxLen ∧ R.length = m ∧ (∀ r ∈ R, r.length = n ∧ ∃ k y, DataW.trod enc P w base spare held k e r = some y) ∧ Sn n w (.slice ao m cap) m R.flatten := by
  rcases open_slice ht h with ⟨rfl, _⟩ | ⟨a, len, cap, m, k, D, Pl, rfl, hb, hl, hm, hmm, rfl, hx⟩
  · exact ⟨none, 0, 0, [], rfl, Nat.zero_le _, rfl, fun r hr => (by cases hr), Sn.nil n w⟩
  · have hlm : len ≤ m := by rw [hmm]; split <;> omega
    rw [hn] at hx
    obtain ⟨C, hC⟩ := choose_lt (α := List Value) (p := fun i c => w.cells? base (a.add (i * n)) n = some c ∧ DataW.trod enc P w base spare held k e c = some (D i, Pl i)) (n := len) (fun i hi => hx i (by omega))
    have hlen : ∀ i, i < len → (C i).length = n := fun i hi => (World.cells?_some (hC i hi).1).2.1
    have hR : ∀ r ∈ (List.range len).map C, r.length = n := by
      intro r hr
      obtain ⟨i, hi, rfl⟩ := List.mem_map.1 hr
      exact hlen i (List.mem_range.1 hi)
    refine ⟨some a, len, cap, (List.range len).map C, rfl, Nat.le_trans hl hm, by simp, ?_, ?_⟩
    · intro r hr
      refine ⟨hR r hr, ?_⟩
      obtain ⟨i, hi, rfl⟩ := List.mem_map.1 hr
      exact ⟨k, _, (hC i (List.mem_range.1 hi)).2⟩
    · refine ⟨by rw [flat_len _ hR]; simp, some a, cap, rfl, hl, fun h => (by cases h), fun hp => ?_⟩
      obtain ⟨b, off, spot⟩ := a
      have hc0 := (World.cells?_some (hC 0 hp).1).2.2 0 hn0
      have hspot : spot = none := by
        have h1 : (C 0)[0]? = some ((C 0)[0]'(by rw [hlen 0 hp]; exact hn0)) := by simp
        rw [h1] at hc0
        simpa [Addr.add] using World.cell?_spot hc0
      subst hspot
      refine ⟨b, off, rfl, fun j hj => ?_⟩
      rw [flat_len _ hR, List.length_map, List.length_range] at hj
      have hq : j / n < len := by rw [Nat.div_lt_iff_lt_mul hn0]; exact hj
      have hj2 : j % n < n := Nat.mod_lt _ hn0
      have hjj : j / n * n + j % n = j := by rw [Nat.mul_comm]; exact Nat.div_add_mod j n
      have h2 := (World.cells?_some (hC (j / n) hq).1).2.2 (j % n) hj2
      rw [Go.WideShapes.add_plain, Go.WideShapes.add_plain, Nat.add_assoc, hjj] at h2
      rw [h2]
      have h3 := flat_get (n := n) ((List.range len).map C) (j / n) (j % n) (C (j / n)) hR (by simp [hq]) hj2
      rw [hjj] at h3
      exact h3.symm

end

end Go.Proofs.YtbopliahafkecaaDoor.Open
