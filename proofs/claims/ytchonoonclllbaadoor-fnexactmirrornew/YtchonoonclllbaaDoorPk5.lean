/- Texts in one: Rec, Gro, Nth. -/
import Derived.Test.YtchonoonclllbaaDoorPk4
import Derived.Test.YtchonoonclllbaaDoorPk2
import Derived.Laws.ResultCell
import Derived.Laws.CopyOwn
import Derived.BigQuiet
namespace Go.Proofs.YtchonoonclllbaaDoor.Mem
open Go.RowKit
set_option linter.unusedVariables false
set_option linter.unusedSimpArgs false
theorem row_at {w : World} {g : Nat} {cs : Array Value} {t : TypeId} {fr : Nat × Nat} (h : w.heap[g]? = some (.cells cs t fr)) (j : Nat) : w.cell? ⟨g, j, none⟩ = cs[j]? := by simp [World.cell?, h]
theorem row_set {w : World} {g : Nat} {cs : Array Value} {t : TypeId} {fr : Nat × Nat} (h : w.heap[g]? = some (.cells cs t fr)) (i : Nat) (v : Value) : (w.setCell ⟨g, i, none⟩ v).heap[g]? = some (.cells (cs.setIfInBounds i v) t fr) := by
 simp [World.setCell, Array.getElem?_modify, h]
theorem Own.front {w : World} {lo hi : Nat} {e : TypeId} {ao : Option Addr} {n cap : Nat} {cs : List Value} (h : Own w lo hi e (.slice ao n cap) cs) (k : Nat) (hk : k ≤ cs.length) (hn : ao ≠ none) : Own w lo hi e (.slice ao k cap) (cs.take k) := by
 obtain ⟨a, rfl⟩ : ∃ a, ao = some a := by
  cases ao with
  | none => exact absurd rfl hn
  | some a => exact ⟨a, rfl⟩
 obtain ⟨⟨h1, h2⟩, h3⟩ := h
 have hl : (cs.take k).length = k := by simp; omega
 refine ⟨⟨by rw [hl, Nat.mul_one], ?_⟩, fun g hg => h3 g hg⟩
 rcases h2 with ⟨he, _⟩ | ⟨g, cap', cur, he, hb, hg, hnc, hcm, hcs, ht⟩
 ·
  simp only [Value.slice.injEq] at he; exact absurd he.1 hn
 ·
  simp only [Value.slice.injEq, Option.some.injEq] at he
  obtain ⟨rfl, rfl, rfl⟩ := he
  refine .inr ⟨g, cap, cur, by rw [hl], hb, hg, by rw [hl]; omega, hcm, hcs, ?_⟩
  rw [hl, ← ht, List.take_take, Nat.mul_one, Nat.mul_one, Nat.min_eq_left hk]
theorem Own.setRow {w : World} {lo hi g : Nat} {e : TypeId} {v : Value} {cs : List Value} (h : Own w lo hi e v cs) (cs' : Array Value) (hg : g < lo ∨ hi ≤ g) : Own (w.setRow g cs') lo hi e v cs :=
 h.keep fun k h1 h2 => setRow_other _ _ _ _ (by omega)
theorem Own.setCell {w : World} {lo hi g i : Nat} {e : TypeId} {v : Value} {cs : List Value} (h : Own w lo hi e v cs) (u : Value) (hg : g < lo ∨ hi ≤ g) : Own (w.setCell ⟨g, i, none⟩ u) lo hi e v cs :=
 h.keep fun k h1 h2 => Below.heap_setCell _ _ _ _ (by show k ≠ g; omega)
theorem Own.one {w : World} {lo hi : Nat} {e : TypeId} {v : Value} {cs : List Value} (h : Own w lo hi e v cs) : v.oneCell' = true := by
 obtain ⟨ao, cap, rfl⟩ := h.len
 rfl
theorem Own.form {w : World} {lo hi : Nat} {e : TypeId} {v : Value} {cs : List Value} (h : Own w lo hi e v cs) : ∃ ao L cap, v = .slice ao L cap ∧ L ≤ cs.length ∧ cs.length ≤ L := by
 obtain ⟨ao, cap, rfl⟩ := h.len
 exact ⟨ao, _, cap, rfl, Nat.le_refl _, Nat.le_refl _⟩
theorem Sl.form {w : World} {v : Value} {cs : List Value} (h : Sl w v cs) : ∃ ao cap, v = .slice ao cs.length cap ∧ cs.length ≤ cap := by
 obtain ⟨ao, cap, rfl, hc, _⟩ := h
 exact ⟨ao, cap, rfl, hc⟩
end Go.Proofs.YtchonoonclllbaaDoor.Mem
namespace Go.Proofs.YtchonoonclllbaaDoor.Mem
open Go.RowKit Go.Proofs.YtchonoonclllbaaDoor.Laws
set_option linter.unusedVariables false
set_option linter.unusedSimpArgs false
theorem Own.gro {w w' : World} {lo hi : Nat} {e : TypeId} {v : Value} {cs : List Value} {r : Option Nat} (h : Own w lo hi e v cs) (g : w.grownBy w' r) (hne : ∀ k, v.ownBlock = some k → r ≠ some k) : Own w' lo hi e v cs := by
 obtain ⟨⟨h1, h2⟩, h3⟩ := h
 refine ⟨⟨h1, ?_⟩, h3⟩
 rcases h2 with h2 | ⟨b, cap, cur, rfl, hb, hg, q⟩
 ·
  exact .inl h2
 ·
  exact .inr ⟨b, cap, cur, rfl, hb, by rw [g.block b (Array.getElem?_eq_some_iff.1 hg).1 (fun e => hne b rfl e.symm)]; exact hg, q⟩
theorem rowGro {w w' : World} {k : Nat} {o : Obj} {r : Option Nat} (h : w.heap[k]? = some o) (g : w.grownBy w' r) (hne : r ≠ some k) : w'.heap[k]? = some o := by
 rw [g.block k (Array.getElem?_eq_some_iff.1 h).1 (fun e => hne e.symm)]
 exact h
theorem Own.neRow {w : World} {lo hi g : Nat} {e t : TypeId} {v : Value} {cs : List Value} {cs' : Array Value} {fr : Nat × Nat} (h : Own w lo hi e v cs) (hr : w.heap[g]? = some (.cells cs' t fr)) (ht : t ≠ e) : v.ownBlock ≠ some g := by
 intro hv
 obtain ⟨⟨h1, h2⟩, h3⟩ := h
 rcases h2 with ⟨rfl, _⟩ | ⟨g', cap, cur, rfl, hb, hg, r⟩
 ·
  simp [Value.ownBlock] at hv
 ·
  simp [Value.ownBlock] at hv
  subst hv
  rw [hg] at hr
  simp at hr
  exact ht hr.2.1.symm
theorem Own.neOwn {w : World} {lo hi lo' hi' : Nat} {e e' : TypeId} {v v' : Value} {cs cs' : List Value} (h : Own w lo hi e v cs) (h' : Own w lo' hi' e' v' cs') (he : e' ≠ e) : ∀ k, v'.ownBlock = some k → v.ownBlock ≠ some k := by
 intro k hk
 obtain ⟨⟨h1, h2⟩, h3⟩ := h'
 rcases h2 with ⟨rfl, _⟩ | ⟨g, cap, cur, rfl, hb, hg, r⟩
 ·
  simp [Value.ownBlock] at hk
 ·
  simp [Value.ownBlock] at hk
  subst hk
  exact Own.neRow h hg he
end Go.Proofs.YtchonoonclllbaaDoor.Mem
namespace Go.Proofs.YtchonoonclllbaaDoor.Mem
open Go.RowKit
set_option linter.unusedVariables false
set_option linter.unusedSimpArgs false
theorem alloc_nth1_0 (w : World) (O0 : Obj) : (w.alloc O0).heap[w.heap.size]? = some O0 := by
 exact heap_alloc_new w O0
theorem alloc_nth2_0 (w : World) (O0 O1 : Obj) : ((w.alloc O0).alloc O1).heap[w.heap.size]? = some O0 := by
 rw [heap_alloc_old _ _ (by simp; try omega)]
 exact alloc_nth1_0 w O0
theorem alloc_nth2_1 (w : World) (O0 O1 : Obj) : ((w.alloc O0).alloc O1).heap[w.heap.size + 1]? = some O1 := by
 have h := heap_alloc_new (w.alloc O0) O1
 simpa using h
end Go.Proofs.YtchonoonclllbaaDoor.Mem
