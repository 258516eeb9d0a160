/- Rows of cells that hold a struct, beside slices that a call owns; no program is named here. -/
import Derived.Test.YteemblfjghnooaaRow2
import Derived.Laws.ResultCell
import Derived.Laws.CopyOwn
import Derived.BigQuiet
namespace Go.Proofs.Yteemblfjghnooaa.Mem
open Go.RowKit
set_option linter.unusedVariables false
set_option linter.unusedSimpArgs false

theorem row_at {w : World} {g : Nat} {cs : Array Value} {t : TypeId} {fr : Nat × Nat} (h : w.heap[g]? = some (.cells cs t fr)) (j : Nat) : w.cell? ⟨g, j, none⟩ = cs[j]? := by simp [World.cell?, h]
theorem row_free {w : World} {g : Nat} {cs : Array Value} {t : TypeId} (h : w.heap[g]? = some (.cells cs t (0, 0))) (j : Nat) : w.frozen? ⟨g, j, none⟩ = false := by simp [World.frozen?, h]
theorem row_set {w : World} {g : Nat} {cs : Array Value} {t : TypeId} {fr : Nat × Nat} (h : w.heap[g]? = some (.cells cs t fr)) (i : Nat) (v : Value) : (w.setCell ⟨g, i, none⟩ v).heap[g]? = some (.cells (cs.setIfInBounds i v) t fr) := by
  simp [World.setCell, Array.getElem?_modify, h]
theorem cell_row {w : World} {g : Nat} {cs : Array Value} {p : Addr} {x : Value} (hp : p.block ≠ g) (h : w.cell? p = some x) : (w.setRow g cs).cell? p = some x := by
  have e := setRow_other w g p.block cs hp
  unfold World.cell? at h ⊢
  rw [e]
  exact h
theorem keepR {W W' : World} {p : Addr} {x : Value} (h : W.cell? p = some x) (b : Below W.heap.size W W') : W'.cell? p = some x := by
  rw [b.cell (World.block_lt_of_cell? W p h)]; exact h
theorem res_row_tmp {P : Program} {fn : Func} {p u : Tmp} {ty : TypeId} (h : fn.results = #[.cell p ty, .tmp u]) (tmps : Array Value) (w : World) (g : Nat) (t : TypeId) (cs : Array Value) (fr : Nat × Nat) (d : TypeDesc)
    (hp : tmps.getD p undef = .pointer (some ⟨g, 0, none⟩)) (hg : w.heap[g]? = some (.cells cs t fr))
    (hu : P.underlying ty = some d) (hd : (match d with | .struct _ | .array _ _ => true | _ => false) = true) (hi : (P.info? ty).map (·.size) = some cs.size) :
    (results fn tmps).run P w = .ok (.tuple #[.agg cs, tmps.getD u undef]) w := by
  have hp' : tmps[p]?.getD undef = .pointer (some ⟨g, 0, none⟩) := by simpa using hp
  simp [results, h, hp', asAddr, run_loadVar_row w g t ty cs fr d hg hu hd hi]
theorem quietE {P : Program} {f : FuncId} {args : Array Value} {w : World} {n : Nat} {v : Value}
    (h : Calls P f args (w.drewN n) fun e w' => e = .returned v ∧ w.drewN n = w') : Calls P f args (w.drewN n) fun e w'' => e = .returned v ∧ ∃ m, w'' = w.drewN m :=
  h.mono fun _ _ ⟨he, hm⟩ => ⟨he, n, hm.symm⟩
/-- the beginning of what is owned is owned -/
theorem Own.front {w : World} {lo hi : Nat} {e : TypeId} {ao : Option Addr} {n cap : Nat} {cs : List Value} (h : Own w lo hi e (.slice ao n cap) cs) (k : Nat) (hk : k ≤ cs.length) (hn : ao ≠ none) : Own w lo hi e (.slice ao k cap) (cs.take k) := by
  obtain ⟨a, rfl⟩ : ∃ a, ao = some a := by
    cases ao with
    | none => exact absurd rfl hn
    | some a => exact ⟨a, rfl⟩
  obtain ⟨⟨h1, h2⟩, h3⟩ := h
  have hl : (cs.take k).length = k := by simp; omega
  refine ⟨⟨by rw [hl, Nat.mul_one], ?_⟩, fun g hg => h3 g hg⟩
  rcases h2 with ⟨he, _⟩ | ⟨g, cap', cur, he, hb, hg, hnc, hcm, hcs, ht⟩
  · simp only [Value.slice.injEq] at he; exact absurd he.1 hn
  · simp only [Value.slice.injEq, Option.some.injEq] at he
    obtain ⟨rfl, rfl, rfl⟩ := he
    refine .inr ⟨g, cap, cur, by rw [hl], hb, hg, by rw [hl]; omega, hcm, hcs, ?_⟩
    rw [hl, ← ht, List.take_take, Nat.mul_one, Nat.mul_one, Nat.min_eq_left hk]
theorem Own.setRow {w : World} {lo hi g : Nat} {e : TypeId} {v : Value} {cs : List Value} (h : Own w lo hi e v cs) (cs' : Array Value) (hg : g < lo ∨ hi ≤ g) : Own (w.setRow g cs') lo hi e v cs :=
  h.keep fun k h1 h2 => setRow_other _ _ _ _ (by omega)
theorem Own.setCell {w : World} {lo hi g i : Nat} {e : TypeId} {v : Value} {cs : List Value} (h : Own w lo hi e v cs) (u : Value) (hg : g < lo ∨ hi ≤ g) : Own (w.setCell ⟨g, i, none⟩ u) lo hi e v cs :=
  h.keep fun k h1 h2 => Below.heap_setCell _ _ _ _ (by show k ≠ g; omega)
theorem Own.one {w : World} {lo hi : Nat} {e : TypeId} {v : Value} {cs : List Value} (h : Own w lo hi e v cs) : v.oneCell' = true := by
  obtain ⟨ao, cap, rfl⟩ := h.len
  rfl
theorem Own.form {w : World} {lo hi : Nat} {e : TypeId} {v : Value} {cs : List Value} (h : Own w lo hi e v cs) : ∃ ao L cap, v = .slice ao L cap ∧ L ≤ cs.length ∧ cs.length ≤ L := by
  obtain ⟨ao, cap, rfl⟩ := h.len
  exact ⟨ao, _, cap, rfl, Nat.le_refl _, Nat.le_refl _⟩
theorem Sl.form {w : World} {v : Value} {cs : List Value} (h : Sl w v cs) : ∃ ao cap, v = .slice ao cs.length cap ∧ cs.length ≤ cap := by
  obtain ⟨ao, cap, rfl, hc, _⟩ := h
  exact ⟨ao, cap, rfl, hc⟩

end Go.Proofs.Yteemblfjghnooaa.Mem
