/- Appends to what a call owns: only that row turns; what lies elsewhere stays, whatever its place. -/
import Derived.Test.YteemblfjghnooaaLaws
import Derived.Test.YteemblfjghnooaaRec
namespace Go.Proofs.Yteemblfjghnooaa.Mem
open Go.RowKit Go.Proofs.Yteemblfjghnooaa.Laws
set_option linter.unusedVariables false
set_option linter.unusedSimpArgs false

theorem Own.gro {w w' : World} {lo hi : Nat} {e : TypeId} {v : Value} {cs : List Value} {r : Option Nat} (h : Own w lo hi e v cs) (g : w.grownBy w' r) (hne : ∀ k, v.ownBlock = some k → r ≠ some k) : Own w' lo hi e v cs := by
  obtain ⟨⟨h1, h2⟩, h3⟩ := h
  refine ⟨⟨h1, ?_⟩, h3⟩
  rcases h2 with h2 | ⟨b, cap, cur, rfl, hb, hg, q⟩
  · exact .inl h2
  · exact .inr ⟨b, cap, cur, rfl, hb, by rw [g.block b (Array.getElem?_eq_some_iff.1 hg).1 (fun e => hne b rfl e.symm)]; exact hg, q⟩
theorem rowGro {w w' : World} {k : Nat} {o : Obj} {r : Option Nat} (h : w.heap[k]? = some o) (g : w.grownBy w' r) (hne : r ≠ some k) : w'.heap[k]? = some o := by
  rw [g.block k (Array.getElem?_eq_some_iff.1 h).1 (fun e => hne e.symm)]
  exact h
theorem cellGro {w w' : World} {p : Addr} {x : Value} {r : Option Nat} (h : w.cell? p = some x) (g : w.grownBy w' r) (hne : r ≠ some p.block) : w'.cell? p = some x := g.cell h (fun e => hne e.symm)
theorem belowGro {w0 w w' : World} {n : Nat} {r : Option Nat} (h : Below n w0 w) (g : w.grownBy w' r) (hn : n ≤ w.heap.size) (hr : ∀ k, r = some k → n ≤ k) : Below n w0 w' := h.grown g hn hr
/-- a row of another type is not what is owned -/
theorem Own.neRow {w : World} {lo hi g : Nat} {e t : TypeId} {v : Value} {cs : List Value} {cs' : Array Value} {fr : Nat × Nat} (h : Own w lo hi e v cs) (hr : w.heap[g]? = some (.cells cs' t fr)) (ht : t ≠ e) : v.ownBlock ≠ some g := by
  intro hv
  obtain ⟨⟨h1, h2⟩, h3⟩ := h
  rcases h2 with ⟨rfl, _⟩ | ⟨g', cap, cur, rfl, hb, hg, r⟩
  · simp [Value.ownBlock] at hv
  · simp [Value.ownBlock] at hv
    subst hv
    rw [hg] at hr
    simp at hr
    exact ht hr.2.1.symm
/-- two that are owned, of unlike types, lie apart -/
theorem Own.neOwn {w : World} {lo hi lo' hi' : Nat} {e e' : TypeId} {v v' : Value} {cs cs' : List Value} (h : Own w lo hi e v cs) (h' : Own w lo' hi' e' v' cs') (he : e' ≠ e) : ∀ k, v'.ownBlock = some k → v.ownBlock ≠ some k := by
  intro k hk
  obtain ⟨⟨h1, h2⟩, h3⟩ := h'
  rcases h2 with ⟨rfl, _⟩ | ⟨g, cap, cur, rfl, hb, hg, r⟩
  · simp [Value.ownBlock] at hk
  · simp [Value.ownBlock] at hk
    subst hk
    exact Own.neRow h hg he
/-- two that are owned in ranges apart -/
theorem Own.neFar {w : World} {lo hi lo' hi' : Nat} {e e' : TypeId} {v v' : Value} {cs cs' : List Value} (h : Own w lo hi e v cs) (h' : Own w lo' hi' e' v' cs') (hd : hi ≤ lo' ∨ hi' ≤ lo) : ∀ k, v'.ownBlock = some k → v.ownBlock ≠ some k := by
  intro k hk hv
  have a1 := h.2 k hv
  have a2 := (h.1.lt k hv).1
  have a3 := h'.2 k hk
  have a4 := (h'.1.lt k hk).1
  omega
theorem Own.low {w : World} {lo hi : Nat} {e : TypeId} {v : Value} {cs : List Value} (h : Own w lo hi e v cs) {n : Nat} (hn : n ≤ lo) : ∀ k, v.ownBlock = some k → n ≤ k := fun k hk => Nat.le_trans hn (h.1.lt k hk).1
theorem Own.neLow {w : World} {lo hi g : Nat} {e : TypeId} {v : Value} {cs : List Value} (h : Own w lo hi e v cs) (hg : g < lo ∨ hi ≤ g) : v.ownBlock ≠ some g := by
  intro hv
  have a1 := h.2 g hv
  have a2 := (h.1.lt g hv).1
  omega
/-- an append as one step of a region that draws its order: only the row turns -/
theorem step_appG {P : Program} {ops : Array Oper} {o : Oper} {a : Act} {w : World} {K : Act → World → Prop} {Q : Exit → Act → World → Prop} {E : Prop}
    (hw : Region.wanted o (yielded ops a.tmps) = true) (s x : Operand) (t : TypeId) (hop : o.op = Op.call { callee := Callee.builtin Builtin.append, args := #[s, x], argTypes := #[t, t] })
    (e : TypeId) (i : TypeInfo) (z : Value) (bytes : Nat) (ht : P.underlying t = some (.slice e)) (hi : P.info? e = some i) (hz : i.zero = some z) (hsize : i.size = 1) (hby : i.bytes = bytes) (hzs : z.cells.size = 1)
    (lo : Nat) (v : Value) (cs : List Value) (hs : a.eval s = v) (hown : Own w lo w.heap.size e v cs) (y : Value) (hx : a.eval x = y) (news : List Value) (hsl : Sl w y news)
    (h1 : ∀ u ∈ news, u.oneCell' = true) (h63 : cs.length + news.length ≤ maxLen) (hb : (cs.length + news.length) * bytes ≤ 140737488355328) (hlo : lo ≤ w.heap.size)
    (hK : ∀ v' w', Own w' lo w'.heap.size e v' (cs ++ news) → w.grownBy w' v.ownBlock → K (a.put o.dst v') w') : if Region.wanted o (yielded ops a.tmps) = true then Oper.wp P o a w K Q else E := by
  rw [if_pos hw]
  obtain ⟨ao, cap, rfl, hc, hn, hr⟩ := hsl
  cases ao with
  | none =>
    have hcap := hn rfl
    have hnil : news = [] := List.eq_nil_of_length_eq_zero (by omega)
    subst hnil
    subst hcap
    have hrun := run_append_owned_none (P := P) (w := w) lo t o.type e i 1 ht hi v cs.length cs hown.1
    unfold Oper.wp
    simp [execOp, hop, resolve, invoke, builtin, hs, hx, hrun, Result.andThen]
    exact hK v w (by simpa using hown) (World.grownBy.refl _ _)
  | some ad =>
    refine wp_append_own w s x t hop lo e i z 1 bytes ht hi hz hsize hby hzs (by decide) v cs.length cs hs hown.1 ad news.length cap news hx (by simp) ?_ h1 h63 hb hlo ?_
    · intro j u hj
      have hlt : j < news.length := (List.getElem?_eq_some_iff.1 hj).1
      obtain ⟨b, off, he, hcell⟩ := hr (by omega)
      obtain rfl := Option.some.inj he
      rw [Addr.add_lit, hcell j hlt, hj]
    · intro v' w' ho hgr _
      exact hK v' w' (Own.of ho) hgr
theorem wpl_strG {P : Program} (w : World) {ops : Array Oper} {rest : List Oper} {o : Oper} {a : Act} {Q : Exit → Act → World → Prop}
    (hg : o.guard = none) (s x : Operand) (t u : TypeId) (hop : o.op = Op.call { callee := Callee.builtin Builtin.append, args := #[s, x], argTypes := #[t, u] })
    (e : TypeId) (i : TypeInfo) (ht : P.underlying t = some (.slice e)) (hu : P.underlying u = some .string) (hi : P.info? e = some i) (hz : i.zero = some (.int .u8 0)) (hsize : i.size = 1) (hby : i.bytes = 1)
    (lo : Nat) (v : Value) (xs : List Int) (hs : a.eval s = v) (hown : Own w lo w.heap.size e v (bs xs)) (y : ByteArray) (hx : a.eval x = .string y)
    (hb : xs.length + y.size ≤ 140737488355328) (hlo : lo ≤ w.heap.size)
    (hK : ∀ v' w', Own w' lo w'.heap.size e v' (bs (xs ++ sb y)) → w.grownBy w' v.ownBlock → wpList P ops Q rest (a.put o.dst v') w') : wpList P ops Q (o :: rest) a w := by
  refine Lib.wpList_append_own_string w hg s x t u hop lo e i ht hu hi hz hsize hby v (bs xs).length (bs xs) hs hown.1 y hx (by rw [bs_len]; unfold maxLen; omega) (by rw [bs_len]; omega) hlo ?_
  intro v' w' ho hgr _
  rw [sb_cells, ← bs_app] at ho
  exact hK v' w' (Own.of ho) hgr

end Go.Proofs.Yteemblfjghnooaa.Mem
