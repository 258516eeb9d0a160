/- Texts in one: Nth, LgD, Gro, Gro2, Crs, SrL, Gets, Plain3, Can. -/
import Derived.Test.YtfpaichdkddglaaDoorPk5
import Derived.Test.YtfpaichdkddglaaDoorPk10
import Derived.Test.YtfpaichdkddglaaDoorPk2
import Derived.Test.YtfpaichdkddglaaDoorPk4
import Derived.Test.YtfpaichdkddglaaDoorPk3
import Derived.Test.YtfpaichdkddglaaDoorPk7
import Derived.Deep.MidRow
/- Blocks that were made one behind the other; no program is named here. -/
namespace Go.Proofs.YtfpaichdkddglaaDoor.Mem
open Go.RowKit
set_option linter.unusedVariables false
set_option linter.unusedSimpArgs false

theorem alloc_nth1_0 (w : World) (O0 : Obj) : (w.alloc O0).heap[w.heap.size]? = some O0 := by
  exact heap_alloc_new w O0
theorem alloc_nth2_0 (w : World) (O0 O1 : Obj) : ((w.alloc O0).alloc O1).heap[w.heap.size]? = some O0 := by
  rw [heap_alloc_old _ _ (by simp; try omega)]
  exact alloc_nth1_0 w O0
theorem alloc_nth2_1 (w : World) (O0 O1 : Obj) : ((w.alloc O0).alloc O1).heap[w.heap.size + 1]? = some O1 := by
  have h := heap_alloc_new (w.alloc O0) O1
  simpa using h
theorem alloc_nth3_0 (w : World) (O0 O1 O2 : Obj) : (((w.alloc O0).alloc O1).alloc O2).heap[w.heap.size]? = some O0 := by
  rw [heap_alloc_old _ _ (by simp; try omega)]
  exact alloc_nth2_0 w O0 O1
theorem alloc_nth3_1 (w : World) (O0 O1 O2 : Obj) : (((w.alloc O0).alloc O1).alloc O2).heap[w.heap.size + 1]? = some O1 := by
  rw [heap_alloc_old _ _ (by simp; try omega)]
  exact alloc_nth2_1 w O0 O1
theorem alloc_nth3_2 (w : World) (O0 O1 O2 : Obj) : (((w.alloc O0).alloc O1).alloc O2).heap[w.heap.size + 1 + 1]? = some O2 := by
  have h := heap_alloc_new ((w.alloc O0).alloc O1) O2
  simpa using h
theorem alloc_nth4_0 (w : World) (O0 O1 O2 O3 : Obj) : ((((w.alloc O0).alloc O1).alloc O2).alloc O3).heap[w.heap.size]? = some O0 := by
  rw [heap_alloc_old _ _ (by simp; try omega)]
  exact alloc_nth3_0 w O0 O1 O2
theorem alloc_nth4_1 (w : World) (O0 O1 O2 O3 : Obj) : ((((w.alloc O0).alloc O1).alloc O2).alloc O3).heap[w.heap.size + 1]? = some O1 := by
  rw [heap_alloc_old _ _ (by simp; try omega)]
  exact alloc_nth3_1 w O0 O1 O2
theorem alloc_nth4_2 (w : World) (O0 O1 O2 O3 : Obj) : ((((w.alloc O0).alloc O1).alloc O2).alloc O3).heap[w.heap.size + 1 + 1]? = some O2 := by
  rw [heap_alloc_old _ _ (by simp; try omega)]
  exact alloc_nth3_2 w O0 O1 O2
theorem alloc_nth4_3 (w : World) (O0 O1 O2 O3 : Obj) : ((((w.alloc O0).alloc O1).alloc O2).alloc O3).heap[w.heap.size + 1 + 1 + 1]? = some O3 := by
  have h := heap_alloc_new (((w.alloc O0).alloc O1).alloc O2) O3
  simpa using h
theorem alloc_nth5_0 (w : World) (O0 O1 O2 O3 O4 : Obj) : (((((w.alloc O0).alloc O1).alloc O2).alloc O3).alloc O4).heap[w.heap.size]? = some O0 := by
  rw [heap_alloc_old _ _ (by simp; try omega)]
  exact alloc_nth4_0 w O0 O1 O2 O3
theorem alloc_nth5_1 (w : World) (O0 O1 O2 O3 O4 : Obj) : (((((w.alloc O0).alloc O1).alloc O2).alloc O3).alloc O4).heap[w.heap.size + 1]? = some O1 := by
  rw [heap_alloc_old _ _ (by simp; try omega)]
  exact alloc_nth4_1 w O0 O1 O2 O3
theorem alloc_nth5_2 (w : World) (O0 O1 O2 O3 O4 : Obj) : (((((w.alloc O0).alloc O1).alloc O2).alloc O3).alloc O4).heap[w.heap.size + 1 + 1]? = some O2 := by
  rw [heap_alloc_old _ _ (by simp; try omega)]
  exact alloc_nth4_2 w O0 O1 O2 O3
theorem alloc_nth5_3 (w : World) (O0 O1 O2 O3 O4 : Obj) : (((((w.alloc O0).alloc O1).alloc O2).alloc O3).alloc O4).heap[w.heap.size + 1 + 1 + 1]? = some O3 := by
  rw [heap_alloc_old _ _ (by simp; try omega)]
  exact alloc_nth4_3 w O0 O1 O2 O3
theorem alloc_nth5_4 (w : World) (O0 O1 O2 O3 O4 : Obj) : (((((w.alloc O0).alloc O1).alloc O2).alloc O3).alloc O4).heap[w.heap.size + 1 + 1 + 1 + 1]? = some O4 := by
  have h := heap_alloc_new ((((w.alloc O0).alloc O1).alloc O2).alloc O3) O4
  simpa using h

end Go.Proofs.YtfpaichdkddglaaDoor.Mem

/- Chapter 11, the specification's draws: logs that may be wrong. -/
namespace Go.Proofs.YtfpaichdkddglaaDoor.Lg
open Go.RowKit Go.Proofs.YtfpaichdkddglaaDoor.Mem Go.Proofs.YtfpaichdkddglaaDoor.Laws Go.Proofs.YtfpaichdkddglaaDoor.Bytes Go.Proofs.YtfpaichdkddglaaDoor.Sha Go.Proofs.YtfpaichdkddglaaDoor.Tr Go.Proofs.YtfpaichdkddglaaDoor.Draw Go.Proofs.YtfpaichdkddglaaDoor.He
set_option linter.unusedVariables false
set_option linter.unusedSimpArgs false

theorem keep1 {w w' : World} {lo hi : Nat} {e : TypeId} {v : Value} {cs : List Value} (h : Own w lo hi e v cs) (hk : ∀ g, v.ownBlock = some g → w'.heap[g]? = w.heap[g]?) : Own w' lo hi e v cs := by
  obtain ⟨⟨h1, h2⟩, h3⟩ := h
  refine ⟨⟨h1, ?_⟩, h3⟩
  rcases h2 with h2 | ⟨g, cap, cur, rfl, hb, hg, r⟩
  · exact .inl h2
  · exact .inr ⟨g, cap, cur, rfl, hb, by rw [hk g rfl]; exact hg, r⟩
/-- a row of another type is not what is owned -/
theorem ne_row {w : World} {lo hi g : Nat} {e t : TypeId} {v : Value} {cs : List Value} {cs' : Array Value} {fr : Nat × Nat} (h : Own w lo hi e v cs) (hr : w.heap[g]? = some (.cells cs' t fr)) (ht : t ≠ e) : v.ownBlock ≠ some g := by
  intro hv
  obtain ⟨⟨h1, h2⟩, h3⟩ := h
  rcases h2 with ⟨rfl, _⟩ | ⟨g', cap, cur, rfl, hb, hg, r⟩
  · simp [Value.ownBlock] at hv
  · simp [Value.ownBlock] at hv
    subst hv
    rw [hg] at hr
    simp at hr
    exact ht hr.2.1.symm

theorem drawn_row {W0 w w' : World} {g k : Nat} {vb : Value} {xs : List Int} {o : Obj} (h : w.heap[k]? = some o) (d : Drawn W0 w g vb xs w') (hk : k ≠ g) : w'.heap[k]? = some o :=
  (d.apart.block k (Array.getElem?_eq_some_iff.1 h).1 (by omega)).trans h

end Go.Proofs.YtfpaichdkddglaaDoor.Lg

/- Appends to what a call owns: only that row turns; what lies elsewhere stays, whatever its place. -/
namespace Go.Proofs.YtfpaichdkddglaaDoor.Mem
open Go.RowKit Go.Proofs.YtfpaichdkddglaaDoor.Laws
set_option linter.unusedVariables false
set_option linter.unusedSimpArgs false

theorem Own.gro {w w' : World} {lo hi : Nat} {e : TypeId} {v : Value} {cs : List Value} {r : Option Nat} (h : Own w lo hi e v cs) (g : w.grownBy w' r) (hne : ∀ k, v.ownBlock = some k → r ≠ some k) : Own w' lo hi e v cs := by
  obtain ⟨⟨h1, h2⟩, h3⟩ := h
  refine ⟨⟨h1, ?_⟩, h3⟩
  rcases h2 with h2 | ⟨b, cap, cur, rfl, hb, hg, q⟩
  · exact .inl h2
  · exact .inr ⟨b, cap, cur, rfl, hb, by rw [g.block b (Array.getElem?_eq_some_iff.1 hg).1 (fun e => hne b rfl e.symm)]; exact hg, q⟩
theorem rowGro {w w' : World} {k : Nat} {o : Obj} {r : Option Nat} (h : w.heap[k]? = some o) (g : w.grownBy w' r) (hne : r ≠ some k) : w'.heap[k]? = some o := by
  rw [g.block k (Array.getElem?_eq_some_iff.1 h).1 (fun e => hne e.symm)]
  exact h
theorem cellGro {w w' : World} {p : Addr} {x : Value} {r : Option Nat} (h : w.cell? p = some x) (g : w.grownBy w' r) (hne : r ≠ some p.block) : w'.cell? p = some x := g.cell h (fun e => hne e.symm)
theorem belowGro {w0 w w' : World} {n : Nat} {r : Option Nat} (h : Below n w0 w) (g : w.grownBy w' r) (hn : n ≤ w.heap.size) (hr : ∀ k, r = some k → n ≤ k) : Below n w0 w' := h.grown g hn hr
/-- a row of another type is not what is owned -/
theorem Own.neRow {w : World} {lo hi g : Nat} {e t : TypeId} {v : Value} {cs : List Value} {cs' : Array Value} {fr : Nat × Nat} (h : Own w lo hi e v cs) (hr : w.heap[g]? = some (.cells cs' t fr)) (ht : t ≠ e) : v.ownBlock ≠ some g := by
  intro hv
  obtain ⟨⟨h1, h2⟩, h3⟩ := h
  rcases h2 with ⟨rfl, _⟩ | ⟨g', cap, cur, rfl, hb, hg, r⟩
  · simp [Value.ownBlock] at hv
  · simp [Value.ownBlock] at hv
    subst hv
    rw [hg] at hr
    simp at hr
    exact ht hr.2.1.symm
/-- two that are owned, of unlike types, lie apart -/
theorem Own.neOwn {w : World} {lo hi lo' hi' : Nat} {e e' : TypeId} {v v' : Value} {cs cs' : List Value} (h : Own w lo hi e v cs) (h' : Own w lo' hi' e' v' cs') (he : e' ≠ e) : ∀ k, v'.ownBlock = some k → v.ownBlock ≠ some k := by
  intro k hk
  obtain ⟨⟨h1, h2⟩, h3⟩ := h'
  rcases h2 with ⟨rfl, _⟩ | ⟨g, cap, cur, rfl, hb, hg, r⟩
  · simp [Value.ownBlock] at hk
  · simp [Value.ownBlock] at hk
    subst hk
    exact Own.neRow h hg he
/-- two that are owned in ranges apart -/
theorem Own.neFar {w : World} {lo hi lo' hi' : Nat} {e e' : TypeId} {v v' : Value} {cs cs' : List Value} (h : Own w lo hi e v cs) (h' : Own w lo' hi' e' v' cs') (hd : hi ≤ lo' ∨ hi' ≤ lo) : ∀ k, v'.ownBlock = some k → v.ownBlock ≠ some k := by
  intro k hk hv
  have a1 := h.2 k hv
  have a2 := (h.1.lt k hv).1
  have a3 := h'.2 k hk
  have a4 := (h'.1.lt k hk).1
  omega
theorem Own.low {w : World} {lo hi : Nat} {e : TypeId} {v : Value} {cs : List Value} (h : Own w lo hi e v cs) {n : Nat} (hn : n ≤ lo) : ∀ k, v.ownBlock = some k → n ≤ k := fun k hk => Nat.le_trans hn (h.1.lt k hk).1
theorem Own.neLow {w : World} {lo hi g : Nat} {e : TypeId} {v : Value} {cs : List Value} (h : Own w lo hi e v cs) (hg : g < lo ∨ hi ≤ g) : v.ownBlock ≠ some g := by
  intro hv
  have a1 := h.2 g hv
  have a2 := (h.1.lt g hv).1
  omega
/-- an append as one step of a region that draws its order: only the row turns -/
theorem step_appG {P : Program} {ops : Array Oper} {o : Oper} {a : Act} {w : World} {K : Act → World → Prop} {Q : Exit → Act → World → Prop} {E : Prop}
    (hw : Region.wanted o (yielded ops a.tmps) = true) (s x : Operand) (t : TypeId) (hop : o.op = Op.call { callee := Callee.builtin Builtin.append, args := #[s, x], argTypes := #[t, t] })
    (e : TypeId) (i : TypeInfo) (z : Value) (bytes : Nat) (ht : P.underlying t = some (.slice e)) (hi : P.info? e = some i) (hz : i.zero = some z) (hsize : i.size = 1) (hby : i.bytes = bytes) (hzs : z.cells.size = 1)
    (lo : Nat) (v : Value) (cs : List Value) (hs : a.eval s = v) (hown : Own w lo w.heap.size e v cs) (y : Value) (hx : a.eval x = y) (news : List Value) (hsl : Sl w y news)
    (h1 : ∀ u ∈ news, u.oneCell' = true) (h63 : cs.length + news.length ≤ maxLen) (hb : (cs.length + news.length) * bytes ≤ 140737488355328) (hlo : lo ≤ w.heap.size)
    (hK : ∀ v' w', Own w' lo w'.heap.size e v' (cs ++ news) → w.grownBy w' v.ownBlock → K (a.put o.dst v') w') : if Region.wanted o (yielded ops a.tmps) = true then Oper.wp P o a w K Q else E := by
  rw [if_pos hw]
  obtain ⟨ao, cap, rfl, hc, hn, hr⟩ := hsl
  cases ao with
  | none =>
    have hcap := hn rfl
    have hnil : news = [] := List.eq_nil_of_length_eq_zero (by omega)
    subst hnil
    subst hcap
    have hrun := run_append_owned_none (P := P) (w := w) lo t o.type e i 1 ht hi v cs.length cs hown.1
    unfold Oper.wp
    simp [execOp, hop, resolve, invoke, builtin, hs, hx, hrun, Result.andThen]
    exact hK v w (by simpa using hown) (World.grownBy.refl _ _)
  | some ad =>
    refine wp_append_own w s x t hop lo e i z 1 bytes ht hi hz hsize hby hzs (by decide) v cs.length cs hs hown.1 ad news.length cap news hx (by simp) ?_ h1 h63 hb hlo ?_
    · intro j u hj
      have hlt : j < news.length := (List.getElem?_eq_some_iff.1 hj).1
      obtain ⟨b, off, he, hcell⟩ := hr (by omega)
      obtain rfl := Option.some.inj he
      rw [Addr.add_lit, hcell j hlt, hj]
    · intro v' w' ho hgr _
      exact hK v' w' (Own.of ho) hgr
theorem wpl_strG {P : Program} (w : World) {ops : Array Oper} {rest : List Oper} {o : Oper} {a : Act} {Q : Exit → Act → World → Prop}
    (hg : o.guard = none) (s x : Operand) (t u : TypeId) (hop : o.op = Op.call { callee := Callee.builtin Builtin.append, args := #[s, x], argTypes := #[t, u] })
    (e : TypeId) (i : TypeInfo) (ht : P.underlying t = some (.slice e)) (hu : P.underlying u = some .string) (hi : P.info? e = some i) (hz : i.zero = some (.int .u8 0)) (hsize : i.size = 1) (hby : i.bytes = 1)
    (lo : Nat) (v : Value) (xs : List Int) (hs : a.eval s = v) (hown : Own w lo w.heap.size e v (bs xs)) (y : ByteArray) (hx : a.eval x = .string y)
    (hb : xs.length + y.size ≤ 140737488355328) (hlo : lo ≤ w.heap.size)
    (hK : ∀ v' w', Own w' lo w'.heap.size e v' (bs (xs ++ sb y)) → w.grownBy w' v.ownBlock → wpList P ops Q rest (a.put o.dst v') w') : wpList P ops Q (o :: rest) a w := by
  refine Lib.wpList_append_own_string w hg s x t u hop lo e i ht hu hi hz hsize hby v (bs xs).length (bs xs) hs hown.1 y hx (by rw [bs_len]; unfold maxLen; omega) (by rw [bs_len]; omega) hlo ?_
  intro v' w' ho hgr _
  rw [sb_cells, ← bs_app] at ho
  exact hK v' w' (Own.of ho) hgr

end Go.Proofs.YtfpaichdkddglaaDoor.Mem

/- Stores into a part of a row: the row has the new cells then, all else stays. -/
namespace Go.Proofs.YtfpaichdkddglaaDoor.Mem
open Go.RowKit Go.Proofs.YtfpaichdkddglaaDoor.Laws
set_option linter.unusedVariables false
set_option linter.unusedSimpArgs false

theorem gro_setCells (w : World) (g o : Nat) (vs : List Value) : w.grownBy (w.setCells g o vs) (some g) := by
  have h : ∀ (vs : List Value) (o : Nat) (w : World), (w.setCells g o vs).os = w.os ∧ (w.setCells g o vs).tape = w.tape ∧ (w.setCells g o vs).output = w.output := by
    intro vs
    induction vs with
    | nil => intro o w; exact ⟨rfl, rfl, rfl⟩
    | cons v r ih => intro o w; rw [World.setCells]; exact ih (o + 1) _
  obtain ⟨h1, h2, h3⟩ := h vs o w
  exact ⟨h1, h2, h3, by rw [size_setCells]; exact Nat.le_refl _, fun k _ hk => heap_setCells_other g k (fun e => hk (by rw [e])) vs o w⟩
theorem gro_setRow (w : World) (g : Nat) (cs : Array Value) : w.grownBy (w.setRow g cs) (some g) :=
  ⟨rfl, rfl, rfl, by rw [size_setRow]; exact Nat.le_refl _, fun k _ hk => setRow_other _ _ _ _ (fun e => hk (by rw [e]))⟩
theorem size_same {w w' : World} (h : w.grownBy w' none) : w.heap.size ≤ w'.heap.size := h.size
/-- several cells of a row are stored: the row has them then, all else stays -/
theorem wp_partG {P : Program} {op : Oper} {a : Act} {w : World} {K : Act → World → Prop} {Q : Exit → Act → World → Prop} (ty : TypeId) (x y : Operand) (ho : op.op = .store ty x y)
    (b o : Nat) (cells : Array Value) (hx : a.eval x = .pointer (some ⟨b, o, none⟩)) (hy : a.eval y = .agg cells) (cur : List Value) (t : TypeId) (hr : w.heap[b]? = some (.cells cur.toArray t (0, 0)))
    (hn : o + cells.size ≤ cur.length) (hi : (P.info? ty).map (·.size) = some cells.size) (h1 : cells.all (·.oneCell') = true) (new : List Value) (hnew : putL cur o cells.toList = new)
    (h : ∀ w', w'.heap[b]? = some (.cells new.toArray t (0, 0)) → w.grownBy w' (some b) → K (a.put op.dst undef) w') : op.wp P a w K Q := by
  refine wp_store_mid ty x y ho b o cells hx hy (there_row hr (by simpa using hn)) hi h1 (h _ ?_ (gro_setCells _ _ _ _))
  rw [← hnew]
  exact heap_setCells b cells.toList o w cur t hr
theorem wpl_partG {P : Program} {ops : Array Oper} {rest : List Oper} {op : Oper} {a : Act} {w : World} {Q : Exit → Act → World → Prop} (hgd : op.guard = none) (ty : TypeId) (x y : Operand) (ho : op.op = .store ty x y)
    (b o : Nat) (cells : Array Value) (hx : a.eval x = .pointer (some ⟨b, o, none⟩)) (hy : a.eval y = .agg cells) (cur : List Value) (t : TypeId) (hr : w.heap[b]? = some (.cells cur.toArray t (0, 0)))
    (hn : o + cells.size ≤ cur.length) (hi : (P.info? ty).map (·.size) = some cells.size) (h1 : cells.all (·.oneCell') = true) (new : List Value) (hnew : putL cur o cells.toList = new)
    (h : ∀ w', w'.heap[b]? = some (.cells new.toArray t (0, 0)) → w.grownBy w' (some b) → wpList P ops Q rest (a.put op.dst undef) w') : wpList P ops Q (op :: rest) a w :=
  wpList_plain hgd fun _ hK => wp_partG ty x y ho b o cells hx hy cur t hr hn hi h1 new hnew (fun w' r g => hK _ _ (h w' r g))
/-- one cell of a row is stored -/
theorem wp_oneG {P : Program} {op : Oper} {a : Act} {w : World} {K : Act → World → Prop} {Q : Exit → Act → World → Prop} (ty : TypeId) (x y : Operand) (ho : op.op = .store ty x y)
    (b o : Nat) (v : Value) (hx : a.eval x = .pointer (some ⟨b, o, none⟩)) (hy : a.eval y = v) (cur : List Value) (t : TypeId) (hr : w.heap[b]? = some (.cells cur.toArray t (0, 0)))
    (hn : o + 1 ≤ cur.length) (hi : (P.info? ty).map (·.size) = some 1) (h1 : v.oneCell' = true) (new : List Value) (hnew : putL cur o [v] = new)
    (h : ∀ w', w'.heap[b]? = some (.cells new.toArray t (0, 0)) → w.grownBy w' (some b) → K (a.put op.dst undef) w') : op.wp P a w K Q := by
  have ht := there_row (n := 1) hr (by simpa using hn)
  have hc : v.cells = #[v] := by cases v <;> first | rfl | cases h1
  have hrun : (storeVar ty ⟨b, o, none⟩ v).run P w = .ok () (w.setCells b o [v]) := by
    have := run_storeCells_cells (P := P) b o [v] 0 w (fun j hj => by simpa using (ht j (by simpa using hj)).1) (fun j hj => by simpa using (ht j (by simpa using hj)).2) (fun u hu => by simp at hu; subst hu; exact h1)
    cases hq : P.info? ty with
    | none => simp [hq] at hi
    | some i =>
      have hs : i.size = 1 := by simpa [hq] using hi
      simp only [Nat.add_zero] at this
      simp [storeVar, sizeOf, typeInfo, hq, hc, hs, this]
  have hK := h (w.setCells b o [v]) (by rw [← hnew]; exact heap_setCells b [v] o w cur t hr) (gro_setCells _ _ _ _)
  unfold Oper.wp execOp
  simp only [ho, hx, hy, Instr.storeAt, Instr.sureAddr, Sem.run_bind, Sem.run_pure, Result.andThen_ok, hrun]
  exact hK
theorem wpl_oneG {P : Program} {ops : Array Oper} {rest : List Oper} {op : Oper} {a : Act} {w : World} {Q : Exit → Act → World → Prop} (hgd : op.guard = none) (ty : TypeId) (x y : Operand) (ho : op.op = .store ty x y)
    (b o : Nat) (v : Value) (hx : a.eval x = .pointer (some ⟨b, o, none⟩)) (hy : a.eval y = v) (cur : List Value) (t : TypeId) (hr : w.heap[b]? = some (.cells cur.toArray t (0, 0)))
    (hn : o + 1 ≤ cur.length) (hi : (P.info? ty).map (·.size) = some 1) (h1 : v.oneCell' = true) (new : List Value) (hnew : putL cur o [v] = new)
    (h : ∀ w', w'.heap[b]? = some (.cells new.toArray t (0, 0)) → w.grownBy w' (some b) → wpList P ops Q rest (a.put op.dst undef) w') : wpList P ops Q (op :: rest) a w :=
  wpList_plain hgd fun _ hK => wp_oneG ty x y ho b o v hx hy cur t hr hn hi h1 new hnew (fun w' r g => hK _ _ (h w' r g))

end Go.Proofs.YtfpaichdkddglaaDoor.Mem

/- A cursor of draws behind other steps; numbers that the laws take of a code. -/
namespace Go.Proofs.YtfpaichdkddglaaDoor.Draw
open Go.RowKit Go.Proofs.YtfpaichdkddglaaDoor.Mem Go.Proofs.YtfpaichdkddglaaDoor.Laws Go.Proofs.YtfpaichdkddglaaDoor.Bytes Go.Proofs.YtfpaichdkddglaaDoor.He
set_option linter.unusedVariables false
set_option linter.unusedSimpArgs false

theorem Cur.keep {w w' : World} {g : Nat} {vb : Value} {n : Nat} (h : Cur w g vb n) (b : Below w.heap.size w w') : Cur w' g vb n := h.later b h.lt
theorem Cur.gro {w w' : World} {g : Nat} {vb : Value} {n : Nat} {r : Option Nat} (h : Cur w g vb n) (gr : w.grownBy w' r) (hne : r ≠ some g) : Cur w' g vb n := by
  obtain ⟨i, x, hr, hi⟩ := h
  exact ⟨i, x, rowGro hr gr hne, hi⟩
theorem Cur.groOwn {w w' : World} {g lo hi : Nat} {vb v : Value} {n : Nat} {e : TypeId} {cs : List Value} (h : Cur w g vb n) (o : Own w lo hi e v cs) (gr : w.grownBy w' v.ownBlock) (ht : 69 ≠ e) : Cur w' g vb n := by
  obtain ⟨i, x, hr, hi⟩ := h
  exact ⟨i, x, rowGro hr gr (Own.neRow o hr ht), hi⟩

theorem lit1 (w : World) (lo : Nat) (x : Int) (h : lo ≤ w.heap.size) : Own (w.alloc (.cells #[.int .u8 x] 5)) lo (w.alloc (.cells #[.int .u8 x] 5)).heap.size 5 (.slice (some ⟨w.heap.size, 0, none⟩) 1 1) (bs [x]) :=
  Own.of (World.ownsRow_lit w #[.int .u8 x] 1 h (by unfold maxLen; omega) rfl)

theorem Own.blockG {w : World} {lo hi n cap : Nat} {e : TypeId} {ao : Option Addr} {cs : List Value} (h : Own w lo hi e (.slice ao n cap) cs) (hp : 0 < n) : ∃ gb, ao = some ⟨gb, 0, none⟩ ∧ lo ≤ gb ∧ gb < hi ∧ (∃ cur, w.heap[gb]? = some (.cells cur e (0, 0)) ∧ 0 < cur.size) := by
  obtain ⟨⟨h1, h2⟩, h3⟩ := h
  rcases h2 with ⟨he, h0⟩ | ⟨g', cap', cur, he, hb, hg, hnc, hcm, hcs, ht⟩
  · simp only [Value.slice.injEq] at he
    omega
  · simp only [Value.slice.injEq] at he
    obtain ⟨rfl, rfl, rfl⟩ := he
    exact ⟨g', rfl, hb, h3 g' rfl, cur, hg, by omega⟩
theorem Own.cellAt {w : World} {lo hi gb n cap : Nat} {e : TypeId} {cs : List Value} (h : Own w lo hi e (.slice (some ⟨gb, 0, none⟩) n cap) cs) {j : Nat} {x : Value} (hj : cs[j]? = some x) : w.cell? ⟨gb, j, none⟩ = some x := by
  obtain ⟨⟨h1, h2⟩, h3⟩ := h
  rcases h2 with ⟨he, h0⟩ | ⟨g', cap', cur, he, hb, hg, hnc, hcm, hcs, ht⟩
  · cases he
  · simp only [Value.slice.injEq, Option.some.injEq, Addr.mk.injEq] at he
    obtain ⟨⟨rfl, _⟩, rfl, rfl⟩ := he
    rw [← ht, List.getElem?_take] at hj
    split at hj
    · simpa [World.cell?, hg] using hj
    · cases hj
/-- a store into an element of a slice that is owned -/
theorem wp_elemG {P : Program} {op : Oper} {a : Act} {w : World} {K : Act → World → Prop} {Q : Exit → Act → World → Prop} (ty : TypeId) (x y : Operand) (ho : op.op = .store ty x y) {lo hi gb n cap k : Nat} {e : TypeId} {cs : List Value}
    (o : Own w lo hi e (.slice (some ⟨gb, 0, none⟩) n cap) cs) (hk : k < cs.length) (v : Value) (hx : a.eval x = .pointer (some ⟨gb, k, none⟩)) (hy : a.eval y = v) (hin : (P.info? ty).map (·.size) = some 1) (h1 : v.oneCell' = true)
    (h : ∀ w', Own w' lo hi e (.slice (some ⟨gb, 0, none⟩) n cap) (cs.set k v) → w.grownBy w' (some gb) → K (a.put op.dst undef) w') : op.wp P a w K Q := by
  obtain ⟨⟨e1, e2⟩, e3⟩ := o
  rcases e2 with ⟨he, _⟩ | ⟨g', cap', cur, he, hb, hg, hnc, hcm, hcs, ht⟩
  · cases he
  · simp only [Value.slice.injEq, Option.some.injEq, Addr.mk.injEq] at he
    obtain ⟨⟨rfl, _⟩, rfl, rfl⟩ := he
    refine wp_oneG ty x y ho gb k v hx hy cur.toList e (by simpa using hg) (by simp; omega) hin h1 (cur.toList.set k v) rfl ?_
    intro w' r g
    refine h w' ⟨⟨by simp, .inr ⟨gb, cap, (cur.toList.set k v).toArray, by simp, hb, r, by simpa using hnc, hcm, by simpa using hcs, ?_⟩⟩, e3⟩ g
    simp only [List.length_set]
    rw [List.take_set, ht]

/-- what laws.at answers -/
def atV (xs : List Int) (i : Nat) : Nat := ((xs[i]?).getD (((i : Int) * 31 + (xs.length : Int) * 7) % 256)).toNat
theorem atV_le {xs : List Int} (hb : Byt xs) (i : Nat) : atV xs i ≤ 255 := by
  unfold atV
  cases h : xs[i]? with
  | none => simp only [Option.getD_none]; omega
  | some c => have := hb c (List.mem_of_getElem? h); simp only [Option.getD_some]; omega

set_option maxRecDepth 1000000 in
set_option maxHeartbeats 1000000 in
theorem at_val (w : World) (v : Value) (xs : List Int) (i : Nat) (hs : Sl w v (bs xs)) (hby : Byt xs) (hx : xs.length ≤ 1048576) (hi : i ≤ 100) :
    Calls Tryd.prog 11 #[v, .int .i64 (i : Int)] w fun e w' => e = .returned (.int .i64 ((atV xs i : Nat) : Int)) ∧ w = w' := by
  obtain ⟨ao, cap, rfl, hcap, _, hr⟩ := hs
  rw [bs_len] at *
  obtain ⟨V, hV⟩ : ∃ V, atV xs i = V := ⟨_, rfl⟩
  rw [hV]
  by_cases h : i < xs.length
  · obtain ⟨b, off, rfl, hcell⟩ := hr (by omega)
    obtain ⟨c, hc⟩ : ∃ c, xs[i]? = some c := ⟨xs[i], by simp [h]⟩
    have hb := hby c (List.mem_of_getElem? hc)
    have hcv : c = (V : Int) := by rw [← hV]; unfold atV; rw [hc]; simp only [Option.getD_some]; omega
    subst hcv
    have h1 : w.cell? ⟨b, off + i, none⟩ = some (.int .u8 (V : Int)) := by rw [hcell i h]; simp [bs, hc]
    have d1 : (i : Int) < (xs.length : Int) := by omega
    have hw : IntKind.i64.wrap (V : Int) = (V : Int) := by rw [IntKind.wrap_i64]; omega
    clear hr hcell hV hc
    go_enter Tryd.func11, Tryd.ntmps11
    go_wp2
    go_ret
    exact ⟨by first | rfl | rw [hw], rfl⟩
  · have d1 : ¬ (i : Int) < (xs.length : Int) := by omega
    have w1 : IntKind.i64.wrap ((i : Int) * 31) = (i : Int) * 31 := by rw [IntKind.wrap_i64]; omega
    have w2 : IntKind.i64.wrap ((xs.length : Int) * 7) = (xs.length : Int) * 7 := by rw [IntKind.wrap_i64]; omega
    have w3 : IntKind.i64.wrap ((i : Int) * 31 + (xs.length : Int) * 7) = (i : Int) * 31 + (xs.length : Int) * 7 := by rw [IntKind.wrap_i64]; omega
    have hM : ((i : Int) * 31 + (xs.length : Int) * 7) % 256 = (V : Int) := by
      rw [← hV]
      unfold atV
      rw [List.getElem?_eq_none (by omega)]
      simp only [Option.getD_none]
      omega
    have hM3 : ((i : Int) * 31 + (xs.length : Int) * 7).tmod 256 = (V : Int) := by rw [Int.tmod_eq_emod_of_nonneg (by omega)]; exact hM
    clear hr hV
    go_enter Tryd.func11, Tryd.ntmps11
    go_wp2
    go_ret
    exact ⟨rfl, rfl⟩

theorem at_any (w : World) (v : Value) (xs : List Int) (i : Nat) (hs : Sl w v (bs xs)) (hby : Byt xs) (hx : xs.length ≤ 1048576) (hi : i ≤ 100) :
    Calls Tryd.prog 11 #[v, .int .i64 (i : Int)] w fun e w' => ∃ m : Nat, (e = .returned (.int .i64 (m : Int)) ∧ m ≤ 255) ∧ w = w' :=
  (at_val w v xs i hs hby hx hi).mono fun e w' h => ⟨_, ⟨h.1, atV_le hby i⟩, h.2⟩

end Go.Proofs.YtfpaichdkddglaaDoor.Draw

/- Chapter 12, the specification's draws: a commit. -/
namespace Go.Proofs.YtfpaichdkddglaaDoor.Sr
open Go.RowKit Go.Proofs.YtfpaichdkddglaaDoor.Mem Go.Proofs.YtfpaichdkddglaaDoor.Laws Go.Proofs.YtfpaichdkddglaaDoor.Bytes Go.Proofs.YtfpaichdkddglaaDoor.Sha Go.Proofs.YtfpaichdkddglaaDoor.Tr Go.Proofs.YtfpaichdkddglaaDoor.Draw Go.Proofs.YtfpaichdkddglaaDoor.He Go.Proofs.YtfpaichdkddglaaDoor.Lg
set_option linter.unusedVariables false
set_option linter.unusedSimpArgs false

set_option maxRecDepth 1000000 in
set_option maxHeartbeats 4000000 in
theorem drawPut_any (w : World) (vb : Value) (xs : List Int) (hs : Sl w vb (bs xs)) (hby : Byt xs) (hx : xs.length ≤ 140737488355328) :
    Calls Tryd.prog 7 #[vb] w fun e w' => ∃ (v' : Value) (l : List ByteArray) (h : Hd), e = .returned (.tuple #[.agg #[.int .i64 h.n, .string h.r], v']) ∧ l.length ≤ 8 ∧ (∀ s ∈ l, s.size ≤ 3) ∧ h.r.size ≤ 32 ∧ Own w' w.heap.size w'.heap.size 9 v' (ss l) ∧ Below w.heap.size w w' := by
  have HS : Hid (Sl w vb (bs xs)) := hs
  obtain ⟨aob, capb, rfl, hcb⟩ := hs.form
  clear hs
  have B0 : Hid (Below w.heap.size w w) := Below.refl _ _
  obtain ⟨W1, HW1, b1, y1, hS1, r_res1⟩ : ∃ X, Hid ((w.alloc (.cells #[.int .i64 0, .string ⟨#[]⟩] 25)) = X) ∧ Below w.heap.size w X ∧ w.heap.size + 1 ≤ X.heap.size ∧ Hid (X.heap.size = w.heap.size + 1) ∧ Hid (X.heap[w.heap.size]? = some (.cells #[.int .i64 0, .string ⟨#[]⟩] 25 (0, 0))) := ⟨_, rfl, ((Below.refl _ _).alloc (Nat.le_refl _) _), by simp, by show _ = _; simp, (by show _ = _; exact alloc_nth1_0 w _)⟩
  have z1 : w.heap.size ≤ W1.heap.size := b1.size
  have B1 : Hid (Below w.heap.size w W1) := B0.out.trans (b1.mono B0.out.size)
  have c_res1_0 : W1.cell? ⟨w.heap.size, 0, none⟩ = some (.int .i64 0) := row_at r_res1.out 0
  have c_res1_1 : W1.cell? ⟨w.heap.size, 1, none⟩ = some (.string ⟨#[]⟩) := row_at r_res1.out 1
  go_enter Tryd.func7, Tryd.ntmps7
  go_wp2_with fail
  rw [HW1.out]
  refine (new_any W1 _ xs (HS.out.later B1.out) hby hx).mono ?_
  rintro e W2 ⟨rfl, d2⟩
  have hcg : W1.heap.size < W2.heap.size := d2.cur.lt
  have HSW : Hid (Sl W1 (.slice aob (bs xs).length capb) (bs xs)) := (HS.out.later B1.out)
  have cu1 : Hid True := trivial
  have bw1 : Hid True := trivial
  have z2 : W1.heap.size ≤ W2.heap.size := d2.apart.size
  have B2 : Hid (Below w.heap.size w W2) := B1.out.trans (d2.below.mono B1.out.size)
  have cu2 : Hid (Cur W2 (W1.heap.size) (.slice aob (bs xs).length capb) xs.length) := d2.cur
  have bw2 : Hid (Below W1.heap.size W1 W2) := d2.below
  have r_res2 : Hid (W2.heap[w.heap.size]? = some (.cells #[.int .i64 0, .string ⟨#[]⟩] 25 (0, 0))) := drawn_row r_res1.out d2 (by omega)
  have c_res2_0 : W2.cell? ⟨w.heap.size, 0, none⟩ = some (.int .i64 0) := row_at r_res2.out 0
  have c_res2_1 : W2.cell? ⟨w.heap.size, 1, none⟩ = some (.string ⟨#[]⟩) := row_at r_res2.out 1
  clear r_res1 c_res1_0 c_res1_1
  clear cu1 bw1 d2
  go_wp2_with fail
  refine (Tr.list_any W1 W2 (W1.heap.size) _ xs HSW.out hby hx bw2.out (Nat.le_refl _) cu2.out).mono ?_
  rintro e W3 ⟨v_l, l, rfl, hll, hls, o_l3, d3⟩
  obtain ⟨ao_l, L_l, cap_l, rfl, hL_l, hM_l⟩ := o_l3.form
  have o_l3 : Hid (Own W3 W2.heap.size W3.heap.size 9 (.slice ao_l L_l cap_l) (ss l)) := o_l3
  clear hL_l hM_l
  have z3 : W2.heap.size ≤ W3.heap.size := d3.apart.size
  have B3 : Hid (Below w.heap.size w W3) := B1.out.trans (d3.below.mono B1.out.size)
  have cu3 : Hid (Cur W3 (W1.heap.size) (.slice aob (bs xs).length capb) xs.length) := d3.cur
  have bw3 : Hid (Below W1.heap.size W1 W3) := d3.below
  have r_res3 : Hid (W3.heap[w.heap.size]? = some (.cells #[.int .i64 0, .string ⟨#[]⟩] 25 (0, 0))) := drawn_row r_res2.out d3 (by omega)
  have c_res3_0 : W3.cell? ⟨w.heap.size, 0, none⟩ = some (.int .i64 0) := row_at r_res3.out 0
  have c_res3_1 : W3.cell? ⟨w.heap.size, 1, none⟩ = some (.string ⟨#[]⟩) := row_at r_res3.out 1
  clear r_res2 c_res2_0 c_res2_1
  clear cu2 bw2 d3
  have hq := headOf_size l
  obtain ⟨M, hM⟩ : ∃ M, headOf l = M := ⟨_, rfl⟩
  have q : ∀ W v1, Sl W v1 (ss l) → _ := fun W v1 h1 => headOf_spec W v1 l h1 (by omega) (fun s hs => by have := hls s hs; omega)
  simp only [hM] at q hq
  clear hM
  go_wp2_with fail
  refine (q W3 _ o_l3.out.sl).mono ?_
  rintro e W4 ⟨rfl, b4⟩
  have z4 : W3.heap.size ≤ W4.heap.size := b4.size
  have B4 : Hid (Below w.heap.size w W4) := B3.out.trans (b4.mono B3.out.size)
  have r_res4 : Hid (W4.heap[w.heap.size]? = some (.cells #[.int .i64 0, .string ⟨#[]⟩] 25 (0, 0))) := rowKeep r_res3.out b4
  have o_l4 : Hid (Own W4 (W2.heap.size) (W3.heap.size) 9 (.slice ao_l L_l cap_l) (ss l)) := Own.later o_l3.out b4 (by omega)
  have c_res4_0 : W4.cell? ⟨w.heap.size, 0, none⟩ = some (.int .i64 0) := row_at r_res4.out 0
  have c_res4_1 : W4.cell? ⟨w.heap.size, 1, none⟩ = some (.string ⟨#[]⟩) := row_at r_res4.out 1
  clear r_res3 c_res3_0 c_res3_1 o_l3
  have cu4 : Hid (Cur W4 (W1.heap.size) (.slice aob (bs xs).length capb) xs.length) := cu3.out.keep b4
  have bw4 : Hid (Below W1.heap.size W1 W4) := bw3.out.trans (b4.mono bw3.out.size)
  clear cu3 bw3
  have a_res4_0 : ∀ o, (W4.alloc o).cell? ⟨w.heap.size, 0, none⟩ = some (.int .i64 0) := fun o => keepR c_res4_0 ((Below.refl _ _).alloc (Nat.le_refl _) o)
  have a_res4_1 : ∀ o, (W4.alloc o).cell? ⟨w.heap.size, 1, none⟩ = some (.string ⟨#[]⟩) := fun o => keepR c_res4_1 ((Below.refl _ _).alloc (Nat.le_refl _) o)
  obtain ⟨W5, HW5, b5, y5, hS5, r_h5⟩ : ∃ X, Hid ((W4.alloc (.cells #[.int .i64 M.n, .string M.r] 25)) = X) ∧ Below W4.heap.size W4 X ∧ W4.heap.size + 1 ≤ X.heap.size ∧ Hid (X.heap.size = W4.heap.size + 1) ∧ Hid (X.heap[W4.heap.size]? = some (.cells #[.int .i64 M.n, .string M.r] 25 (0, 0))) := ⟨_, rfl, ((Below.refl _ _).alloc (Nat.le_refl _) _), by simp, by show _ = _; simp, (by show _ = _; exact alloc_nth1_0 W4 _)⟩
  have z5 : W4.heap.size ≤ W5.heap.size := b5.size
  have B5 : Hid (Below w.heap.size w W5) := B4.out.trans (b5.mono B4.out.size)
  have r_res5 : Hid (W5.heap[w.heap.size]? = some (.cells #[.int .i64 0, .string ⟨#[]⟩] 25 (0, 0))) := rowKeep r_res4.out b5
  have o_l5 : Hid (Own W5 (W2.heap.size) (W3.heap.size) 9 (.slice ao_l L_l cap_l) (ss l)) := Own.later o_l4.out b5 (by omega)
  have c_res5_0 : W5.cell? ⟨w.heap.size, 0, none⟩ = some (.int .i64 0) := row_at r_res5.out 0
  have c_res5_1 : W5.cell? ⟨w.heap.size, 1, none⟩ = some (.string ⟨#[]⟩) := row_at r_res5.out 1
  have c_h5_0 : W5.cell? ⟨W4.heap.size, 0, none⟩ = some (.int .i64 M.n) := row_at r_h5.out 0
  have c_h5_1 : W5.cell? ⟨W4.heap.size, 1, none⟩ = some (.string M.r) := row_at r_h5.out 1
  clear r_res4 c_res4_0 c_res4_1 o_l4
  have cu5 : Hid (Cur W5 (W1.heap.size) (.slice aob (bs xs).length capb) xs.length) := cu4.out.keep b5
  have bw5 : Hid (Below W1.heap.size W1 W5) := bw4.out.trans (b5.mono bw4.out.size)
  clear cu4 bw4
  go_wp2_with fail
  rw [HW5.out]
  clear a_res4_0 a_res4_1
  refine (once10 W1 W5 (W1.heap.size) _ xs 8 (by omega) (by omega) HSW.out hby hx bw5.out (Nat.le_refl _) cu5.out).mono ?_
  rintro e W6 ⟨bb, rfl, d6⟩
  have z6 : W5.heap.size ≤ W6.heap.size := d6.apart.size
  have B6 : Hid (Below w.heap.size w W6) := B1.out.trans (d6.below.mono B1.out.size)
  have cu6 : Hid (Cur W6 (W1.heap.size) (.slice aob (bs xs).length capb) xs.length) := d6.cur
  have bw6 : Hid (Below W1.heap.size W1 W6) := d6.below
  have r_res6 : Hid (W6.heap[w.heap.size]? = some (.cells #[.int .i64 0, .string ⟨#[]⟩] 25 (0, 0))) := drawn_row r_res5.out d6 (by omega)
  have r_h6 : Hid (W6.heap[W4.heap.size]? = some (.cells #[.int .i64 M.n, .string M.r] 25 (0, 0))) := drawn_row r_h5.out d6 (by omega)
  have o_l6 : Hid (Own W6 (W2.heap.size) (W3.heap.size) 9 (.slice ao_l L_l cap_l) (ss l)) := Own.drawn o_l5.out d6 (by omega) (by omega)
  have c_res6_0 : W6.cell? ⟨w.heap.size, 0, none⟩ = some (.int .i64 0) := row_at r_res6.out 0
  have c_res6_1 : W6.cell? ⟨w.heap.size, 1, none⟩ = some (.string ⟨#[]⟩) := row_at r_res6.out 1
  have c_h6_0 : W6.cell? ⟨W4.heap.size, 0, none⟩ = some (.int .i64 M.n) := row_at r_h6.out 0
  have c_h6_1 : W6.cell? ⟨W4.heap.size, 1, none⟩ = some (.string M.r) := row_at r_h6.out 1
  clear r_res5 c_res5_0 c_res5_1 r_h5 c_h5_0 c_h5_1 o_l5
  clear cu5 bw5 d6
  cases bb
  · clear cu6 bw6
    go_wp2_with (first | (refine wpList_load_row rfl 25 _ rfl (W4.heap.size) rfl 25 (hc M) (0, 0) _ r_h6.out Tryd.underlying25 rfl (sizeH _) ?_) | (refine wpList_store_row rfl 25 _ _ rfl (w.heap.size) (hc M) rfl rfl 25 _ r_res6.out (sizeH M) rfl (oneH M) ?_))
    refine bodyPost_ret (res_row_tmp rfl _ _ (w.heap.size) 25 (hc M) (0, 0) _ rfl (setRow_heap _ _ _ _ _ (0, 0) r_res6.out) Tryd.underlying25 rfl (sizeH M)) rfl ⟨.slice ao_l L_l cap_l, l, M, rfl, hll, hls, ?_, ?_, below_setRow B6.out (by omega) _⟩
    · first | exact hq | (show (1 : Nat) ≤ 32; omega)
    · exact (Own.setRow o_l6.out _ (by omega)).mono (by omega) (by rw [size_setRow]; omega)
  · go_wp2_with (refine wpl_oneG rfl 9 _ _ rfl (W4.heap.size) 1 (.string ⟨#[120]⟩) rfl rfl [.int .i64 M.n, .string M.r] 25 r_h6.out (Nat.le_of_ble_eq_true rfl) (by kernel_rfl) rfl [.int .i64 M.n, .string ⟨#[120]⟩] rfl ?_)
    intro W7 r_h7 g7
    have cu7 : Hid (Cur W7 (W1.heap.size) (.slice aob (bs xs).length capb) xs.length) := cu6.out.gro g7 (fun h9 => by injection h9 with h9; omega)
    have bw7 : Hid (Below W1.heap.size W1 W7) := belowGro bw6.out g7 bw6.out.size (fun k9 h9 => by injection h9 with h9; omega)
    clear cu6 bw6
    have r_h7 : Hid (W7.heap[W4.heap.size]? = some (.cells #[.int .i64 M.n, .string ⟨#[120]⟩] 25 (0, 0))) := r_h7
    have z7 : W6.heap.size ≤ W7.heap.size := g7.size
    have B7 : Hid (Below w.heap.size w W7) := belowGro B6.out g7 B6.out.size (fun k9 h9 => by injection h9 with h9; have := B6.out.size; omega)
    have r_res7 : Hid (W7.heap[w.heap.size]? = some (.cells #[.int .i64 0, .string ⟨#[]⟩] 25 (0, 0))) := rowGro r_res6.out g7 (fun h9 => by injection h9 with h9; omega)
    have o_l7 : Hid (Own W7 (W2.heap.size) (W3.heap.size) 9 (.slice ao_l L_l cap_l) (ss l)) := Own.gro o_l6.out g7 (fun k9 h9 e9 => Own.neRow o_l6.out r_h6.out (by decide) (h9.trans e9.symm))
    have c_res7_0 : W7.cell? ⟨w.heap.size, 0, none⟩ = some (.int .i64 0) := row_at r_res7.out 0
    have c_res7_1 : W7.cell? ⟨w.heap.size, 1, none⟩ = some (.string ⟨#[]⟩) := row_at r_res7.out 1
    have c_h7_0 : W7.cell? ⟨W4.heap.size, 0, none⟩ = some (.int .i64 M.n) := row_at r_h7.out 0
    have c_h7_1 : W7.cell? ⟨W4.heap.size, 1, none⟩ = some (.string ⟨#[120]⟩) := row_at r_h7.out 1
    clear r_res6 c_res6_0 c_res6_1 o_l6
    clear r_h6 c_h6_0 c_h6_1
    clear g7
    clear cu7 bw7
    go_wp2_with (first | (refine wpList_load_row rfl 25 _ rfl (W4.heap.size) rfl 25 (hc (⟨M.n, ⟨#[120]⟩⟩ : Hd)) (0, 0) _ r_h7.out Tryd.underlying25 rfl (sizeH _) ?_) | (refine wpList_store_row rfl 25 _ _ rfl (w.heap.size) (hc (⟨M.n, ⟨#[120]⟩⟩ : Hd)) rfl rfl 25 _ r_res7.out (sizeH (⟨M.n, ⟨#[120]⟩⟩ : Hd)) rfl (oneH (⟨M.n, ⟨#[120]⟩⟩ : Hd)) ?_))
    refine bodyPost_ret (res_row_tmp rfl _ _ (w.heap.size) 25 (hc (⟨M.n, ⟨#[120]⟩⟩ : Hd)) (0, 0) _ rfl (setRow_heap _ _ _ _ _ (0, 0) r_res7.out) Tryd.underlying25 rfl (sizeH (⟨M.n, ⟨#[120]⟩⟩ : Hd))) rfl ⟨.slice ao_l L_l cap_l, l, (⟨M.n, ⟨#[120]⟩⟩ : Hd), rfl, hll, hls, ?_, ?_, below_setRow B7.out (by omega) _⟩
    · first | exact hq | (show (1 : Nat) ≤ 32; omega)
    · exact (Own.setRow o_l7.out _ (by omega)).mono (by omega) (by rw [size_setRow]; omega)

end Go.Proofs.YtfpaichdkddglaaDoor.Sr

/- Contracts of GetNum, the program's and the specification's: both answer 'getNum' of the bytes, and turn nothing. -/
namespace Go.Proofs.YtfpaichdkddglaaDoor.Gets
open Go.RowKit Go.Proofs.YtfpaichdkddglaaDoor.Mem Go.Proofs.YtfpaichdkddglaaDoor.Plain
set_option linter.unusedVariables false

theorem ret3 {a a' b b' : Int} {c c' : Bool} (h1 : a = a') (h2 : b = b') (h3 : c = c') : Ending.returned (.tuple #[.int .i64 a, .int .i64 b, .bool c]) = .returned (.tuple #[.int .i64 a', .int .i64 b', .bool c']) := by rw [h1, h2, h3]

theorem getNum_out {xs : List Int} {at_ : Int} (h : at_ < 0 ∨ (xs.length : Int) ≤ at_) : getNum xs at_ = (0, 0, false) := by
  unfold getNum; rw [if_neg (by omega)]
theorem getNum_none {xs : List Int} {a : Nat} (ha : a < xs.length) (h : dec 0 0 1 (xs.drop a) = none) : getNum xs (a : Int) = (0, 0, false) := by
  unfold getNum; rw [if_pos (by omega)]; simp [h]
theorem getNum_some {xs : List Int} {a : Nat} {n : Int} {k : Nat} (ha : a < xs.length) (h : dec 0 0 1 (xs.drop a) = some (n, k)) : getNum xs (a : Int) = (n, (a : Int) + k, true) := by
  unfold getNum; rw [if_pos (by omega)]; simp [h]

theorem drop_at {xs : List Int} {a k : Nat} {c : Int} (h : xs[a + k]? = some c) : xs.drop (a + k) = c :: xs.drop (a + (k + 1)) := by
  obtain ⟨hk, rfl⟩ := List.getElem?_eq_some_iff.1 h
  rw [List.drop_eq_getElem_cons hk]; rfl

theorem dec_more {k : Nat} {N W c : Int} {r : List Int} (h5 : k ≠ 5) (hc : 128 ≤ c) : dec k N W (c :: r) = dec (k + 1) (N + c % 128 * W) (W * 128) r := by
  rw [dec, if_neg h5, if_pos hc]
theorem dec_five {N W c : Int} {r : List Int} : dec 5 N W (c :: r) = none := by rw [dec, if_pos rfl]
theorem dec_bad {k : Nat} {N W c : Int} {r : List Int} (h5 : k ≠ 5) (hc : c < 128) (hb : 1000000000 < N + c % 128 * W ∨ (0 < k ∧ c % 128 = 0)) : dec k N W (c :: r) = none := by
  rw [dec, if_neg h5, if_neg (by omega), if_pos hb]
theorem dec_good {k : Nat} {N W c : Int} {r : List Int} (h5 : k ≠ 5) (hc : c < 128) (hb : ¬ (1000000000 < N + c % 128 * W ∨ (0 < k ∧ c % 128 = 0))) : dec k N W (c :: r) = some (N + c % 128 * W, k + 1) := by
  rw [dec, if_neg h5, if_neg (by omega), if_neg hb]

theorem pow_bd {k : Nat} (hk : k < 5) : 1 ≤ (128 : Int) ^ k ∧ (128 : Int) ^ k ≤ 268435456 := by
  rcases (show k = 0 ∨ k = 1 ∨ k = 2 ∨ k = 3 ∨ k = 4 by omega) with rfl | rfl | rfl | rfl | rfl <;> decide
theorem prod_bd {c W : Int} (hW : 1 ≤ W) : 0 ≤ c % 128 * W ∧ c % 128 * W ≤ 127 * W :=
  ⟨Int.mul_nonneg (by omega) (by omega), Int.mul_le_mul_of_nonneg_right (by omega) (by omega)⟩

set_option maxHeartbeats 1000000 in
theorem get_impl (w : World) (v : Value) (xs : List Int) (at_ : Int) (h : Sl w v (bs xs)) (hb : Byt xs) (hx : xs.length ≤ 140737488355328) (hlo : -9223372036854775808 ≤ at_) (hhi : at_ ≤ 9223372036854775807) :
    Calls Tryd.prog 56 #[v, .int .i64 at_] w fun e w' => e = .returned (.tuple #[.int .i64 (getNum xs at_).1, .int .i64 (getNum xs at_).2.1, .bool (getNum xs at_).2.2]) ∧ w' = w := by
  obtain ⟨ao, cap, rfl, hc1, _, hr1⟩ := h
  rw [bs_len] at hr1 hc1
  rw [bs_len]
  by_cases h0 : at_ < 0
  · have HG : Hid (getNum xs at_ = (0, 0, false)) := getNum_out (.inl h0)
    go_enter Tryd.func56, Tryd.ntmps56
    go_wp2
    go_ret3
    exact ⟨by rw [HG.out]; rfl, rfl⟩
  by_cases h1 : (xs.length : Int) ≤ at_
  · have HG : Hid (getNum xs at_ = (0, 0, false)) := getNum_out (.inr h1)
    go_enter Tryd.func56, Tryd.ntmps56
    go_wp2
    go_ret3
    exact ⟨by rw [HG.out]; rfl, rfl⟩
  obtain ⟨a, rfl⟩ := Int.eq_ofNat_of_zero_le (show 0 ≤ at_ by omega)
  have ha : a < xs.length := by omega
  have hd0 : decide ((a : Int) < 0) = false := by simp
  obtain ⟨b, off, rfl, hcells⟩ := hr1 (by omega)
  clear h0 h1 hlo hhi
  go_enter Tryd.func56, Tryd.ntmps56
  go_wp2
  go_loop [7, 8, 24] (fun n wo i => ∃ (k : Nat) (N W : Int), k ≤ xs.length - a ∧ k ≤ 5 ∧ i = .int .i64 k ∧ n = .int .i64 N ∧ wo = .int .i64 W ∧ W = 128 ^ k ∧ 0 ≤ N ∧ N < W ∧ dec 0 0 1 (xs.drop a) = dec k N W (xs.drop (a + k))) (fun _ _ i => (xs.length - a) - (intOf i).toNat)
  case atStart => exact ⟨0, 0, 1, Nat.zero_le _, by omega, rfl, rfl, rfl, rfl, by omega, by omega, rfl⟩
  case round =>
    obtain ⟨k, N, W, hk, hk5, rfl, rfl, rfl, hW0, hN0, hN1, hD0⟩ := hrel
    have HD : Hid (W = 128 ^ k ∧ dec 0 0 1 (xs.drop a) = dec k N W (xs.drop (a + k))) := ⟨hW0, hD0⟩
    clear hD0 hW0
    by_cases hlt : k < xs.length - a
    · obtain ⟨c, hc0⟩ : ∃ c, xs[a + k]? = some c := ⟨xs[a + k]'(by omega), by simp⟩
      have hcell : w.cell? ⟨b, off + a + k, none⟩ = some (.int .u8 c) := by
        rw [Nat.add_assoc, hcells (a + k) (by omega), bs_get, hc0]; rfl
      have hby := hb.at hc0
      have HC : Hid (xs.drop (a + k) = c :: xs.drop (a + (k + 1))) := drop_at hc0
      clear hcells hc0 hb
      by_cases h5 : k = 5
      · have HR : Hid (getNum xs (a : Int) = (0, 0, false)) := getNum_none ha (by rw [HD.out.2, HC.out, h5]; exact dec_five)
        have h5' : ((k : Int) == 5) = true := by simp; omega
        clear HD HC h5
        go_wp2
        go_ret3
        exact ⟨by rw [HR.out]; rfl, rfl⟩
      have hWb : 1 ≤ W ∧ W ≤ 268435456 := by rw [HD.out.1]; exact pow_bd (by omega)
      have hpb := prod_bd (c := c) hWb.1
      have h5' : ((k : Int) == 5) = false := by simp; omega
      by_cases hge : 128 ≤ c
      · have HR : Hid (W * 128 = 128 ^ (k + 1) ∧ dec 0 0 1 (xs.drop a) = dec (k + 1) (N + c % 128 * W) (W * 128) (xs.drop (a + (k + 1)))) :=
          ⟨by rw [HD.out.1, Int.pow_succ], by rw [HD.out.2, HC.out, dec_more h5 hge]⟩
        clear HD HC
        go_wp2
        go_round
        case rel => exact ⟨k + 1, N + c % 128 * W, W * 128, by omega, by omega, by go_num, rfl, rfl, HR.out.1, by omega, by omega, HR.out.2⟩
        case measure => simp [intOf]; omega
      · have hlt8 : c < 128 := by omega
        by_cases hbig : 1000000000 < N + c % 128 * W
        · have HR : Hid (getNum xs (a : Int) = (0, 0, false)) := getNum_none ha (by rw [HD.out.2, HC.out]; exact dec_bad h5 hlt8 (.inl hbig))
          have hdec : decide (1000000000 < N + c % 128 * W) = true := by simpa using hbig
          clear HD HC
          go_wp2
          go_ret3
          exact ⟨by rw [HR.out]; rfl, rfl⟩
        · have hdec : decide (1000000000 < N + c % 128 * W) = false := by simpa using hbig
          by_cases hk0 : 0 < k
          · have hdk : decide ((0 : Int) < (k : Int)) = true := by simpa using hk0
            by_cases hz : c % 128 = 0
            · have HR : Hid (getNum xs (a : Int) = (0, 0, false)) := getNum_none ha (by rw [HD.out.2, HC.out]; exact dec_bad h5 hlt8 (.inr ⟨hk0, hz⟩))
              have hz' : (c % 128 == 0) = true := by simpa using hz
              clear HD HC hz
              go_wp2
              go_ret3
              exact ⟨by rw [HR.out]; rfl, rfl⟩
            · have HR : Hid (getNum xs (a : Int) = (N + c % 128 * W, (a : Int) + ((k + 1 : Nat) : Int), true)) := getNum_some ha (by rw [HD.out.2, HC.out]; exact dec_good h5 hlt8 (by omega))
              have hz' : (c % 128 == 0) = false := by simpa using hz
              clear HD HC hz
              go_wp2
              go_ret3
              exact ⟨by rw [HR.out]; exact ret3 rfl (by dsimp only; omega) rfl, rfl⟩
          · have hdk : decide ((0 : Int) < (k : Int)) = false := by simpa using hk0
            have HR : Hid (getNum xs (a : Int) = (N + c % 128 * W, (a : Int) + ((k + 1 : Nat) : Int), true)) := getNum_some ha (by rw [HD.out.2, HC.out]; exact dec_good h5 hlt8 (by omega))
            clear HD HC
            go_wp2
            go_ret3
            exact ⟨by rw [HR.out]; exact ret3 rfl (by dsimp only; omega) rfl, rfl⟩
    · have HR : Hid (getNum xs (a : Int) = (0, 0, false)) := getNum_none ha (by rw [HD.out.2, List.drop_eq_nil_of_le (by omega)]; rfl)
      clear HD
      go_wp2
      go_ret3
      exact ⟨by rw [HR.out]; rfl, rfl⟩

theorem and127b {c : Int} (h : 0 ≤ c ∧ c ≤ 255) : bits .and .i64 c 127 = c % 128 := and127 h.1 (by omega)

set_option maxHeartbeats 1000000 in
theorem get_spec (w : World) (v : Value) (xs : List Int) (at_ : Int) (h : Sl w v (bs xs)) (hb : Byt xs) (hx : xs.length ≤ 140737488355328) (hlo : -9223372036854775808 ≤ at_) (hhi : at_ ≤ 9223372036854775807) :
    Calls Tryd.prog 44 #[v, .int .i64 at_] w fun e w' => e = .returned (.tuple #[.int .i64 (getNum xs at_).1, .int .i64 (getNum xs at_).2.1, .bool (getNum xs at_).2.2]) ∧ w' = w := by
  obtain ⟨ao, cap, rfl, hc1, _, hr1⟩ := h
  rw [bs_len] at hr1 hc1
  rw [bs_len]
  by_cases h0 : at_ < 0
  · have HG : Hid (getNum xs at_ = (0, 0, false)) := getNum_out (.inl h0)
    have hd : decide (0 ≤ at_) = false := by simp; omega
    go_enter Tryd.func44, Tryd.ntmps44
    go_wp2
    refine wp_loop_rounds 1 ?_; rw [rounds_succ]
    go_wp2
    go_ret3
    exact ⟨by rw [HG.out]; rfl, rfl⟩
  by_cases h1 : (xs.length : Int) ≤ at_
  · have HG : Hid (getNum xs at_ = (0, 0, false)) := getNum_out (.inr h1)
    have hd : decide (0 ≤ at_) = true := by simp; omega
    have hd2 : decide (at_ < (xs.length : Int)) = false := by simp; omega
    go_enter Tryd.func44, Tryd.ntmps44
    go_wp2
    refine wp_loop_rounds 1 ?_; rw [rounds_succ]
    go_wp2
    go_ret3
    exact ⟨by rw [HG.out]; rfl, rfl⟩
  obtain ⟨a, rfl⟩ := Int.eq_ofNat_of_zero_le (show 0 ≤ at_ by omega)
  have ha : a < xs.length := by omega
  obtain ⟨b, off, rfl, hcells⟩ := hr1 (by omega)
  clear h0 h1 hlo hhi
  have hda : decide ((0 : Int) ≤ (a : Int)) = true := by simp
  have hdb : decide ((a : Int) < (xs.length : Int)) = true := by simp; omega
  go_enter Tryd.func44, Tryd.ntmps44
  go_wp2
  go_loop [7, 8] (fun n i => ∃ (k : Nat) (N W : Int), a + k ≤ xs.length ∧ k ≤ 5 ∧ i = .int .i64 k ∧ n = .int .i64 N ∧ W = 128 ^ k ∧ 0 ≤ N ∧ N < W ∧ dec 0 0 1 (xs.drop a) = dec k N W (xs.drop (a + k))) (fun _ i => 5 - (intOf i).toNat)
  case atStart => exact ⟨0, 0, 1, by omega, by omega, rfl, rfl, rfl, by omega, by omega, rfl⟩
  case round =>
    obtain ⟨k, N, W, hk, hk5, rfl, rfl, hW0, hN0, hN1, hD0⟩ := hrel
    have HD : Hid (W = 128 ^ k ∧ dec 0 0 1 (xs.drop a) = dec k N W (xs.drop (a + k))) := ⟨hW0, hD0⟩
    clear hD0 hW0
    by_cases h5 : k = 5
    · have h5' : decide ((k : Int) < 5) = false := by simp; omega
      have HR : Hid (getNum xs (a : Int) = (0, 0, false)) := by
        by_cases hlt : a + k < xs.length
        · exact getNum_none ha (by subst h5; rw [HD.out.2, List.drop_eq_getElem_cons hlt]; exact dec_five)
        · exact getNum_none ha (by rw [HD.out.2, List.drop_eq_nil_of_le (by omega)]; rfl)
      clear HD h5
      go_wp2
      go_ret3
      exact ⟨by rw [HR.out]; rfl, rfl⟩
    have h5' : decide ((k : Int) < 5) = true := by simp; omega
    by_cases hlt : a + k < xs.length
    · have hlt' : decide ((a : Int) + (k : Int) < (xs.length : Int)) = true := by simp; omega
      obtain ⟨c, hc0⟩ : ∃ c, xs[a + k]? = some c := ⟨xs[a + k]'(by omega), by simp⟩
      have hcell : w.cell? ⟨b, off + (a + k), none⟩ = some (.int .u8 c) := by
        rw [hcells (a + k) (by omega), bs_get, hc0]; rfl
      have hby := hb.at hc0
      have HC : Hid (xs.drop (a + k) = c :: xs.drop (a + (k + 1))) := drop_at hc0
      clear hcells hc0 hb
      have hWb : 1 ≤ W ∧ W ≤ 268435456 := by rw [HD.out.1]; exact pow_bd (by omega)
      have hpb := prod_bd (c := c) hWb.1
      have hmask := and127b hby
      have hor : bits .or .i64 N (wrap64 (c % 128 * 2 ^ (7 * k))) = N + c % 128 * W := by
        have e : (128 : Int) ^ k = 2 ^ (7 * k) := by rw [Int.pow_mul]; rfl
        have hw : wrap64 (c % 128 * 2 ^ (7 * k)) = c % 128 * 2 ^ (7 * k) := IntWalk.wrap64_in _ (by rw [← e, ← HD.out.1]; omega)
        rw [hw, HD.out.1]; exact or_join (by omega) hN0 (by rw [← HD.out.1]; exact hN1) (by omega) (by omega)
      by_cases hge : 127 < c
      · have HR : Hid (W * 128 = 128 ^ (k + 1) ∧ dec 0 0 1 (xs.drop a) = dec (k + 1) (N + c % 128 * W) (W * 128) (xs.drop (a + (k + 1)))) :=
          ⟨by rw [HD.out.1, Int.pow_succ], by rw [HD.out.2, HC.out, dec_more h5 (by omega)]⟩
        clear HD HC
        go_wp2
        go_round
        case rel => exact ⟨k + 1, N + c % 128 * W, W * 128, by omega, by omega, by go_num, rfl, HR.out.1, by omega, by omega, HR.out.2⟩
        case measure => simp [intOf]; omega
      · have hlt8 : c < 128 := by omega
        by_cases hk0 : 0 < k
        · have hdk : decide ((0 : Int) < (k : Int)) = true := by simpa using hk0
          by_cases hz : c = 0
          · have HR : Hid (getNum xs (a : Int) = (0, 0, false)) := getNum_none ha (by rw [HD.out.2, HC.out]; exact dec_bad h5 hlt8 (.inr ⟨hk0, by omega⟩))
            have hz' : (c == 0) = true := by simpa using hz
            clear HD HC hz
            go_wp2
            go_ret3
            exact ⟨by rw [HR.out]; rfl, rfl⟩
          · have hz' : (c == 0) = false := by simpa using hz
            by_cases hbig : 1000000000 < N + c % 128 * W
            · have HR : Hid (getNum xs (a : Int) = (0, 0, false)) := getNum_none ha (by rw [HD.out.2, HC.out]; exact dec_bad h5 hlt8 (.inl hbig))
              have hdec : decide (1000000000 < N + c % 128 * W) = true := by simpa using hbig
              clear HD HC hz
              go_wp2
              go_ret3
              exact ⟨by rw [HR.out]; rfl, rfl⟩
            · have HR : Hid (getNum xs (a : Int) = (N + c % 128 * W, (a : Int) + ((k + 1 : Nat) : Int), true)) := getNum_some ha (by rw [HD.out.2, HC.out]; exact dec_good h5 hlt8 (by omega))
              have hdec : decide (1000000000 < N + c % 128 * W) = false := by simpa using hbig
              clear HD HC hz
              go_wp2
              go_ret3
              exact ⟨by rw [HR.out]; exact ret3 rfl (by dsimp only; omega) rfl, rfl⟩
        · have hdk : decide ((0 : Int) < (k : Int)) = false := by simpa using hk0
          by_cases hbig : 1000000000 < N + c % 128 * W
          · have HR : Hid (getNum xs (a : Int) = (0, 0, false)) := getNum_none ha (by rw [HD.out.2, HC.out]; exact dec_bad h5 hlt8 (.inl hbig))
            have hdec : decide (1000000000 < N + c % 128 * W) = true := by simpa using hbig
            clear HD HC
            go_wp2
            go_ret3
            exact ⟨by rw [HR.out]; rfl, rfl⟩
          · have HR : Hid (getNum xs (a : Int) = (N + c % 128 * W, (a : Int) + ((k + 1 : Nat) : Int), true)) := getNum_some ha (by rw [HD.out.2, HC.out]; exact dec_good h5 hlt8 (by omega))
            have hdec : decide (1000000000 < N + c % 128 * W) = false := by simpa using hbig
            clear HD HC
            go_wp2
            go_ret3
            exact ⟨by rw [HR.out]; exact ret3 rfl (by dsimp only; omega) rfl, rfl⟩
    · have hlt' : decide ((a : Int) + (k : Int) < (xs.length : Int)) = false := by simp; omega
      have HR : Hid (getNum xs (a : Int) = (0, 0, false)) := getNum_none ha (by rw [HD.out.2, List.drop_eq_nil_of_le (by omega)]; rfl)
      clear HD
      go_wp2
      go_ret3
      exact ⟨by rw [HR.out]; rfl, rfl⟩

end Go.Proofs.YtfpaichdkddglaaDoor.Gets

/- Plain lists and numbers: what was put is got back. -/
namespace Go.Proofs.YtfpaichdkddglaaDoor.Plain
open Go.Proofs.YtfpaichdkddglaaDoor.Mem Go.Proofs.YtfpaichdkddglaaDoor.Laws Go.Proofs.YtfpaichdkddglaaDoor.Puts Go.Proofs.YtfpaichdkddglaaDoor.Gets

theorem split_mul (m : Nat) (W : Int) : ((m % 128 : Nat) : Int) * W + ((m / 128 : Nat) : Int) * (W * 128) = (m : Int) * W := by
  have h : (m : Int) = ((m / 128 : Nat) : Int) * 128 + ((m % 128 : Nat) : Int) := by omega
  have e : (m : Int) * W = (((m / 128 : Nat) : Int) * 128 + ((m % 128 : Nat) : Int)) * W := by rw [← h]
  rw [e, Int.add_mul, Int.mul_assoc, Int.mul_comm 128 W, Int.add_comm]

theorem dec_enc (f : Nat) : ∀ (m : Nat) (k : Nat) (N W : Int) (r : List Int), m ≤ f → 0 ≤ N → 0 ≤ W → N + (m : Int) * W ≤ 1000000000 → k + (enc m).length ≤ 5 → (k = 0 ∨ 0 < m) → dec k N W (enc m ++ r) = some (N + (m : Int) * W, k + (enc m).length) := by
  induction f with
  | zero =>
    intro m k N W r hm h0 hW hN hk hz
    obtain rfl : m = 0 := by omega
    rw [enc_small (by omega)] at hk ⊢
    have hk0 : k = 0 := by omega
    subst hk0
    exact dec_good (by omega) (by omega) (by rintro (h | h) <;> simp at * <;> omega)
  | succ f ih =>
    intro m k N W r hm h0 hW hN hk hz
    by_cases hs : m < 128
    · rw [enc_small hs] at hk ⊢
      have e : ((m : Nat) : Int) % 128 = (m : Int) := by omega
      have hg := dec_good (k := k) (N := N) (W := W) (c := (m : Int)) (r := r) (by simp at hk; omega) (by omega) (by rw [e]; omega)
      rw [e] at hg
      exact hg
    · rw [enc_step hs] at hk ⊢
      simp only [List.length_cons] at hk
      have e : ((m % 128 + 128 : Nat) : Int) % 128 = ((m % 128 : Nat) : Int) := by omega
      have hstep := dec_more (k := k) (N := N) (W := W) (c := ((m % 128 + 128 : Nat) : Int)) (r := enc (m / 128) ++ r) (by omega) (by omega)
      rw [e] at hstep
      have hsm := split_mul m W
      have hp : 0 ≤ ((m % 128 : Nat) : Int) * W := Int.mul_nonneg (by omega) hW
      have hih := ih (m / 128) (k + 1) (N + ((m % 128 : Nat) : Int) * W) (W * 128) r (by omega) (by omega) (by omega) (by omega) (by omega) (.inr (by omega))
      rw [List.cons_append, hstep, hih]
      simp only [List.length_cons, Option.some.injEq, Prod.mk.injEq]
      omega

theorem num_eq (n : Int) : num n = enc (clampN n).toNat := rfl

/-- A number comes back. -/
theorem getNum_back (ys r : List Int) (n : Int) : getNum (ys ++ (num n ++ r)) (ys.length : Int) = (clampN n, (ys.length : Int) + (num n).length, true) := by
  have hb := clampN_bd n
  have hl := num_len n
  have e : ((clampN n).toNat : Int) = clampN n := by omega
  have hd := dec_enc (clampN n).toNat (clampN n).toNat 0 0 1 r (Nat.le_refl _) (by omega) (by omega) (by omega) (by rw [← num_eq]; omega) (.inl rfl)
  rw [← num_eq] at hd
  have hlen : ys.length < (ys ++ (num n ++ r)).length := by simp; omega
  have h := getNum_some (xs := ys ++ (num n ++ r)) (a := ys.length) hlen (by rw [List.drop_append, List.drop_eq_nil_of_le (Nat.le_refl _), Nat.sub_self, List.nil_append, List.drop_zero]; exact hd)
  rw [h]
  simp only [Prod.mk.injEq, and_true]
  omega

theorem dec_big (l : List Int) : ∀ (k : Nat) (N W : Int), (∀ c ∈ l, 128 ≤ c) → dec k N W l = none := by
  induction l with
  | nil => intro k N W _; rfl
  | cons c r ih =>
    intro k N W h
    by_cases h5 : k = 5
    · subst h5; exact dec_five
    · rw [dec_more h5 (h c (List.mem_cons_self ..))]
      exact ih _ _ _ (fun x hx => h x (List.mem_cons_of_mem _ hx))

theorem enc_front (f : Nat) : ∀ m, m ≤ f → ∀ c ∈ (enc m).dropLast, 128 ≤ c := by
  induction f with
  | zero => intro m hm; rw [enc_small (by omega)]; simp
  | succ f ih =>
    intro m hm
    by_cases hs : m < 128
    · rw [enc_small hs]; simp
    · rw [enc_step hs]
      have hne : enc (m / 128) ≠ [] := by
        intro h; have := enc_len (m / 128); rw [h] at this; simp at this
      rw [List.dropLast_cons_of_ne_nil hne]
      intro c hc
      rcases List.mem_cons.1 hc with rfl | hc
      · omega
      · exact ih (m / 128) (by omega) c hc

/-- A number that lacks its last byte does not. -/
theorem getNum_cut (ys : List Int) (n : Int) : getNum ((ys ++ num n).take ((ys ++ num n).length - 1)) (ys.length : Int) = (0, 0, false) := by
  have hl := num_len n
  have hne : num n ≠ [] := by intro h; rw [h] at hl; simp at hl
  have e : (ys ++ num n).take ((ys ++ num n).length - 1) = ys ++ (num n).dropLast := by
    rw [← List.dropLast_eq_take, List.dropLast_append_of_ne_nil hne]
  rw [e]
  by_cases h0 : (num n).dropLast.length = 0
  · exact getNum_out (.inr (by simp [List.length_append] at *; omega))
  · refine getNum_none (by rw [List.length_append]; omega) ?_
    rw [List.drop_append, List.drop_eq_nil_of_le (Nat.le_refl _), Nat.sub_self, List.nil_append, List.drop_zero]
    exact dec_big _ _ _ _ (enc_front _ _ (Nat.le_refl _))

theorem u8s_sb (s : ByteArray) : u8s (sb s) = s.data.toList := by
  unfold u8s sb
  rw [List.map_map]
  have h : ((fun x : Int => UInt8.ofNat x.toNat) ∘ fun b : UInt8 => (b.toNat : Int)) = id := by
    funext b
    simp
  rw [h, List.map_id]
theorem txt_sb (s : ByteArray) : txt (sb s) = s := by
  unfold txt
  rw [u8s_sb]

theorem clamp_size {n : Nat} (h : n ≤ 1000000000) : clampN (n : Int) = (n : Int) := by
  unfold clampN
  rw [if_neg (by omega), if_neg (by omega)]

/-- A text comes back. -/
theorem getText_back (ys r : List Int) (s : ByteArray) (hs : s.size ≤ 1000000000) : getText (ys ++ (tx s ++ r)) (ys.length : Int) = (s, (ys.length : Int) + (tx s).length, true) := by
  have hg := getNum_back ys (sb s ++ r) (s.size : Int)
  rw [clamp_size hs] at hg
  have e : ys ++ (tx s ++ r) = ys ++ (num (s.size : Int) ++ (sb s ++ r)) := by unfold tx; rw [List.append_assoc]
  rw [e]
  have hl : (ys ++ (num (s.size : Int) ++ (sb s ++ r))).length = ys.length + ((num (s.size : Int)).length + (s.size + r.length)) := by
    simp only [List.length_append, sb_len]
  have hg2 : getNum (ys ++ (num (s.size : Int) ++ (sb s ++ r))) (ys.length : Int) = ((s.size : Int), ((ys.length + (num (s.size : Int)).length : Nat) : Int), true) := by
    rw [hg]; simp
  have h := getText_yes hg2 (by rw [hl]; omega)
  rw [h]
  have hd : ((ys ++ (num (s.size : Int) ++ (sb s ++ r))).drop (ys.length + (num (s.size : Int)).length)).take s.size = sb s := by
    rw [← List.append_assoc, List.drop_append, List.drop_eq_nil_of_le (by simp), List.nil_append, show ys.length + (num (s.size : Int)).length - (ys ++ num (s.size : Int)).length = 0 by simp, List.drop_zero, List.take_append_of_le_length (by rw [sb_len]; exact Nat.le_refl _), List.take_of_length_le (by rw [sb_len]; exact Nat.le_refl _)]
  rw [hd, txt_sb]
  have ht : (tx s).length = (num (s.size : Int)).length + s.size := by unfold tx; rw [List.length_append, sb_len]
  rw [ht]
  simp only [Prod.mk.injEq, and_true, true_and]
  omega

theorem rd_back (l : List ByteArray) : ∀ (ys r : List Int), (∀ s ∈ l, s.size ≤ 1000000000) → rd (ys ++ (txs l ++ r)) l.length (ys.length : Int) = some (l, (ys.length : Int) + (txs l).length) := by
  induction l with
  | nil => intro ys r _; simp [rd, txs]
  | cons s t ih =>
    intro ys r hs
    have e : ys ++ (txs (s :: t) ++ r) = ys ++ (tx s ++ (txs t ++ r)) := by simp only [txs, List.append_assoc]
    have e2 : ys ++ (tx s ++ (txs t ++ r)) = (ys ++ tx s) ++ (txs t ++ r) := by simp only [List.append_assoc]
    rw [e, List.length_cons, rd_yes (getText_back ys (txs t ++ r) s (hs s (List.mem_cons_self ..))), e2]
    have h := ih (ys ++ tx s) r (fun x hx => hs x (List.mem_cons_of_mem _ hx))
    have e3 : ((ys ++ tx s).length : Int) = (ys.length : Int) + ((tx s).length : Int) := by rw [List.length_append]; omega
    rw [e3] at h
    rw [h]
    simp only [Option.map_some, txs, List.length_append, Option.some.injEq, Prod.mk.injEq, true_and]
    omega

/-- Texts come back. -/
theorem getTexts_back (ys r : List Int) (l : List ByteArray) (hl : l.length ≤ 200) (hs : ∀ s ∈ l, s.size ≤ 1000000000) :
    getTexts ((ys ++ num (l.length : Int) ++ txs l) ++ r) (ys.length : Int) = (l, ((ys ++ num (l.length : Int) ++ txs l).length : Int), true) := by
  have hg := getNum_back ys (txs l ++ r) (l.length : Int)
  rw [clamp_size (by omega)] at hg
  have e : (ys ++ num (l.length : Int) ++ txs l) ++ r = ys ++ (num (l.length : Int) ++ (txs l ++ r)) := by simp only [List.append_assoc]
  have e2 : ys ++ (num (l.length : Int) ++ (txs l ++ r)) = (ys ++ num (l.length : Int)) ++ (txs l ++ r) := by simp only [List.append_assoc]
  rw [e]
  have hr := rd_back l (ys ++ num (l.length : Int)) r hs
  rw [← e2] at hr
  have e3 : ((ys ++ num (l.length : Int)).length : Int) = (ys.length : Int) + ((num (l.length : Int)).length : Int) := by rw [List.length_append]; omega
  rw [e3] at hr
  rw [getTexts_some hg hl hr]
  simp only [List.length_append, Prod.mk.injEq, true_and, and_true]
  omega

end Go.Proofs.YtfpaichdkddglaaDoor.Plain

/- Numbers, texts and lists of texts that are read stand there as they are put; plain facts alone. -/
namespace Go.Proofs.YtfpaichdkddglaaDoor.Can
open Go.RowKit Go.Proofs.YtfpaichdkddglaaDoor.Mem Go.Proofs.YtfpaichdkddglaaDoor.Laws Go.Proofs.YtfpaichdkddglaaDoor.Sha
set_option linter.unusedVariables false
set_option linter.unusedSimpArgs false

theorem dec_canon : ∀ (l : List Int) (k : Nat) (N W n : Int) (k' : Nat), Plain.dec k N W l = some (n, k') → Byt l → ∃ m : Nat, n = N + (m : Int) * W ∧ k' = k + (Plain.enc m).length ∧ l = Plain.enc m ++ l.drop (Plain.enc m).length ∧ (0 < k → 0 < m) := by
  intro l
  induction l with
  | nil => intro k N W n k' h; simp [Plain.dec] at h
  | cons c r ih =>
    intro k N W n k' h hb
    have hc : 0 ≤ c ∧ c ≤ 255 := hb c (by simp)
    rw [Plain.dec] at h
    split at h
    · cases h
    · split at h
      · rename_i h5 h128
        obtain ⟨m, hn, hk, hl, hm⟩ := ih _ _ _ _ _ h (fun x hx => hb x (by simp [hx]))
        have hm0 := hm (by omega)
        obtain ⟨d, hd⟩ : ∃ d : Nat, c = (d : Int) := ⟨c.toNat, by omega⟩
        subst hd
        have e1 : (d % 128 + 128 * m) % 128 + 128 = d := by omega
        have e2 : (d % 128 + 128 * m) / 128 = m := by omega
        have henc : Plain.enc (d % 128 + 128 * m) = (d : Int) :: Plain.enc m := by rw [Plain.enc_step (by omega), e1, e2]
        refine ⟨d % 128 + 128 * m, ?_, ?_, ?_, fun _ => by omega⟩
        · rw [hn]
          have : (((d % 128 + 128 * m : Nat) : Int)) = (d : Int) % 128 + 128 * (m : Int) := by omega
          rw [this, Int.add_mul, Int.add_assoc, Int.mul_comm W 128, ← Int.mul_assoc, Int.mul_comm (m : Int) 128]
        · rw [hk, henc, List.length_cons]; omega
        · rw [henc]
          simp only [List.cons_append, List.length_cons, List.drop_succ_cons]
          rw [← hl]
      · split at h
        · cases h
        · rename_i h5 h128 hbad
          simp only [Option.some.injEq, Prod.mk.injEq] at h
          obtain ⟨rfl, rfl⟩ := h
          obtain ⟨d, hd⟩ : ∃ d : Nat, c = (d : Int) := ⟨c.toNat, by omega⟩
          subst hd
          have hd128 : d < 128 := by omega
          have e : (d : Int) % 128 = (d : Int) := by omega
          refine ⟨d, by rw [e], by rw [Plain.enc_small hd128]; rfl, by rw [Plain.enc_small hd128]; simp, fun hk => ?_⟩
          rw [not_or] at hbad
          rw [e] at hbad
          omega

theorem num_enc {n : Int} {m : Nat} (h : n = (m : Int)) (hm : n ≤ 1000000000) : Puts.num n = Plain.enc m := by
  rw [Plain.num_eq, h, Plain.clamp_size (by omega)]
  simp
theorem dec_bd : ∀ (l : List Int) (k : Nat) (N W n : Int) (k' : Nat), Plain.dec k N W l = some (n, k') → n ≤ 1000000000 := by
  intro l
  induction l with
  | nil => intro k N W n k' h; simp [Plain.dec] at h
  | cons c r ih =>
    intro k N W n k' h
    rw [Plain.dec] at h
    split at h
    · cases h
    · split at h
      · exact ih _ _ _ _ _ h
      · split at h
        · cases h
        · rename_i hbad
          simp only [Option.some.injEq, Prod.mk.injEq] at h
          rw [not_or] at hbad
          omega
/-- a number that is read stands there as it is put -/
theorem getNum_canon {xs : List Int} {a : Nat} {n p : Int} (hb : Byt xs) (h : Plain.getNum xs (a : Int) = (n, p, true)) : ∃ q : Nat, p = (q : Int) ∧ 0 ≤ n ∧ n ≤ 1000000000 ∧ a ≤ xs.length ∧ xs.drop a = Puts.num n ++ xs.drop q := by
  unfold Plain.getNum at h
  split at h
  · rename_i hc
    rw [show ((a : Int)).toNat = a from rfl] at h
    split at h
    · rename_i n' k hd
      simp only [Prod.mk.injEq, and_true] at h
      obtain ⟨rfl, rfl⟩ := h
      obtain ⟨m, hn, hk, hl, _⟩ := dec_canon _ _ _ _ _ _ hd (fun x hx => hb x (List.mem_of_mem_drop hx))
      have h9 := dec_bd _ _ _ _ _ _ hd
      have hn' : n' = (m : Int) := by omega
      refine ⟨a + k, by omega, by omega, h9, by omega, ?_⟩
      rw [num_enc hn' h9]
      have hk' : k = (Plain.enc m).length := by omega
      rw [← List.drop_drop, hk']
      exact hl
    · simp at h
  · simp at h
theorem getText_canon {xs : List Int} {a : Nat} {s : ByteArray} {p : Int} (hb : Byt xs) (h : Plain.getText xs (a : Int) = (s, p, true)) : ∃ q : Nat, p = (q : Int) ∧ s.size ≤ 1000000000 ∧ xs.drop a = Puts.tx s ++ xs.drop q := by
  unfold Plain.getText at h
  split at h
  · rename_i hc
    obtain ⟨n, q, ok, hg⟩ : ∃ n q ok, Plain.getNum xs (a : Int) = (n, q, ok) := ⟨_, _, _, rfl⟩
    rw [hg] at h hc
    simp only at h hc
    obtain ⟨rfl, hc2⟩ := hc
    simp only [Prod.mk.injEq, and_true] at h
    obtain ⟨rfl, rfl⟩ := h
    obtain ⟨q', rfl, hn0, hn9, _, hd⟩ := getNum_canon hb hg
    obtain ⟨m, rfl⟩ : ∃ m : Nat, n = (m : Int) := ⟨n.toNat, by omega⟩
    have hsz : (Plain.txt ((xs.drop ((q' : Int)).toNat).take ((m : Int)).toNat)).size = m := by
      rw [txt_size]
      simp
      omega
    have hsb : sb (Plain.txt ((xs.drop ((q' : Int)).toNat).take ((m : Int)).toNat)) = (xs.drop q').take m := by
      rw [sb_txt (fun x hx => hb x (List.mem_of_mem_drop (List.mem_of_mem_take hx)))]
      rfl
    refine ⟨q' + m, by omega, by omega, ?_⟩
    unfold Puts.tx
    rw [hsz, hsb, hd, List.append_assoc, ← List.drop_drop, List.take_append_drop]
  · simp at h
theorem rd_canon {xs : List Int} (hb : Byt xs) : ∀ (n a : Nat) (l : List ByteArray) (p : Int), Plain.rd xs n (a : Int) = some (l, p) → ∃ q : Nat, p = (q : Int) ∧ l.length = n ∧ xs.drop a = Puts.txs l ++ xs.drop q := by
  intro n
  induction n with
  | zero =>
    intro a l p h
    simp [Plain.rd] at h
    obtain ⟨rfl, rfl⟩ := h
    exact ⟨a, rfl, rfl, rfl⟩
  | succ n ih =>
    intro a l p h
    rw [Plain.rd] at h
    split at h
    · rename_i hok
      obtain ⟨s, q, ok, hg⟩ : ∃ s q ok, Plain.getText xs (a : Int) = (s, q, ok) := ⟨_, _, _, rfl⟩
      rw [hg] at h hok
      simp only at h hok
      subst hok
      obtain ⟨q', rfl, _, hd⟩ := getText_canon hb hg
      rw [Option.map_eq_some_iff] at h
      obtain ⟨⟨l2, q2⟩, h1, h2⟩ := h
      simp only [Prod.mk.injEq] at h2
      obtain ⟨rfl, rfl⟩ := h2
      obtain ⟨q3, hq3, hl3, hd3⟩ := ih _ _ _ h1
      refine ⟨q3, hq3, by simp [hl3], ?_⟩
      rw [hd, hd3]
      simp [Puts.txs]
    · cases h
theorem getTexts_canon {xs : List Int} {a : Nat} {l : List ByteArray} {p : Int} (hb : Byt xs) (h : Plain.getTexts xs (a : Int) = (l, p, true)) : ∃ q : Nat, p = (q : Int) ∧ xs.drop a = Puts.num (l.length : Int) ++ Puts.txs l ++ xs.drop q := by
  unfold Plain.getTexts at h
  split at h
  · rename_i hc
    obtain ⟨n, q, ok, hg⟩ : ∃ n q ok, Plain.getNum xs (a : Int) = (n, q, ok) := ⟨_, _, _, rfl⟩
    rw [hg] at h hc
    simp only at h hc
    obtain ⟨rfl, hc2⟩ := hc
    obtain ⟨q', rfl, hn0, hn9, _, hd⟩ := getNum_canon hb hg
    obtain ⟨m, rfl⟩ : ∃ m : Nat, n = (m : Int) := ⟨n.toNat, by omega⟩
    split at h
    · rename_i l' q2 hr
      simp only [Prod.mk.injEq, and_true] at h
      obtain ⟨rfl, rfl⟩ := h
      obtain ⟨q3, hq3, hl3, hd3⟩ := rd_canon hb _ _ _ _ hr
      refine ⟨q3, hq3, ?_⟩
      have : l'.length = m := by rw [hl3]; rfl
      rw [hd, hd3, this, List.append_assoc]
    · simp at h
  · simp at h

end Go.Proofs.YtfpaichdkddglaaDoor.Can
