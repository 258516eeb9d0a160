/- Texts in one: Rec, Gro, Gro2, Nth. -/
import Derived.Test.YtbopliahafkecaaGreatDoorPk4
import Derived.Test.YtbopliahafkecaaGreatDoorPk2
import Derived.Laws.ResultCell
import Derived.Laws.CopyOwn
import Derived.BigQuiet
import Derived.Deep.MidRow
/- Rows of cells that hold a struct, beside slices that a call owns; no program is named here. -/
namespace Go.Proofs.YtbopliahafkecaaGreatDoor.Mem
open Go.RowKit
set_option linter.unusedVariables false
set_option linter.unusedSimpArgs false

theorem row_at {w : World} {g : Nat} {cs : Array Value} {t : TypeId} {fr : Nat × Nat} (h : w.heap[g]? = some (.cells cs t fr)) (j : Nat) : w.cell? ⟨g, j, none⟩ = cs[j]? := by simp [World.cell?, h]
theorem row_free {w : World} {g : Nat} {cs : Array Value} {t : TypeId} (h : w.heap[g]? = some (.cells cs t (0, 0))) (j : Nat) : w.frozen? ⟨g, j, none⟩ = false := by simp [World.frozen?, h]
theorem row_set {w : World} {g : Nat} {cs : Array Value} {t : TypeId} {fr : Nat × Nat} (h : w.heap[g]? = some (.cells cs t fr)) (i : Nat) (v : Value) : (w.setCell ⟨g, i, none⟩ v).heap[g]? = some (.cells (cs.setIfInBounds i v) t fr) := by
  simp [World.setCell, Array.getElem?_modify, h]
theorem cell_row {w : World} {g : Nat} {cs : Array Value} {p : Addr} {x : Value} (hp : p.block ≠ g) (h : w.cell? p = some x) : (w.setRow g cs).cell? p = some x := by
  have e := setRow_other w g p.block cs hp
  unfold World.cell? at h ⊢
  rw [e]
  exact h
theorem keepR {W W' : World} {p : Addr} {x : Value} (h : W.cell? p = some x) (b : Below W.heap.size W W') : W'.cell? p = some x := by
  rw [b.cell (World.block_lt_of_cell? W p h)]; exact h
theorem res_row_tmp {P : Program} {fn : Func} {p u : Tmp} {ty : TypeId} (h : fn.results = #[.cell p ty, .tmp u]) (tmps : Array Value) (w : World) (g : Nat) (t : TypeId) (cs : Array Value) (fr : Nat × Nat) (d : TypeDesc)
    (hp : tmps.getD p undef = .pointer (some ⟨g, 0, none⟩)) (hg : w.heap[g]? = some (.cells cs t fr))
    (hu : P.underlying ty = some d) (hd : (match d with | .struct _ | .array _ _ => true | _ => false) = true) (hi : (P.info? ty).map (·.size) = some cs.size) :
    (results fn tmps).run P w = .ok (.tuple #[.agg cs, tmps.getD u undef]) w := by
  have hp' : tmps[p]?.getD undef = .pointer (some ⟨g, 0, none⟩) := by simpa using hp
  simp [results, h, hp', asAddr, run_loadVar_row w g t ty cs fr d hg hu hd hi]
theorem quietE {P : Program} {f : FuncId} {args : Array Value} {w : World} {n : Nat} {v : Value}
    (h : Calls P f args (w.drewN n) fun e w' => e = .returned v ∧ w.drewN n = w') : Calls P f args (w.drewN n) fun e w'' => e = .returned v ∧ ∃ m, w'' = w.drewN m :=
  h.mono fun _ _ ⟨he, hm⟩ => ⟨he, n, hm.symm⟩
/-- the beginning of what is owned is owned -/
theorem Own.front {w : World} {lo hi : Nat} {e : TypeId} {ao : Option Addr} {n cap : Nat} {cs : List Value} (h : Own w lo hi e (.slice ao n cap) cs) (k : Nat) (hk : k ≤ cs.length) (hn : ao ≠ none) : Own w lo hi e (.slice ao k cap) (cs.take k) := by
  obtain ⟨a, rfl⟩ : ∃ a, ao = some a := by
    cases ao with
    | none => exact absurd rfl hn
    | some a => exact ⟨a, rfl⟩
  obtain ⟨⟨h1, h2⟩, h3⟩ := h
  have hl : (cs.take k).length = k := by simp; omega
  refine ⟨⟨by rw [hl, Nat.mul_one], ?_⟩, fun g hg => h3 g hg⟩
  rcases h2 with ⟨he, _⟩ | ⟨g, cap', cur, he, hb, hg, hnc, hcm, hcs, ht⟩
  · simp only [Value.slice.injEq] at he; exact absurd he.1 hn
  · simp only [Value.slice.injEq, Option.some.injEq] at he
    obtain ⟨rfl, rfl, rfl⟩ := he
    refine .inr ⟨g, cap, cur, by rw [hl], hb, hg, by rw [hl]; omega, hcm, hcs, ?_⟩
    rw [hl, ← ht, List.take_take, Nat.mul_one, Nat.mul_one, Nat.min_eq_left hk]
theorem Own.setRow {w : World} {lo hi g : Nat} {e : TypeId} {v : Value} {cs : List Value} (h : Own w lo hi e v cs) (cs' : Array Value) (hg : g < lo ∨ hi ≤ g) : Own (w.setRow g cs') lo hi e v cs :=
  h.keep fun k h1 h2 => setRow_other _ _ _ _ (by omega)
theorem Own.setCell {w : World} {lo hi g i : Nat} {e : TypeId} {v : Value} {cs : List Value} (h : Own w lo hi e v cs) (u : Value) (hg : g < lo ∨ hi ≤ g) : Own (w.setCell ⟨g, i, none⟩ u) lo hi e v cs :=
  h.keep fun k h1 h2 => Below.heap_setCell _ _ _ _ (by show k ≠ g; omega)
theorem Own.one {w : World} {lo hi : Nat} {e : TypeId} {v : Value} {cs : List Value} (h : Own w lo hi e v cs) : v.oneCell' = true := by
  obtain ⟨ao, cap, rfl⟩ := h.len
  rfl
theorem Own.form {w : World} {lo hi : Nat} {e : TypeId} {v : Value} {cs : List Value} (h : Own w lo hi e v cs) : ∃ ao L cap, v = .slice ao L cap ∧ L ≤ cs.length ∧ cs.length ≤ L := by
  obtain ⟨ao, cap, rfl⟩ := h.len
  exact ⟨ao, _, cap, rfl, Nat.le_refl _, Nat.le_refl _⟩
theorem Sl.form {w : World} {v : Value} {cs : List Value} (h : Sl w v cs) : ∃ ao cap, v = .slice ao cs.length cap ∧ cs.length ≤ cap := by
  obtain ⟨ao, cap, rfl, hc, _⟩ := h
  exact ⟨ao, cap, rfl, hc⟩

end Go.Proofs.YtbopliahafkecaaGreatDoor.Mem

/- Appends to what a call owns: only that row turns; what lies elsewhere stays, whatever its place. -/
namespace Go.Proofs.YtbopliahafkecaaGreatDoor.Mem
open Go.RowKit Go.Proofs.YtbopliahafkecaaGreatDoor.Laws
set_option linter.unusedVariables false
set_option linter.unusedSimpArgs false

theorem Own.gro {w w' : World} {lo hi : Nat} {e : TypeId} {v : Value} {cs : List Value} {r : Option Nat} (h : Own w lo hi e v cs) (g : w.grownBy w' r) (hne : ∀ k, v.ownBlock = some k → r ≠ some k) : Own w' lo hi e v cs := by
  obtain ⟨⟨h1, h2⟩, h3⟩ := h
  refine ⟨⟨h1, ?_⟩, h3⟩
  rcases h2 with h2 | ⟨b, cap, cur, rfl, hb, hg, q⟩
  · exact .inl h2
  · exact .inr ⟨b, cap, cur, rfl, hb, by rw [g.block b (Array.getElem?_eq_some_iff.1 hg).1 (fun e => hne b rfl e.symm)]; exact hg, q⟩
theorem rowGro {w w' : World} {k : Nat} {o : Obj} {r : Option Nat} (h : w.heap[k]? = some o) (g : w.grownBy w' r) (hne : r ≠ some k) : w'.heap[k]? = some o := by
  rw [g.block k (Array.getElem?_eq_some_iff.1 h).1 (fun e => hne e.symm)]
  exact h
theorem cellGro {w w' : World} {p : Addr} {x : Value} {r : Option Nat} (h : w.cell? p = some x) (g : w.grownBy w' r) (hne : r ≠ some p.block) : w'.cell? p = some x := g.cell h (fun e => hne e.symm)
theorem belowGro {w0 w w' : World} {n : Nat} {r : Option Nat} (h : Below n w0 w) (g : w.grownBy w' r) (hn : n ≤ w.heap.size) (hr : ∀ k, r = some k → n ≤ k) : Below n w0 w' := h.grown g hn hr
/-- a row of another type is not what is owned -/
theorem Own.neRow {w : World} {lo hi g : Nat} {e t : TypeId} {v : Value} {cs : List Value} {cs' : Array Value} {fr : Nat × Nat} (h : Own w lo hi e v cs) (hr : w.heap[g]? = some (.cells cs' t fr)) (ht : t ≠ e) : v.ownBlock ≠ some g := by
  intro hv
  obtain ⟨⟨h1, h2⟩, h3⟩ := h
  rcases h2 with ⟨rfl, _⟩ | ⟨g', cap, cur, rfl, hb, hg, r⟩
  · simp [Value.ownBlock] at hv
  · simp [Value.ownBlock] at hv
    subst hv
    rw [hg] at hr
    simp at hr
    exact ht hr.2.1.symm
/-- two that are owned, of unlike types, lie apart -/
theorem Own.neOwn {w : World} {lo hi lo' hi' : Nat} {e e' : TypeId} {v v' : Value} {cs cs' : List Value} (h : Own w lo hi e v cs) (h' : Own w lo' hi' e' v' cs') (he : e' ≠ e) : ∀ k, v'.ownBlock = some k → v.ownBlock ≠ some k := by
  intro k hk
  obtain ⟨⟨h1, h2⟩, h3⟩ := h'
  rcases h2 with ⟨rfl, _⟩ | ⟨g, cap, cur, rfl, hb, hg, r⟩
  · simp [Value.ownBlock] at hk
  · simp [Value.ownBlock] at hk
    subst hk
    exact Own.neRow h hg he
/-- two that are owned in ranges apart -/
theorem Own.neFar {w : World} {lo hi lo' hi' : Nat} {e e' : TypeId} {v v' : Value} {cs cs' : List Value} (h : Own w lo hi e v cs) (h' : Own w lo' hi' e' v' cs') (hd : hi ≤ lo' ∨ hi' ≤ lo) : ∀ k, v'.ownBlock = some k → v.ownBlock ≠ some k := by
  intro k hk hv
  have a1 := h.2 k hv
  have a2 := (h.1.lt k hv).1
  have a3 := h'.2 k hk
  have a4 := (h'.1.lt k hk).1
  omega
theorem Own.low {w : World} {lo hi : Nat} {e : TypeId} {v : Value} {cs : List Value} (h : Own w lo hi e v cs) {n : Nat} (hn : n ≤ lo) : ∀ k, v.ownBlock = some k → n ≤ k := fun k hk => Nat.le_trans hn (h.1.lt k hk).1
theorem Own.neLow {w : World} {lo hi g : Nat} {e : TypeId} {v : Value} {cs : List Value} (h : Own w lo hi e v cs) (hg : g < lo ∨ hi ≤ g) : v.ownBlock ≠ some g := by
  intro hv
  have a1 := h.2 g hv
  have a2 := (h.1.lt g hv).1
  omega
/-- an append as one step of a region that draws its order: only the row turns -/
theorem step_appG {P : Program} {ops : Array Oper} {o : Oper} {a : Act} {w : World} {K : Act → World → Prop} {Q : Exit → Act → World → Prop} {E : Prop}
    (hw : Region.wanted o (yielded ops a.tmps) = true) (s x : Operand) (t : TypeId) (hop : o.op = Op.call { callee := Callee.builtin Builtin.append, args := #[s, x], argTypes := #[t, t] })
    (e : TypeId) (i : TypeInfo) (z : Value) (bytes : Nat) (ht : P.underlying t = some (.slice e)) (hi : P.info? e = some i) (hz : i.zero = some z) (hsize : i.size = 1) (hby : i.bytes = bytes) (hzs : z.cells.size = 1)
    (lo : Nat) (v : Value) (cs : List Value) (hs : a.eval s = v) (hown : Own w lo w.heap.size e v cs) (y : Value) (hx : a.eval x = y) (news : List Value) (hsl : Sl w y news)
    (h1 : ∀ u ∈ news, u.oneCell' = true) (h63 : cs.length + news.length ≤ maxLen) (hb : (cs.length + news.length) * bytes ≤ 140737488355328) (hlo : lo ≤ w.heap.size)
    (hK : ∀ v' w', Own w' lo w'.heap.size e v' (cs ++ news) → w.grownBy w' v.ownBlock → K (a.put o.dst v') w') : if Region.wanted o (yielded ops a.tmps) = true then Oper.wp P o a w K Q else E := by
  rw [if_pos hw]
  obtain ⟨ao, cap, rfl, hc, hn, hr⟩ := hsl
  cases ao with
  | none =>
    have hcap := hn rfl
    have hnil : news = [] := List.eq_nil_of_length_eq_zero (by omega)
    subst hnil
    subst hcap
    have hrun := run_append_owned_none (P := P) (w := w) lo t o.type e i 1 ht hi v cs.length cs hown.1
    unfold Oper.wp
    simp [execOp, hop, resolve, invoke, builtin, hs, hx, hrun, Result.andThen]
    exact hK v w (by simpa using hown) (World.grownBy.refl _ _)
  | some ad =>
    refine wp_append_own w s x t hop lo e i z 1 bytes ht hi hz hsize hby hzs (by decide) v cs.length cs hs hown.1 ad news.length cap news hx (by simp) ?_ h1 h63 hb hlo ?_
    · intro j u hj
      have hlt : j < news.length := (List.getElem?_eq_some_iff.1 hj).1
      obtain ⟨b, off, he, hcell⟩ := hr (by omega)
      obtain rfl := Option.some.inj he
      rw [Addr.add_lit, hcell j hlt, hj]
    · intro v' w' ho hgr _
      exact hK v' w' (Own.of ho) hgr
theorem wpl_strG {P : Program} (w : World) {ops : Array Oper} {rest : List Oper} {o : Oper} {a : Act} {Q : Exit → Act → World → Prop}
    (hg : o.guard = none) (s x : Operand) (t u : TypeId) (hop : o.op = Op.call { callee := Callee.builtin Builtin.append, args := #[s, x], argTypes := #[t, u] })
    (e : TypeId) (i : TypeInfo) (ht : P.underlying t = some (.slice e)) (hu : P.underlying u = some .string) (hi : P.info? e = some i) (hz : i.zero = some (.int .u8 0)) (hsize : i.size = 1) (hby : i.bytes = 1)
    (lo : Nat) (v : Value) (xs : List Int) (hs : a.eval s = v) (hown : Own w lo w.heap.size e v (bs xs)) (y : ByteArray) (hx : a.eval x = .string y)
    (hb : xs.length + y.size ≤ 140737488355328) (hlo : lo ≤ w.heap.size)
    (hK : ∀ v' w', Own w' lo w'.heap.size e v' (bs (xs ++ sb y)) → w.grownBy w' v.ownBlock → wpList P ops Q rest (a.put o.dst v') w') : wpList P ops Q (o :: rest) a w := by
  refine Lib.wpList_append_own_string w hg s x t u hop lo e i ht hu hi hz hsize hby v (bs xs).length (bs xs) hs hown.1 y hx (by rw [bs_len]; unfold maxLen; omega) (by rw [bs_len]; omega) hlo ?_
  intro v' w' ho hgr _
  rw [sb_cells, ← bs_app] at ho
  exact hK v' w' (Own.of ho) hgr

end Go.Proofs.YtbopliahafkecaaGreatDoor.Mem

/- Stores into a part of a row: the row has the new cells then, all else stays. -/
namespace Go.Proofs.YtbopliahafkecaaGreatDoor.Mem
open Go.RowKit Go.Proofs.YtbopliahafkecaaGreatDoor.Laws
set_option linter.unusedVariables false
set_option linter.unusedSimpArgs false

theorem gro_setCells (w : World) (g o : Nat) (vs : List Value) : w.grownBy (w.setCells g o vs) (some g) := by
  have h : ∀ (vs : List Value) (o : Nat) (w : World), (w.setCells g o vs).os = w.os ∧ (w.setCells g o vs).tape = w.tape ∧ (w.setCells g o vs).output = w.output := by
    intro vs
    induction vs with
    | nil => intro o w; exact ⟨rfl, rfl, rfl⟩
    | cons v r ih => intro o w; rw [World.setCells]; exact ih (o + 1) _
  obtain ⟨h1, h2, h3⟩ := h vs o w
  exact ⟨h1, h2, h3, by rw [size_setCells]; exact Nat.le_refl _, fun k _ hk => heap_setCells_other g k (fun e => hk (by rw [e])) vs o w⟩
theorem gro_setRow (w : World) (g : Nat) (cs : Array Value) : w.grownBy (w.setRow g cs) (some g) :=
  ⟨rfl, rfl, rfl, by rw [size_setRow]; exact Nat.le_refl _, fun k _ hk => setRow_other _ _ _ _ (fun e => hk (by rw [e]))⟩
theorem size_same {w w' : World} (h : w.grownBy w' none) : w.heap.size ≤ w'.heap.size := h.size
/-- several cells of a row are stored: the row has them then, all else stays -/
theorem wp_partG {P : Program} {op : Oper} {a : Act} {w : World} {K : Act → World → Prop} {Q : Exit → Act → World → Prop} (ty : TypeId) (x y : Operand) (ho : op.op = .store ty x y)
    (b o : Nat) (cells : Array Value) (hx : a.eval x = .pointer (some ⟨b, o, none⟩)) (hy : a.eval y = .agg cells) (cur : List Value) (t : TypeId) (hr : w.heap[b]? = some (.cells cur.toArray t (0, 0)))
    (hn : o + cells.size ≤ cur.length) (hi : (P.info? ty).map (·.size) = some cells.size) (h1 : cells.all (·.oneCell') = true) (new : List Value) (hnew : putL cur o cells.toList = new)
    (h : ∀ w', w'.heap[b]? = some (.cells new.toArray t (0, 0)) → w.grownBy w' (some b) → K (a.put op.dst undef) w') : op.wp P a w K Q := by
  refine wp_store_mid ty x y ho b o cells hx hy (there_row hr (by simpa using hn)) hi h1 (h _ ?_ (gro_setCells _ _ _ _))
  rw [← hnew]
  exact heap_setCells b cells.toList o w cur t hr
theorem wpl_partG {P : Program} {ops : Array Oper} {rest : List Oper} {op : Oper} {a : Act} {w : World} {Q : Exit → Act → World → Prop} (hgd : op.guard = none) (ty : TypeId) (x y : Operand) (ho : op.op = .store ty x y)
    (b o : Nat) (cells : Array Value) (hx : a.eval x = .pointer (some ⟨b, o, none⟩)) (hy : a.eval y = .agg cells) (cur : List Value) (t : TypeId) (hr : w.heap[b]? = some (.cells cur.toArray t (0, 0)))
    (hn : o + cells.size ≤ cur.length) (hi : (P.info? ty).map (·.size) = some cells.size) (h1 : cells.all (·.oneCell') = true) (new : List Value) (hnew : putL cur o cells.toList = new)
    (h : ∀ w', w'.heap[b]? = some (.cells new.toArray t (0, 0)) → w.grownBy w' (some b) → wpList P ops Q rest (a.put op.dst undef) w') : wpList P ops Q (op :: rest) a w :=
  wpList_plain hgd fun _ hK => wp_partG ty x y ho b o cells hx hy cur t hr hn hi h1 new hnew (fun w' r g => hK _ _ (h w' r g))
/-- one cell of a row is stored -/
theorem wp_oneG {P : Program} {op : Oper} {a : Act} {w : World} {K : Act → World → Prop} {Q : Exit → Act → World → Prop} (ty : TypeId) (x y : Operand) (ho : op.op = .store ty x y)
    (b o : Nat) (v : Value) (hx : a.eval x = .pointer (some ⟨b, o, none⟩)) (hy : a.eval y = v) (cur : List Value) (t : TypeId) (hr : w.heap[b]? = some (.cells cur.toArray t (0, 0)))
    (hn : o + 1 ≤ cur.length) (hi : (P.info? ty).map (·.size) = some 1) (h1 : v.oneCell' = true) (new : List Value) (hnew : putL cur o [v] = new)
    (h : ∀ w', w'.heap[b]? = some (.cells new.toArray t (0, 0)) → w.grownBy w' (some b) → K (a.put op.dst undef) w') : op.wp P a w K Q := by
  have ht := there_row (n := 1) hr (by simpa using hn)
  have hc : v.cells = #[v] := by cases v <;> first | rfl | cases h1
  have hrun : (storeVar ty ⟨b, o, none⟩ v).run P w = .ok () (w.setCells b o [v]) := by
    have := run_storeCells_cells (P := P) b o [v] 0 w (fun j hj => by simpa using (ht j (by simpa using hj)).1) (fun j hj => by simpa using (ht j (by simpa using hj)).2) (fun u hu => by simp at hu; subst hu; exact h1)
    cases hq : P.info? ty with
    | none => simp [hq] at hi
    | some i =>
      have hs : i.size = 1 := by simpa [hq] using hi
      simp only [Nat.add_zero] at this
      simp [storeVar, sizeOf, typeInfo, hq, hc, hs, this]
  have hK := h (w.setCells b o [v]) (by rw [← hnew]; exact heap_setCells b [v] o w cur t hr) (gro_setCells _ _ _ _)
  unfold Oper.wp execOp
  simp only [ho, hx, hy, Instr.storeAt, Instr.sureAddr, Sem.run_bind, Sem.run_pure, Result.andThen_ok, hrun]
  exact hK
theorem wpl_oneG {P : Program} {ops : Array Oper} {rest : List Oper} {op : Oper} {a : Act} {w : World} {Q : Exit → Act → World → Prop} (hgd : op.guard = none) (ty : TypeId) (x y : Operand) (ho : op.op = .store ty x y)
    (b o : Nat) (v : Value) (hx : a.eval x = .pointer (some ⟨b, o, none⟩)) (hy : a.eval y = v) (cur : List Value) (t : TypeId) (hr : w.heap[b]? = some (.cells cur.toArray t (0, 0)))
    (hn : o + 1 ≤ cur.length) (hi : (P.info? ty).map (·.size) = some 1) (h1 : v.oneCell' = true) (new : List Value) (hnew : putL cur o [v] = new)
    (h : ∀ w', w'.heap[b]? = some (.cells new.toArray t (0, 0)) → w.grownBy w' (some b) → wpList P ops Q rest (a.put op.dst undef) w') : wpList P ops Q (op :: rest) a w :=
  wpList_plain hgd fun _ hK => wp_oneG ty x y ho b o v hx hy cur t hr hn hi h1 new hnew (fun w' r g => hK _ _ (h w' r g))

end Go.Proofs.YtbopliahafkecaaGreatDoor.Mem

/- Blocks that were made one behind the other; no program is named here. -/
namespace Go.Proofs.YtbopliahafkecaaGreatDoor.Mem
open Go.RowKit
set_option linter.unusedVariables false
set_option linter.unusedSimpArgs false

theorem alloc_nth1_0 (w : World) (O0 : Obj) : (w.alloc O0).heap[w.heap.size]? = some O0 := by
  exact heap_alloc_new w O0
theorem alloc_nth2_0 (w : World) (O0 O1 : Obj) : ((w.alloc O0).alloc O1).heap[w.heap.size]? = some O0 := by
  rw [heap_alloc_old _ _ (by simp; try omega)]
  exact alloc_nth1_0 w O0
theorem alloc_nth2_1 (w : World) (O0 O1 : Obj) : ((w.alloc O0).alloc O1).heap[w.heap.size + 1]? = some O1 := by
  have h := heap_alloc_new (w.alloc O0) O1
  simpa using h
theorem alloc_nth3_0 (w : World) (O0 O1 O2 : Obj) : (((w.alloc O0).alloc O1).alloc O2).heap[w.heap.size]? = some O0 := by
  rw [heap_alloc_old _ _ (by simp; try omega)]
  exact alloc_nth2_0 w O0 O1
theorem alloc_nth3_1 (w : World) (O0 O1 O2 : Obj) : (((w.alloc O0).alloc O1).alloc O2).heap[w.heap.size + 1]? = some O1 := by
  rw [heap_alloc_old _ _ (by simp; try omega)]
  exact alloc_nth2_1 w O0 O1
theorem alloc_nth3_2 (w : World) (O0 O1 O2 : Obj) : (((w.alloc O0).alloc O1).alloc O2).heap[w.heap.size + 1 + 1]? = some O2 := by
  have h := heap_alloc_new ((w.alloc O0).alloc O1) O2
  simpa using h
theorem alloc_nth4_0 (w : World) (O0 O1 O2 O3 : Obj) : ((((w.alloc O0).alloc O1).alloc O2).alloc O3).heap[w.heap.size]? = some O0 := by
  rw [heap_alloc_old _ _ (by simp; try omega)]
  exact alloc_nth3_0 w O0 O1 O2
theorem alloc_nth4_1 (w : World) (O0 O1 O2 O3 : Obj) : ((((w.alloc O0).alloc O1).alloc O2).alloc O3).heap[w.heap.size + 1]? = some O1 := by
  rw [heap_alloc_old _ _ (by simp; try omega)]
  exact alloc_nth3_1 w O0 O1 O2
theorem alloc_nth4_2 (w : World) (O0 O1 O2 O3 : Obj) : ((((w.alloc O0).alloc O1).alloc O2).alloc O3).heap[w.heap.size + 1 + 1]? = some O2 := by
  rw [heap_alloc_old _ _ (by simp; try omega)]
  exact alloc_nth3_2 w O0 O1 O2
theorem alloc_nth4_3 (w : World) (O0 O1 O2 O3 : Obj) : ((((w.alloc O0).alloc O1).alloc O2).alloc O3).heap[w.heap.size + 1 + 1 + 1]? = some O3 := by
  have h := heap_alloc_new (((w.alloc O0).alloc O1).alloc O2) O3
  simpa using h
theorem alloc_nth5_0 (w : World) (O0 O1 O2 O3 O4 : Obj) : (((((w.alloc O0).alloc O1).alloc O2).alloc O3).alloc O4).heap[w.heap.size]? = some O0 := by
  rw [heap_alloc_old _ _ (by simp; try omega)]
  exact alloc_nth4_0 w O0 O1 O2 O3
theorem alloc_nth5_1 (w : World) (O0 O1 O2 O3 O4 : Obj) : (((((w.alloc O0).alloc O1).alloc O2).alloc O3).alloc O4).heap[w.heap.size + 1]? = some O1 := by
  rw [heap_alloc_old _ _ (by simp; try omega)]
  exact alloc_nth4_1 w O0 O1 O2 O3
theorem alloc_nth5_2 (w : World) (O0 O1 O2 O3 O4 : Obj) : (((((w.alloc O0).alloc O1).alloc O2).alloc O3).alloc O4).heap[w.heap.size + 1 + 1]? = some O2 := by
  rw [heap_alloc_old _ _ (by simp; try omega)]
  exact alloc_nth4_2 w O0 O1 O2 O3
theorem alloc_nth5_3 (w : World) (O0 O1 O2 O3 O4 : Obj) : (((((w.alloc O0).alloc O1).alloc O2).alloc O3).alloc O4).heap[w.heap.size + 1 + 1 + 1]? = some O3 := by
  rw [heap_alloc_old _ _ (by simp; try omega)]
  exact alloc_nth4_3 w O0 O1 O2 O3
theorem alloc_nth5_4 (w : World) (O0 O1 O2 O3 O4 : Obj) : (((((w.alloc O0).alloc O1).alloc O2).alloc O3).alloc O4).heap[w.heap.size + 1 + 1 + 1 + 1]? = some O4 := by
  have h := heap_alloc_new ((((w.alloc O0).alloc O1).alloc O2).alloc O3) O4
  simpa using h

end Go.Proofs.YtbopliahafkecaaGreatDoor.Mem
