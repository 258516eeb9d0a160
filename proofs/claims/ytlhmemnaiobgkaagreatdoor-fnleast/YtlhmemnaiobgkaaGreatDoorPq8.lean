/- Texts in one: Rec, Gro, Gro2, Nth, Ter, CrA, Mod1, Mod2, Mod3. -/
import Derived.Test.YtlhmemnaiobgkaaGreatDoorPq7
import Derived.Test.YtlhmemnaiobgkaaGreatDoorPq3
import Derived.Test.YtlhmemnaiobgkaaGreatDoorPq6
import Derived.Test.YtlhmemnaiobgkaaGreatDoorPq5
import Derived.Laws.ResultCell
import Derived.Laws.CopyOwn
import Derived.BigQuiet
import Derived.Deep.MidRow
import Derived.Deep.RegionHeld3
/- Rows of cells that hold a struct, beside slices that a call owns; no program is named here. -/
namespace Go.Proofs.YtlhmemnaiobgkaaGreatDoor.Mem
open Go.RowKit
set_option linter.unusedVariables false
set_option linter.unusedSimpArgs false

theorem row_at {w : World} {g : Nat} {cs : Array Value} {t : TypeId} {fr : Nat × Nat} (h : w.heap[g]? = some (.cells cs t fr)) (j : Nat) : w.cell? ⟨g, j, none⟩ = cs[j]? := by simp [World.cell?, h]
theorem row_free {w : World} {g : Nat} {cs : Array Value} {t : TypeId} (h : w.heap[g]? = some (.cells cs t (0, 0))) (j : Nat) : w.frozen? ⟨g, j, none⟩ = false := by simp [World.frozen?, h]
theorem row_set {w : World} {g : Nat} {cs : Array Value} {t : TypeId} {fr : Nat × Nat} (h : w.heap[g]? = some (.cells cs t fr)) (i : Nat) (v : Value) : (w.setCell ⟨g, i, none⟩ v).heap[g]? = some (.cells (cs.setIfInBounds i v) t fr) := by
  simp [World.setCell, Array.getElem?_modify, h]
theorem cell_row {w : World} {g : Nat} {cs : Array Value} {p : Addr} {x : Value} (hp : p.block ≠ g) (h : w.cell? p = some x) : (w.setRow g cs).cell? p = some x := by
  have e := setRow_other w g p.block cs hp
  unfold World.cell? at h ⊢
  rw [e]
  exact h
theorem keepR {W W' : World} {p : Addr} {x : Value} (h : W.cell? p = some x) (b : Below W.heap.size W W') : W'.cell? p = some x := by
  rw [b.cell (World.block_lt_of_cell? W p h)]; exact h
theorem res_row_tmp {P : Program} {fn : Func} {p u : Tmp} {ty : TypeId} (h : fn.results = #[.cell p ty, .tmp u]) (tmps : Array Value) (w : World) (g : Nat) (t : TypeId) (cs : Array Value) (fr : Nat × Nat) (d : TypeDesc)
    (hp : tmps.getD p undef = .pointer (some ⟨g, 0, none⟩)) (hg : w.heap[g]? = some (.cells cs t fr))
    (hu : P.underlying ty = some d) (hd : (match d with | .struct _ | .array _ _ => true | _ => false) = true) (hi : (P.info? ty).map (·.size) = some cs.size) :
    (results fn tmps).run P w = .ok (.tuple #[.agg cs, tmps.getD u undef]) w := by
  have hp' : tmps[p]?.getD undef = .pointer (some ⟨g, 0, none⟩) := by simpa using hp
  simp [results, h, hp', asAddr, run_loadVar_row w g t ty cs fr d hg hu hd hi]
theorem quietE {P : Program} {f : FuncId} {args : Array Value} {w : World} {n : Nat} {v : Value}
    (h : Calls P f args (w.drewN n) fun e w' => e = .returned v ∧ w.drewN n = w') : Calls P f args (w.drewN n) fun e w'' => e = .returned v ∧ ∃ m, w'' = w.drewN m :=
  h.mono fun _ _ ⟨he, hm⟩ => ⟨he, n, hm.symm⟩
/-- the beginning of what is owned is owned -/
theorem Own.front {w : World} {lo hi : Nat} {e : TypeId} {ao : Option Addr} {n cap : Nat} {cs : List Value} (h : Own w lo hi e (.slice ao n cap) cs) (k : Nat) (hk : k ≤ cs.length) (hn : ao ≠ none) : Own w lo hi e (.slice ao k cap) (cs.take k) := by
  obtain ⟨a, rfl⟩ : ∃ a, ao = some a := by
    cases ao with
    | none => exact absurd rfl hn
    | some a => exact ⟨a, rfl⟩
  obtain ⟨⟨h1, h2⟩, h3⟩ := h
  have hl : (cs.take k).length = k := by simp; omega
  refine ⟨⟨by rw [hl, Nat.mul_one], ?_⟩, fun g hg => h3 g hg⟩
  rcases h2 with ⟨he, _⟩ | ⟨g, cap', cur, he, hb, hg, hnc, hcm, hcs, ht⟩
  · simp only [Value.slice.injEq] at he; exact absurd he.1 hn
  · simp only [Value.slice.injEq, Option.some.injEq] at he
    obtain ⟨rfl, rfl, rfl⟩ := he
    refine .inr ⟨g, cap, cur, by rw [hl], hb, hg, by rw [hl]; omega, hcm, hcs, ?_⟩
    rw [hl, ← ht, List.take_take, Nat.mul_one, Nat.mul_one, Nat.min_eq_left hk]
theorem Own.setRow {w : World} {lo hi g : Nat} {e : TypeId} {v : Value} {cs : List Value} (h : Own w lo hi e v cs) (cs' : Array Value) (hg : g < lo ∨ hi ≤ g) : Own (w.setRow g cs') lo hi e v cs :=
  h.keep fun k h1 h2 => setRow_other _ _ _ _ (by omega)
theorem Own.setCell {w : World} {lo hi g i : Nat} {e : TypeId} {v : Value} {cs : List Value} (h : Own w lo hi e v cs) (u : Value) (hg : g < lo ∨ hi ≤ g) : Own (w.setCell ⟨g, i, none⟩ u) lo hi e v cs :=
  h.keep fun k h1 h2 => Below.heap_setCell _ _ _ _ (by show k ≠ g; omega)
theorem Own.one {w : World} {lo hi : Nat} {e : TypeId} {v : Value} {cs : List Value} (h : Own w lo hi e v cs) : v.oneCell' = true := by
  obtain ⟨ao, cap, rfl⟩ := h.len
  rfl
theorem Own.form {w : World} {lo hi : Nat} {e : TypeId} {v : Value} {cs : List Value} (h : Own w lo hi e v cs) : ∃ ao L cap, v = .slice ao L cap ∧ L ≤ cs.length ∧ cs.length ≤ L := by
  obtain ⟨ao, cap, rfl⟩ := h.len
  exact ⟨ao, _, cap, rfl, Nat.le_refl _, Nat.le_refl _⟩
theorem Sl.form {w : World} {v : Value} {cs : List Value} (h : Sl w v cs) : ∃ ao cap, v = .slice ao cs.length cap ∧ cs.length ≤ cap := by
  obtain ⟨ao, cap, rfl, hc, _⟩ := h
  exact ⟨ao, cap, rfl, hc⟩

end Go.Proofs.YtlhmemnaiobgkaaGreatDoor.Mem

/- Appends to what a call owns: only that row turns; what lies elsewhere stays, whatever its place. -/
namespace Go.Proofs.YtlhmemnaiobgkaaGreatDoor.Mem
open Go.RowKit Go.Proofs.YtlhmemnaiobgkaaGreatDoor.Laws
set_option linter.unusedVariables false
set_option linter.unusedSimpArgs false

theorem Own.gro {w w' : World} {lo hi : Nat} {e : TypeId} {v : Value} {cs : List Value} {r : Option Nat} (h : Own w lo hi e v cs) (g : w.grownBy w' r) (hne : ∀ k, v.ownBlock = some k → r ≠ some k) : Own w' lo hi e v cs := by
  obtain ⟨⟨h1, h2⟩, h3⟩ := h
  refine ⟨⟨h1, ?_⟩, h3⟩
  rcases h2 with h2 | ⟨b, cap, cur, rfl, hb, hg, q⟩
  · exact .inl h2
  · exact .inr ⟨b, cap, cur, rfl, hb, by rw [g.block b (Array.getElem?_eq_some_iff.1 hg).1 (fun e => hne b rfl e.symm)]; exact hg, q⟩
theorem rowGro {w w' : World} {k : Nat} {o : Obj} {r : Option Nat} (h : w.heap[k]? = some o) (g : w.grownBy w' r) (hne : r ≠ some k) : w'.heap[k]? = some o := by
  rw [g.block k (Array.getElem?_eq_some_iff.1 h).1 (fun e => hne e.symm)]
  exact h
theorem cellGro {w w' : World} {p : Addr} {x : Value} {r : Option Nat} (h : w.cell? p = some x) (g : w.grownBy w' r) (hne : r ≠ some p.block) : w'.cell? p = some x := g.cell h (fun e => hne e.symm)
theorem belowGro {w0 w w' : World} {n : Nat} {r : Option Nat} (h : Below n w0 w) (g : w.grownBy w' r) (hn : n ≤ w.heap.size) (hr : ∀ k, r = some k → n ≤ k) : Below n w0 w' := h.grown g hn hr
/-- a row of another type is not what is owned -/
theorem Own.neRow {w : World} {lo hi g : Nat} {e t : TypeId} {v : Value} {cs : List Value} {cs' : Array Value} {fr : Nat × Nat} (h : Own w lo hi e v cs) (hr : w.heap[g]? = some (.cells cs' t fr)) (ht : t ≠ e) : v.ownBlock ≠ some g := by
  intro hv
  obtain ⟨⟨h1, h2⟩, h3⟩ := h
  rcases h2 with ⟨rfl, _⟩ | ⟨g', cap, cur, rfl, hb, hg, r⟩
  · simp [Value.ownBlock] at hv
  · simp [Value.ownBlock] at hv
    subst hv
    rw [hg] at hr
    simp at hr
    exact ht hr.2.1.symm
/-- two that are owned, of unlike types, lie apart -/
theorem Own.neOwn {w : World} {lo hi lo' hi' : Nat} {e e' : TypeId} {v v' : Value} {cs cs' : List Value} (h : Own w lo hi e v cs) (h' : Own w lo' hi' e' v' cs') (he : e' ≠ e) : ∀ k, v'.ownBlock = some k → v.ownBlock ≠ some k := by
  intro k hk
  obtain ⟨⟨h1, h2⟩, h3⟩ := h'
  rcases h2 with ⟨rfl, _⟩ | ⟨g, cap, cur, rfl, hb, hg, r⟩
  · simp [Value.ownBlock] at hk
  · simp [Value.ownBlock] at hk
    subst hk
    exact Own.neRow h hg he
/-- two that are owned in ranges apart -/
theorem Own.neFar {w : World} {lo hi lo' hi' : Nat} {e e' : TypeId} {v v' : Value} {cs cs' : List Value} (h : Own w lo hi e v cs) (h' : Own w lo' hi' e' v' cs') (hd : hi ≤ lo' ∨ hi' ≤ lo) : ∀ k, v'.ownBlock = some k → v.ownBlock ≠ some k := by
  intro k hk hv
  have a1 := h.2 k hv
  have a2 := (h.1.lt k hv).1
  have a3 := h'.2 k hk
  have a4 := (h'.1.lt k hk).1
  omega
theorem Own.low {w : World} {lo hi : Nat} {e : TypeId} {v : Value} {cs : List Value} (h : Own w lo hi e v cs) {n : Nat} (hn : n ≤ lo) : ∀ k, v.ownBlock = some k → n ≤ k := fun k hk => Nat.le_trans hn (h.1.lt k hk).1
theorem Own.neLow {w : World} {lo hi g : Nat} {e : TypeId} {v : Value} {cs : List Value} (h : Own w lo hi e v cs) (hg : g < lo ∨ hi ≤ g) : v.ownBlock ≠ some g := by
  intro hv
  have a1 := h.2 g hv
  have a2 := (h.1.lt g hv).1
  omega
/-- an append as one step of a region that draws its order: only the row turns -/
theorem step_appG {P : Program} {ops : Array Oper} {o : Oper} {a : Act} {w : World} {K : Act → World → Prop} {Q : Exit → Act → World → Prop} {E : Prop}
    (hw : Region.wanted o (yielded ops a.tmps) = true) (s x : Operand) (t : TypeId) (hop : o.op = Op.call { callee := Callee.builtin Builtin.append, args := #[s, x], argTypes := #[t, t] })
    (e : TypeId) (i : TypeInfo) (z : Value) (bytes : Nat) (ht : P.underlying t = some (.slice e)) (hi : P.info? e = some i) (hz : i.zero = some z) (hsize : i.size = 1) (hby : i.bytes = bytes) (hzs : z.cells.size = 1)
    (lo : Nat) (v : Value) (cs : List Value) (hs : a.eval s = v) (hown : Own w lo w.heap.size e v cs) (y : Value) (hx : a.eval x = y) (news : List Value) (hsl : Sl w y news)
    (h1 : ∀ u ∈ news, u.oneCell' = true) (h63 : cs.length + news.length ≤ maxLen) (hb : (cs.length + news.length) * bytes ≤ 140737488355328) (hlo : lo ≤ w.heap.size)
    (hK : ∀ v' w', Own w' lo w'.heap.size e v' (cs ++ news) → w.grownBy w' v.ownBlock → K (a.put o.dst v') w') : if Region.wanted o (yielded ops a.tmps) = true then Oper.wp P o a w K Q else E := by
  rw [if_pos hw]
  obtain ⟨ao, cap, rfl, hc, hn, hr⟩ := hsl
  cases ao with
  | none =>
    have hcap := hn rfl
    have hnil : news = [] := List.eq_nil_of_length_eq_zero (by omega)
    subst hnil
    subst hcap
    have hrun := run_append_owned_none (P := P) (w := w) lo t o.type e i 1 ht hi v cs.length cs hown.1
    unfold Oper.wp
    simp [execOp, hop, resolve, invoke, builtin, hs, hx, hrun, Result.andThen]
    exact hK v w (by simpa using hown) (World.grownBy.refl _ _)
  | some ad =>
    refine wp_append_own w s x t hop lo e i z 1 bytes ht hi hz hsize hby hzs (by decide) v cs.length cs hs hown.1 ad news.length cap news hx (by simp) ?_ h1 h63 hb hlo ?_
    · intro j u hj
      have hlt : j < news.length := (List.getElem?_eq_some_iff.1 hj).1
      obtain ⟨b, off, he, hcell⟩ := hr (by omega)
      obtain rfl := Option.some.inj he
      rw [Addr.add_lit, hcell j hlt, hj]
    · intro v' w' ho hgr _
      exact hK v' w' (Own.of ho) hgr
theorem wpl_strG {P : Program} (w : World) {ops : Array Oper} {rest : List Oper} {o : Oper} {a : Act} {Q : Exit → Act → World → Prop}
    (hg : o.guard = none) (s x : Operand) (t u : TypeId) (hop : o.op = Op.call { callee := Callee.builtin Builtin.append, args := #[s, x], argTypes := #[t, u] })
    (e : TypeId) (i : TypeInfo) (ht : P.underlying t = some (.slice e)) (hu : P.underlying u = some .string) (hi : P.info? e = some i) (hz : i.zero = some (.int .u8 0)) (hsize : i.size = 1) (hby : i.bytes = 1)
    (lo : Nat) (v : Value) (xs : List Int) (hs : a.eval s = v) (hown : Own w lo w.heap.size e v (bs xs)) (y : ByteArray) (hx : a.eval x = .string y)
    (hb : xs.length + y.size ≤ 140737488355328) (hlo : lo ≤ w.heap.size)
    (hK : ∀ v' w', Own w' lo w'.heap.size e v' (bs (xs ++ sb y)) → w.grownBy w' v.ownBlock → wpList P ops Q rest (a.put o.dst v') w') : wpList P ops Q (o :: rest) a w := by
  refine Lib.wpList_append_own_string w hg s x t u hop lo e i ht hu hi hz hsize hby v (bs xs).length (bs xs) hs hown.1 y hx (by rw [bs_len]; unfold maxLen; omega) (by rw [bs_len]; omega) hlo ?_
  intro v' w' ho hgr _
  rw [sb_cells, ← bs_app] at ho
  exact hK v' w' (Own.of ho) hgr

end Go.Proofs.YtlhmemnaiobgkaaGreatDoor.Mem

/- Stores into a part of a row: the row has the new cells then, all else stays. -/
namespace Go.Proofs.YtlhmemnaiobgkaaGreatDoor.Mem
open Go.RowKit Go.Proofs.YtlhmemnaiobgkaaGreatDoor.Laws
set_option linter.unusedVariables false
set_option linter.unusedSimpArgs false

theorem gro_setCells (w : World) (g o : Nat) (vs : List Value) : w.grownBy (w.setCells g o vs) (some g) := by
  have h : ∀ (vs : List Value) (o : Nat) (w : World), (w.setCells g o vs).os = w.os ∧ (w.setCells g o vs).tape = w.tape ∧ (w.setCells g o vs).output = w.output := by
    intro vs
    induction vs with
    | nil => intro o w; exact ⟨rfl, rfl, rfl⟩
    | cons v r ih => intro o w; rw [World.setCells]; exact ih (o + 1) _
  obtain ⟨h1, h2, h3⟩ := h vs o w
  exact ⟨h1, h2, h3, by rw [size_setCells]; exact Nat.le_refl _, fun k _ hk => heap_setCells_other g k (fun e => hk (by rw [e])) vs o w⟩
theorem gro_setRow (w : World) (g : Nat) (cs : Array Value) : w.grownBy (w.setRow g cs) (some g) :=
  ⟨rfl, rfl, rfl, by rw [size_setRow]; exact Nat.le_refl _, fun k _ hk => setRow_other _ _ _ _ (fun e => hk (by rw [e]))⟩
theorem size_same {w w' : World} (h : w.grownBy w' none) : w.heap.size ≤ w'.heap.size := h.size
/-- several cells of a row are stored: the row has them then, all else stays -/
theorem wp_partG {P : Program} {op : Oper} {a : Act} {w : World} {K : Act → World → Prop} {Q : Exit → Act → World → Prop} (ty : TypeId) (x y : Operand) (ho : op.op = .store ty x y)
    (b o : Nat) (cells : Array Value) (hx : a.eval x = .pointer (some ⟨b, o, none⟩)) (hy : a.eval y = .agg cells) (cur : List Value) (t : TypeId) (hr : w.heap[b]? = some (.cells cur.toArray t (0, 0)))
    (hn : o + cells.size ≤ cur.length) (hi : (P.info? ty).map (·.size) = some cells.size) (h1 : cells.all (·.oneCell') = true) (new : List Value) (hnew : putL cur o cells.toList = new)
    (h : ∀ w', w'.heap[b]? = some (.cells new.toArray t (0, 0)) → w.grownBy w' (some b) → K (a.put op.dst undef) w') : op.wp P a w K Q := by
  refine wp_store_mid ty x y ho b o cells hx hy (there_row hr (by simpa using hn)) hi h1 (h _ ?_ (gro_setCells _ _ _ _))
  rw [← hnew]
  exact heap_setCells b cells.toList o w cur t hr
theorem wpl_partG {P : Program} {ops : Array Oper} {rest : List Oper} {op : Oper} {a : Act} {w : World} {Q : Exit → Act → World → Prop} (hgd : op.guard = none) (ty : TypeId) (x y : Operand) (ho : op.op = .store ty x y)
    (b o : Nat) (cells : Array Value) (hx : a.eval x = .pointer (some ⟨b, o, none⟩)) (hy : a.eval y = .agg cells) (cur : List Value) (t : TypeId) (hr : w.heap[b]? = some (.cells cur.toArray t (0, 0)))
    (hn : o + cells.size ≤ cur.length) (hi : (P.info? ty).map (·.size) = some cells.size) (h1 : cells.all (·.oneCell') = true) (new : List Value) (hnew : putL cur o cells.toList = new)
    (h : ∀ w', w'.heap[b]? = some (.cells new.toArray t (0, 0)) → w.grownBy w' (some b) → wpList P ops Q rest (a.put op.dst undef) w') : wpList P ops Q (op :: rest) a w :=
  wpList_plain hgd fun _ hK => wp_partG ty x y ho b o cells hx hy cur t hr hn hi h1 new hnew (fun w' r g => hK _ _ (h w' r g))
/-- one cell of a row is stored -/
theorem wp_oneG {P : Program} {op : Oper} {a : Act} {w : World} {K : Act → World → Prop} {Q : Exit → Act → World → Prop} (ty : TypeId) (x y : Operand) (ho : op.op = .store ty x y)
    (b o : Nat) (v : Value) (hx : a.eval x = .pointer (some ⟨b, o, none⟩)) (hy : a.eval y = v) (cur : List Value) (t : TypeId) (hr : w.heap[b]? = some (.cells cur.toArray t (0, 0)))
    (hn : o + 1 ≤ cur.length) (hi : (P.info? ty).map (·.size) = some 1) (h1 : v.oneCell' = true) (new : List Value) (hnew : putL cur o [v] = new)
    (h : ∀ w', w'.heap[b]? = some (.cells new.toArray t (0, 0)) → w.grownBy w' (some b) → K (a.put op.dst undef) w') : op.wp P a w K Q := by
  have ht := there_row (n := 1) hr (by simpa using hn)
  have hc : v.cells = #[v] := by cases v <;> first | rfl | cases h1
  have hrun : (storeVar ty ⟨b, o, none⟩ v).run P w = .ok () (w.setCells b o [v]) := by
    have := run_storeCells_cells (P := P) b o [v] 0 w (fun j hj => by simpa using (ht j (by simpa using hj)).1) (fun j hj => by simpa using (ht j (by simpa using hj)).2) (fun u hu => by simp at hu; subst hu; exact h1)
    cases hq : P.info? ty with
    | none => simp [hq] at hi
    | some i =>
      have hs : i.size = 1 := by simpa [hq] using hi
      simp only [Nat.add_zero] at this
      simp [storeVar, sizeOf, typeInfo, hq, hc, hs, this]
  have hK := h (w.setCells b o [v]) (by rw [← hnew]; exact heap_setCells b [v] o w cur t hr) (gro_setCells _ _ _ _)
  unfold Oper.wp execOp
  simp only [ho, hx, hy, Instr.storeAt, Instr.sureAddr, Sem.run_bind, Sem.run_pure, Result.andThen_ok, hrun]
  exact hK
theorem wpl_oneG {P : Program} {ops : Array Oper} {rest : List Oper} {op : Oper} {a : Act} {w : World} {Q : Exit → Act → World → Prop} (hgd : op.guard = none) (ty : TypeId) (x y : Operand) (ho : op.op = .store ty x y)
    (b o : Nat) (v : Value) (hx : a.eval x = .pointer (some ⟨b, o, none⟩)) (hy : a.eval y = v) (cur : List Value) (t : TypeId) (hr : w.heap[b]? = some (.cells cur.toArray t (0, 0)))
    (hn : o + 1 ≤ cur.length) (hi : (P.info? ty).map (·.size) = some 1) (h1 : v.oneCell' = true) (new : List Value) (hnew : putL cur o [v] = new)
    (h : ∀ w', w'.heap[b]? = some (.cells new.toArray t (0, 0)) → w.grownBy w' (some b) → wpList P ops Q rest (a.put op.dst undef) w') : wpList P ops Q (op :: rest) a w :=
  wpList_plain hgd fun _ hK => wp_oneG ty x y ho b o v hx hy cur t hr hn hi h1 new hnew (fun w' r g => hK _ _ (h w' r g))

end Go.Proofs.YtlhmemnaiobgkaaGreatDoor.Mem

/- Blocks that were made one behind the other; no program is named here. -/
namespace Go.Proofs.YtlhmemnaiobgkaaGreatDoor.Mem
open Go.RowKit
set_option linter.unusedVariables false
set_option linter.unusedSimpArgs false

theorem alloc_nth1_0 (w : World) (O0 : Obj) : (w.alloc O0).heap[w.heap.size]? = some O0 := by
  exact heap_alloc_new w O0
theorem alloc_nth2_0 (w : World) (O0 O1 : Obj) : ((w.alloc O0).alloc O1).heap[w.heap.size]? = some O0 := by
  rw [heap_alloc_old _ _ (by simp; try omega)]
  exact alloc_nth1_0 w O0
theorem alloc_nth2_1 (w : World) (O0 O1 : Obj) : ((w.alloc O0).alloc O1).heap[w.heap.size + 1]? = some O1 := by
  have h := heap_alloc_new (w.alloc O0) O1
  simpa using h
theorem alloc_nth3_0 (w : World) (O0 O1 O2 : Obj) : (((w.alloc O0).alloc O1).alloc O2).heap[w.heap.size]? = some O0 := by
  rw [heap_alloc_old _ _ (by simp; try omega)]
  exact alloc_nth2_0 w O0 O1
theorem alloc_nth3_1 (w : World) (O0 O1 O2 : Obj) : (((w.alloc O0).alloc O1).alloc O2).heap[w.heap.size + 1]? = some O1 := by
  rw [heap_alloc_old _ _ (by simp; try omega)]
  exact alloc_nth2_1 w O0 O1
theorem alloc_nth3_2 (w : World) (O0 O1 O2 : Obj) : (((w.alloc O0).alloc O1).alloc O2).heap[w.heap.size + 1 + 1]? = some O2 := by
  have h := heap_alloc_new ((w.alloc O0).alloc O1) O2
  simpa using h
theorem alloc_nth4_0 (w : World) (O0 O1 O2 O3 : Obj) : ((((w.alloc O0).alloc O1).alloc O2).alloc O3).heap[w.heap.size]? = some O0 := by
  rw [heap_alloc_old _ _ (by simp; try omega)]
  exact alloc_nth3_0 w O0 O1 O2
theorem alloc_nth4_1 (w : World) (O0 O1 O2 O3 : Obj) : ((((w.alloc O0).alloc O1).alloc O2).alloc O3).heap[w.heap.size + 1]? = some O1 := by
  rw [heap_alloc_old _ _ (by simp; try omega)]
  exact alloc_nth3_1 w O0 O1 O2
theorem alloc_nth4_2 (w : World) (O0 O1 O2 O3 : Obj) : ((((w.alloc O0).alloc O1).alloc O2).alloc O3).heap[w.heap.size + 1 + 1]? = some O2 := by
  rw [heap_alloc_old _ _ (by simp; try omega)]
  exact alloc_nth3_2 w O0 O1 O2
theorem alloc_nth4_3 (w : World) (O0 O1 O2 O3 : Obj) : ((((w.alloc O0).alloc O1).alloc O2).alloc O3).heap[w.heap.size + 1 + 1 + 1]? = some O3 := by
  have h := heap_alloc_new (((w.alloc O0).alloc O1).alloc O2) O3
  simpa using h
theorem alloc_nth5_0 (w : World) (O0 O1 O2 O3 O4 : Obj) : (((((w.alloc O0).alloc O1).alloc O2).alloc O3).alloc O4).heap[w.heap.size]? = some O0 := by
  rw [heap_alloc_old _ _ (by simp; try omega)]
  exact alloc_nth4_0 w O0 O1 O2 O3
theorem alloc_nth5_1 (w : World) (O0 O1 O2 O3 O4 : Obj) : (((((w.alloc O0).alloc O1).alloc O2).alloc O3).alloc O4).heap[w.heap.size + 1]? = some O1 := by
  rw [heap_alloc_old _ _ (by simp; try omega)]
  exact alloc_nth4_1 w O0 O1 O2 O3
theorem alloc_nth5_2 (w : World) (O0 O1 O2 O3 O4 : Obj) : (((((w.alloc O0).alloc O1).alloc O2).alloc O3).alloc O4).heap[w.heap.size + 1 + 1]? = some O2 := by
  rw [heap_alloc_old _ _ (by simp; try omega)]
  exact alloc_nth4_2 w O0 O1 O2 O3
theorem alloc_nth5_3 (w : World) (O0 O1 O2 O3 O4 : Obj) : (((((w.alloc O0).alloc O1).alloc O2).alloc O3).alloc O4).heap[w.heap.size + 1 + 1 + 1]? = some O3 := by
  rw [heap_alloc_old _ _ (by simp; try omega)]
  exact alloc_nth4_3 w O0 O1 O2 O3
theorem alloc_nth5_4 (w : World) (O0 O1 O2 O3 O4 : Obj) : (((((w.alloc O0).alloc O1).alloc O2).alloc O3).alloc O4).heap[w.heap.size + 1 + 1 + 1 + 1]? = some O4 := by
  have h := heap_alloc_new ((((w.alloc O0).alloc O1).alloc O2).alloc O3) O4
  simpa using h

end Go.Proofs.YtlhmemnaiobgkaaGreatDoor.Mem

/- Facts of memory, renewed by short names. -/
namespace Go.Proofs.YtlhmemnaiobgkaaGreatDoor.Mem
open Go.RowKit
set_option linter.unusedVariables false
set_option linter.unusedSimpArgs false

theorem Ke.h {p : Prop} (h : p) : Hid p := h
theorem Ke.b {w W W' : World} (h : Hid (Below w.heap.size w W)) (b : Below W.heap.size W W') : Hid (Below w.heap.size w W') := h.out.trans (b.mono h.out.size)
theorem Ke.r {W W' : World} {g : Nat} {o : Obj} (h : Hid (W.heap[g]? = some o)) (b : Below W.heap.size W W') : Hid (W'.heap[g]? = some o) := rowKeep h.out b
theorem Ke.c {W : World} {g : Nat} {cs : Array Value} {t : TypeId} {fr : Nat × Nat} (h : Hid (W.heap[g]? = some (.cells cs t fr))) : ∀ j, W.cell? ⟨g, j, none⟩ = cs[j]? := fun j => row_at h.out j
theorem Ke.o {W W' : World} {lo hi : Nat} {e : TypeId} {v : Value} {cs : List Value} (h : Hid (Own W lo hi e v cs)) (b : Below W.heap.size W W') (hh : hi ≤ W.heap.size := by omega) : Hid (Own W' lo hi e v cs) := Own.later h.out b hh
theorem Ke.a {W : World} {g : Nat} {cs : Array Value} {t : TypeId} {fr : Nat × Nat} (h : Hid (W.heap[g]? = some (.cells cs t fr))) : ∀ o j, (W.alloc o).cell? ⟨g, j, none⟩ = cs[j]? :=
  fun o j => row_at (rowKeep h.out ((Below.refl _ _).alloc (Nat.le_refl _) o)) j
theorem Ke.a2 {W : World} {g : Nat} {cs : Array Value} {t : TypeId} {fr : Nat × Nat} (h : Hid (W.heap[g]? = some (.cells cs t fr))) : ∀ o p j, ((W.alloc o).alloc p).cell? ⟨g, j, none⟩ = cs[j]? :=
  fun o p j => row_at (rowKeep (rowKeep h.out ((Below.refl _ _).alloc (Nat.le_refl _) o)) ((Below.refl _ _).alloc (Nat.le_refl _) p)) j
theorem Ke.a3 {W : World} {g : Nat} {cs : Array Value} {t : TypeId} {fr : Nat × Nat} (h : Hid (W.heap[g]? = some (.cells cs t fr))) : ∀ o p q j, (((W.alloc o).alloc p).alloc q).cell? ⟨g, j, none⟩ = cs[j]? :=
  fun o p q j => row_at (rowKeep (rowKeep (rowKeep h.out ((Below.refl _ _).alloc (Nat.le_refl _) o)) ((Below.refl _ _).alloc (Nat.le_refl _) p)) ((Below.refl _ _).alloc (Nat.le_refl _) q)) j
theorem Ke.l1 (W : World) (c0 : Array Value) (t0 : TypeId) : ∃ X, Hid (W.alloc (.cells c0 t0) = X) ∧ Below W.heap.size W X ∧ W.heap.size + 1 ≤ X.heap.size ∧ Hid (X.heap.size = W.heap.size + 1) ∧ Hid (X.heap[W.heap.size]? = some (.cells c0 t0 (0, 0))) :=
  ⟨_, rfl, (Below.refl _ _).alloc (Nat.le_refl _) _, by simp, by show _ = _; simp, by show _ = _; exact alloc_nth1_0 W _⟩
theorem Ke.l2 (W : World) (c0 : Array Value) (t0 : TypeId) (c1 : Array Value) (t1 : TypeId) : ∃ X, Hid ((W.alloc (.cells c0 t0)).alloc (.cells c1 t1) = X) ∧ Below W.heap.size W X ∧ W.heap.size + 2 ≤ X.heap.size ∧ Hid (X.heap.size = W.heap.size + 1 + 1) ∧ Hid (X.heap[W.heap.size]? = some (.cells c0 t0 (0, 0))) ∧ Hid (X.heap[W.heap.size + 1]? = some (.cells c1 t1 (0, 0))) :=
  ⟨_, rfl, ((Below.refl _ _).alloc (Nat.le_refl _) _).alloc (by simp) _, by simp, by show _ = _; simp, by show _ = _; exact alloc_nth2_0 W _ _, by show _ = _; exact alloc_nth2_1 W _ _⟩
theorem Ke.l3 (W : World) (c0 : Array Value) (t0 : TypeId) (c1 : Array Value) (t1 : TypeId) (c2 : Array Value) (t2 : TypeId) : ∃ X, Hid (((W.alloc (.cells c0 t0)).alloc (.cells c1 t1)).alloc (.cells c2 t2) = X) ∧ Below W.heap.size W X ∧ W.heap.size + 3 ≤ X.heap.size ∧ Hid (X.heap.size = W.heap.size + 1 + 1 + 1) ∧ Hid (X.heap[W.heap.size]? = some (.cells c0 t0 (0, 0))) ∧ Hid (X.heap[W.heap.size + 1]? = some (.cells c1 t1 (0, 0))) ∧ Hid (X.heap[W.heap.size + 1 + 1]? = some (.cells c2 t2 (0, 0))) :=
  ⟨_, rfl, (((Below.refl _ _).alloc (Nat.le_refl _) _).alloc (by simp) _).alloc (by simp; omega) _, by simp, by show _ = _; simp, by show _ = _; exact alloc_nth3_0 W _ _ _, by show _ = _; exact alloc_nth3_1 W _ _ _, by show _ = _; exact alloc_nth3_2 W _ _ _⟩
theorem Ke.s {W W' : World} {g x : Nat} {o : Obj} (h : Hid (W.heap[g]? = some o)) (gr : W.grownBy W' (some x)) (hn : ¬ x = g := by omega) : Hid (W'.heap[g]? = some o) := rowGro h.out gr (fun h9 => by injection h9 with h9; exact hn h9)
theorem Ke.t {W W' : World} {lo hi x : Nat} {e t : TypeId} {v : Value} {cs : List Value} {cx : Array Value} {fr : Nat × Nat} (h : Hid (Own W lo hi e v cs)) (r : Hid (W.heap[x]? = some (.cells cx t fr))) (gr : W.grownBy W' (some x)) (ht : t ≠ e := by decide) : Hid (Own W' lo hi e v cs) :=
  Own.gro h.out gr (fun k9 h9 e9 => Own.neRow h.out r.out ht (h9.trans e9.symm))
theorem Ke.n {W W' : World} {g lo hi : Nat} {e t : TypeId} {v : Value} {cs : List Value} {cx : Array Value} {fr : Nat × Nat} (h : Hid (W.heap[g]? = some (.cells cx t fr))) (o : Hid (Own W lo hi e v cs)) (gr : W.grownBy W' v.ownBlock) (ht : t ≠ e := by decide) : Hid (W'.heap[g]? = some (.cells cx t fr)) :=
  rowGro h.out gr (Own.neRow o.out h.out ht)
/-- cells that a region holds -/
theorem Ke.k {W W' : World} {g : Nat} {cs : Array Value} (h : ∀ j, W.cell? ⟨g, j, none⟩ = cs[j]?) (b : Below W.heap.size W W') (hn : ∃ x, cs[0]? = some x := by exact ⟨_, rfl⟩) : ∀ j, W'.cell? ⟨g, j, none⟩ = cs[j]? := by
  intro j
  obtain ⟨x, hx⟩ := hn
  have hl := World.block_lt_of_cell? W ⟨g, 0, none⟩ ((h 0).trans hx)
  rw [b.cell (p := ⟨g, j, none⟩) hl]
  exact h j
theorem Ke.g {W W' : World} {g : Nat} {cs : Array Value} {r : Option Nat} (h : ∀ j, W.cell? ⟨g, j, none⟩ = cs[j]?) (gr : W.grownBy W' r) (hne : r ≠ some g) (hn : ∃ x, cs[0]? = some x := by exact ⟨_, rfl⟩) : ∀ j, W'.cell? ⟨g, j, none⟩ = cs[j]? := by
  intro j
  obtain ⟨x, hx⟩ := hn
  have hl := World.block_lt_of_cell? W ⟨g, 0, none⟩ ((h 0).trans hx)
  have e := gr.block g hl (fun e => hne e.symm)
  have e2 : W'.cell? ⟨g, j, none⟩ = W.cell? ⟨g, j, none⟩ := by simp [World.cell?, e]
  rw [e2]
  exact h j
theorem Ke.w {W : World} {g x : Nat} {cs form : Array Value} (hg : g ≠ x) (h : ∀ j, W.cell? ⟨g, j, none⟩ = cs[j]?) : ∀ j, (W.setRow x form).cell? ⟨g, j, none⟩ = cs[j]? := by
  intro j
  have e := setRow_other W x g form hg
  have e2 : (W.setRow x form).cell? ⟨g, j, none⟩ = W.cell? ⟨g, j, none⟩ := by simp [World.cell?, e]
  rw [e2]
  exact h j

section
variable {P : Program} {ops : Array Oper} {Q : Exit → Act → World → Prop} {md : Region.Mode} {S : World → Prop}
/-- one operation of a region that draws its order is taken -/
theorem Ke.y (i : Nat) {oi : Oper} {v : Value} {fuel : Nat} {listed : Array Bool} {a : Act} {w : World} (hi : ops[i]? = some oi)
    (hQ : ∀ c a w, Q (.panic c) (a.put oi.dst v) w → Q (.panic c) a w)
    (h : wpAnyH P md ops Q S fuel (listed.setIfInBounds i true) (a.put oi.dst v) w)
    (hs : Region.noSelect ops = true := by kernel_rfl) (hf : Region.free md ops listed i = true := by kernel_rfl) (hr : (Region.ready md ops listed).contains i = true := by kernel_rfl)
    (hw : Region.wanted oi (yielded ops a.tmps) = true := by rfl)
    (hy : ∀ w, S w → (execOp a.eval oi).run P w = .ok (.value v) w := by (intro w hSw; (try dsimp only at hSw); go_split_ands; go_simp; (try with_reducible rfl)))
    (hS : S w := by assumption) : wpAnyH P md ops Q S (fuel + 1) listed a w :=
  wpAnyH_take hi hs hf hr hQ (Or.inl ⟨hw, hy⟩) hS h
/-- one that is not wanted -/
theorem Ke.x (i : Nat) {oi : Oper} {fuel : Nat} {listed : Array Bool} {a : Act} {w : World} (hi : ops[i]? = some oi)
    (hQ : ∀ c a w, Q (.panic c) (a.put oi.dst undef) w → Q (.panic c) a w)
    (h : wpAnyH P md ops Q S fuel (listed.setIfInBounds i true) (a.put oi.dst undef) w)
    (hs : Region.noSelect ops = true := by kernel_rfl) (hf : Region.free md ops listed i = true := by kernel_rfl) (hr : (Region.ready md ops listed).contains i = true := by kernel_rfl)
    (hw : Region.wanted oi (yielded ops a.tmps) = false := by rfl)
    (hS : S w := by assumption) : wpAnyH P md ops Q S (fuel + 1) listed a w :=
  wpAnyH_take hi hs hf hr hQ (Or.inr ⟨hw, rfl⟩) hS h
/-- one operation alone is ready -/
theorem Ke.z (i : Nat) {o : Oper} {fuel : Nat} {listed : Array Bool} {a : Act} {w : World} (ho : ops[i]? = some o)
    (h : ∀ K' : Act → World → Prop, Shut (∀ a w, S w → (S w → wpAnyH P md ops Q S fuel (listed.setIfInBounds i true) a w) → K' a w) → if Region.wanted o (yielded ops a.tmps) = true then Oper.wp P o a w K' Q else K' (a.put o.dst undef) w)
    (hr : Region.ready md ops listed = [i] := by kernel_rfl) : wpAnyH P md ops Q S (fuel + 1) listed a w :=
  wpAnyH_ready hr (by simp) (AllReadyH.cons ho h AllReadyH.nil)
end
theorem pu1 {α : Type _} (l : List α) (i : Nat) (a : α) : l.toArray.setIfInBounds i a = (l.set i a).toArray := List.setIfInBounds_toArray ..
theorem pu2 {α : Type _} {x a : α} {l : List α} : (x :: l).set 0 a = a :: l := List.set_cons_zero ..
theorem pu3 {α : Type _} {x a : α} {l : List α} {n : Nat} : (x :: l).set (n + 1) a = x :: l.set n a := List.set_cons_succ ..
theorem pu4 {α : Type _} {l : List α} {i : Nat} (h : i < l.toArray.size) : l.toArray[i] = l[i]'(by simpa using h) := List.getElem_toArray h
theorem pu5 {α : Type _} {x : α} {l : List α} (h : 0 < (x :: l).length) : (x :: l)[0] = x := rfl
theorem pu6 {α : Type _} {x : α} {l : List α} {i : Nat} (h : i + 1 < (x :: l).length) : (x :: l)[i + 1] = l[i]'(by simpa using h) := rfl

end Go.Proofs.YtlhmemnaiobgkaaGreatDoor.Mem

/- A cursor of draws behind other steps, by short names; no chapter is named here. -/
namespace Go.Proofs.YtlhmemnaiobgkaaGreatDoor.Draw
open Go.RowKit Go.Proofs.YtlhmemnaiobgkaaGreatDoor.Mem Go.Proofs.YtlhmemnaiobgkaaGreatDoor.Laws Go.Proofs.YtlhmemnaiobgkaaGreatDoor.Bytes
set_option linter.unusedVariables false
set_option linter.unusedSimpArgs false

theorem Cur.keep {w w' : World} {g : Nat} {vb : Value} {n : Nat} (h : Cur w g vb n) (b : Below w.heap.size w w') : Cur w' g vb n := h.later b h.lt
theorem Cur.gro {w w' : World} {g : Nat} {vb : Value} {n : Nat} {r : Option Nat} (h : Cur w g vb n) (gr : w.grownBy w' r) (hne : r ≠ some g) : Cur w' g vb n := by
  obtain ⟨i, x, hr, hi⟩ := h
  exact ⟨i, x, rowGro hr gr hne, hi⟩
theorem drawnRow {W0 w w' : World} {g k : Nat} {vb : Value} {xs : List Int} {o : Obj} (h : w.heap[k]? = some o) (d : Drawn W0 w g vb xs w') (hk : k ≠ g) : w'.heap[k]? = some o :=
  (d.apart.block k (Array.getElem?_eq_some_iff.1 h).1 (by omega)).trans h
theorem Kd.r {W0 W W' : World} {g k : Nat} {vb : Value} {xs : List Int} {o : Obj} (h : Hid (W.heap[k]? = some o)) (d : Drawn W0 W g vb xs W') (hk : k ≠ g := by omega) : Hid (W'.heap[k]? = some o) := drawnRow h.out d hk
theorem Kd.o {W0 W W' : World} {g lo hi : Nat} {vb : Value} {xs : List Int} {e : TypeId} {v : Value} {cs : List Value} (h : Hid (Own W lo hi e v cs)) (d : Drawn W0 W g vb xs W') (hg : g < lo ∨ hi ≤ g := by omega) (hh : hi ≤ W.heap.size := by omega) : Hid (Own W' lo hi e v cs) := Own.drawn h.out d hg hh
theorem Kd.B {lo hi : Nat} {a w w' : World} (h : Hid (Apart lo hi a w)) (b : Below w.heap.size w w') : Hid (Apart lo hi a w') := h.out.grow b
theorem Kd.D {W0 a w w' : World} {g : Nat} {vb : Value} {xs : List Int} (h : Hid (Apart g (g + 1) a w)) (d : Drawn W0 w g vb xs w') : Hid (Apart g (g + 1) a w') := h.out.trans d.apart
theorem Kd.c {w w' : World} {g : Nat} {vb : Value} {n : Nat} (h : Hid (Cur w g vb n)) (b : Below w.heap.size w w') : Hid (Cur w' g vb n) := h.out.keep b
theorem Kd.e {W0 w w' : World} {g : Nat} {vb : Value} {xs : List Int} (d : Drawn W0 w g vb xs w') : Hid (Cur w' g vb xs.length) := d.cur
theorem Kd.f {W0 w w' : World} {g : Nat} {vb : Value} {xs : List Int} (d : Drawn W0 w g vb xs w') : Hid (Below W0.heap.size W0 w') := d.below
/-- cells that a region holds, behind a draw -/
theorem Kd.k {W0 W W' : World} {g k : Nat} {vb : Value} {xs : List Int} {cs : Array Value} (h : ∀ j, W.cell? ⟨k, j, none⟩ = cs[j]?) (d : Drawn W0 W g vb xs W') (hk : k ≠ g) (hn : ∃ x, cs[0]? = some x := by exact ⟨_, rfl⟩) : ∀ j, W'.cell? ⟨k, j, none⟩ = cs[j]? := by
  intro j
  obtain ⟨x, hx⟩ := hn
  have hl := World.block_lt_of_cell? W ⟨k, 0, none⟩ ((h 0).trans hx)
  have e := d.apart.block k hl (by omega)
  have e2 : W'.cell? ⟨k, j, none⟩ = W.cell? ⟨k, j, none⟩ := by simp [World.cell?, e]
  rw [e2]
  exact h j

theorem Apart.gro5 {lo hi : Nat} {a w w' : World} {r : Option Nat} (h : Apart lo hi a w) (g : w.grownBy w' r) (hr : ∀ k, r = some k → a.heap.size ≤ k) : Apart lo hi a w' :=
  h.on (belowGro (Below.refl a.heap.size w) g h.size hr)

end Go.Proofs.YtlhmemnaiobgkaaGreatDoor.Draw

/- Chapter 4, the specification's side: parts of a path, paths. -/
namespace Go.Proofs.YtlhmemnaiobgkaaGreatDoor.Ver
open Go.RowKit Go.Proofs.YtlhmemnaiobgkaaGreatDoor.Mem Go.Proofs.YtlhmemnaiobgkaaGreatDoor.Laws Go.Proofs.YtlhmemnaiobgkaaGreatDoor.Bytes Go.Proofs.YtlhmemnaiobgkaaGreatDoor.Sha
set_option linter.unusedVariables false
set_option linter.unusedSimpArgs false

/-- a sign that may begin a part of a path -/
def plain4 (c : Int) : Bool := decide (97 ≤ c ∧ c ≤ 122) || decide (48 ≤ c ∧ c ≤ 57)
/-- a sign of a part of a path, at place i -/
def sign4 (i : Nat) (c : Int) : Bool := plain4 c || (decide (i ≠ 0) && (decide (c = 45) || decide (c = 46) || decide (c = 95)))
def signs4 : Nat → List Int → Bool
  | _, [] => true
  | i, c :: r => sign4 i c && signs4 (i + 1) r
def part4 (l : List Int) : Bool := signs4 0 l && decide (1 ≤ l.length ∧ l.length ≤ 20)
def path4 (l : List Int) : Bool := (split 47 l).all part4 && decide ((split 47 l).length ≤ 6) && decide (l.length ≤ 60)

theorem signs4_app : ∀ (l r : List Int) (i : Nat), signs4 i (l ++ r) = (signs4 i l && signs4 (i + l.length) r) := by
  intro l
  induction l with
  | nil => intro r i; simp [signs4]
  | cons c l ih =>
    intro r i
    simp only [List.cons_append, signs4, ih, List.length_cons, Bool.and_assoc]
    rw [show i + 1 + l.length = i + (l.length + 1) by omega]
theorem signs4_step {l : List Int} {k : Nat} {c : Int} (hc : l[k]? = some c) : signs4 0 (l.take (k + 1)) = (signs4 0 (l.take k) && sign4 k c) := by
  have hk : k < l.length := (List.getElem?_eq_some_iff.1 hc).1
  rw [take_snoc hc, signs4_app]
  simp [signs4, Nat.min_eq_left (Nat.le_of_lt hk)]
theorem signs4_bad {l : List Int} {k : Nat} {c : Int} (hc : l[k]? = some c) (hb : sign4 k c = false) : signs4 0 l = false := by
  have hk : k < l.length := (List.getElem?_eq_some_iff.1 hc).1
  have h := signs4_step hc
  rw [hb, Bool.and_false] at h
  have e : l = l.take (k + 1) ++ l.drop (k + 1) := (List.take_append_drop _ _).symm
  rw [e, signs4_app, h]
  rfl

set_option maxRecDepth 1000000 in
set_option maxHeartbeats 1000000 in
theorem part4_spec (w : World) (s : ByteArray) (hs : s.size ≤ 1000000000000) : Calls Tryz.prog 107 #[.string s] w fun e w' => e = .returned (.bool (part4 (sb s))) ∧ w = w' := by
  have HP : Hid (part4 (sb s) = (signs4 0 (sb s) && decide (1 ≤ s.size ∧ s.size ≤ 20))) := by show _ = _; unfold part4; rw [sb_len]
  go_enter Tryz.func107, Tryz.ntmps107
  go_wp2
  go_loopw [3] (fun i wr => ∃ k : Nat, k ≤ s.size ∧ i = .int .i64 (k : Int) ∧ Hid (signs4 0 ((sb s).take k) = true) ∧ w = wr) (fun i _ => s.size - (intOf i).toNat)
  case atStart => exact ⟨0, Nat.zero_le _, rfl, rfl, by first | rfl | trivial⟩
  case round =>
    obtain ⟨k, hk, rfl, HA, rfl⟩ := hrel
    by_cases hp : k < s.size
    · have hg := sb_get s k hp
      have hcb := (sb_byt s).at hg
      have HS : Hid (signs4 0 ((sb s).take (k + 1)) = (signs4 0 ((sb s).take k) && sign4 k (s[k].toNat : Int))) := signs4_step hg
      have HB : Hid (sign4 k (s[k].toNat : Int) = false → signs4 0 (sb s) = false) := signs4_bad hg
      obtain ⟨b1, e1⟩ : ∃ x, decide ((97 : Int) ≤ (s[k].toNat : Int) ∧ (s[k].toNat : Int) ≤ 122) = x := ⟨_, rfl⟩
      obtain ⟨b2, e2⟩ : ∃ x, decide ((48 : Int) ≤ (s[k].toNat : Int) ∧ (s[k].toNat : Int) ≤ 57) = x := ⟨_, rfl⟩
      have E1 : Hid (decide ((97 : Int) ≤ (s[k].toNat : Int) ∧ (s[k].toNat : Int) ≤ 122) = b1) := e1
      have E2 : Hid (decide ((48 : Int) ≤ (s[k].toNat : Int) ∧ (s[k].toNat : Int) ≤ 57) = b2) := e2
      clear hg
      cases b1
      · cases b2
        · by_cases h0 : k = 0
          · have d0 : ((k : Int) == 0) = true := by simp; omega
            have HN : Hid (part4 (sb s) = false) := by
              show _ = _
              rw [HP.out, HB.out (by unfold sign4 plain4; rw [E1.out, E2.out]; simp [h0])]
              rfl
            clear h0
            go_wp2_with (go_at_call 109; refine (in_spec _ _ _ _).mono ?_; rintro e w' ⟨rfl, rfl⟩; first | rw [e1] | rw [e2])
            go_ret
            exact ⟨by rw [HN.out]; rfl, rfl⟩
          · have d0 : ((k : Int) == 0) = false := by simp; omega
            by_cases h1 : (s[k].toNat : Int) = 45
            · have d1 : ((s[k].toNat : Int) != 45) = false := by simpa using h1
              have HN : Hid (signs4 0 ((sb s).take (k + 1)) = true) := by show _ = _; rw [HS.out, HA.out]; unfold sign4; simp [h0, h1]
              clear h0 h1
              go_wp2_with (go_at_call 109; refine (in_spec _ _ _ _).mono ?_; rintro e w' ⟨rfl, rfl⟩; first | rw [e1] | rw [e2])
              go_roundw
              case rel => exact ⟨k + 1, by omega, by go_num, HN, by first | rfl | trivial⟩
              case measure => simp [intOf]; omega
            · have d1 : ((s[k].toNat : Int) != 45) = true := by simpa using h1
              by_cases h2 : (s[k].toNat : Int) = 46
              · have d2 : ((s[k].toNat : Int) != 46) = false := by simpa using h2
                have HN : Hid (signs4 0 ((sb s).take (k + 1)) = true) := by show _ = _; rw [HS.out, HA.out]; unfold sign4; simp [h0, h2]
                clear h0 h1 h2
                go_wp2_with (go_at_call 109; refine (in_spec _ _ _ _).mono ?_; rintro e w' ⟨rfl, rfl⟩; first | rw [e1] | rw [e2])
                go_roundw
                case rel => exact ⟨k + 1, by omega, by go_num, HN, by first | rfl | trivial⟩
                case measure => simp [intOf]; omega
              · have d2 : ((s[k].toNat : Int) != 46) = true := by simpa using h2
                by_cases h3 : (s[k].toNat : Int) = 95
                · have d3 : ((s[k].toNat : Int) != 95) = false := by simpa using h3
                  have HN : Hid (signs4 0 ((sb s).take (k + 1)) = true) := by show _ = _; rw [HS.out, HA.out]; unfold sign4; simp [h0, h3]
                  clear h0 h1 h2 h3
                  go_wp2_with (go_at_call 109; refine (in_spec _ _ _ _).mono ?_; rintro e w' ⟨rfl, rfl⟩; first | rw [e1] | rw [e2])
                  go_roundw
                  case rel => exact ⟨k + 1, by omega, by go_num, HN, by first | rfl | trivial⟩
                  case measure => simp [intOf]; omega
                · have d3 : ((s[k].toNat : Int) != 95) = true := by simpa using h3
                  have HN : Hid (part4 (sb s) = false) := by
                    show _ = _
                    rw [HP.out, HB.out (by unfold sign4 plain4; rw [E1.out, E2.out]; simp [h1, h2, h3])]
                    rfl
                  clear h0 h1 h2 h3
                  go_wp2_with (go_at_call 109; refine (in_spec _ _ _ _).mono ?_; rintro e w' ⟨rfl, rfl⟩; first | rw [e1] | rw [e2])
                  go_ret
                  exact ⟨by rw [HN.out]; rfl, rfl⟩
        · have HN : Hid (signs4 0 ((sb s).take (k + 1)) = true) := by show _ = _; rw [HS.out, HA.out]; unfold sign4 plain4; rw [E2.out]; simp
          go_wp2_with (go_at_call 109; refine (in_spec _ _ _ _).mono ?_; rintro e w' ⟨rfl, rfl⟩; first | rw [e1] | rw [e2])
          go_roundw
          case rel => exact ⟨k + 1, by omega, by go_num, HN, by first | rfl | trivial⟩
          case measure => simp [intOf]; omega
      · have HN : Hid (signs4 0 ((sb s).take (k + 1)) = true) := by show _ = _; rw [HS.out, HA.out]; unfold sign4 plain4; rw [E1.out]; simp
        go_wp2_with (go_at_call 109; refine (in_spec _ _ _ _).mono ?_; rintro e w' ⟨rfl, rfl⟩; first | rw [e1] | rw [e2])
        go_roundw
        case rel => exact ⟨k + 1, by omega, by go_num, HN, by first | rfl | trivial⟩
        case measure => simp [intOf]; omega
    · have HN : Hid (part4 (sb s) = decide ((1 : Int) ≤ (s.size : Int) ∧ (s.size : Int) ≤ 20)) := by
        show _ = _
        have h1 := HA.out
        rw [List.take_of_length_le (by rw [sb_len]; omega)] at h1
        rw [HP.out, h1, Bool.true_and]
        apply decide_eq_decide.2
        omega
      go_wp2_with (go_at_call 109; refine (in_spec _ _ _ _).mono ?_; rintro e w' ⟨rfl, rfl⟩)
      go_ret
      exact ⟨by rw [HN.out]; simp, rfl⟩

end Go.Proofs.YtlhmemnaiobgkaaGreatDoor.Ver

/- Chapter 4, the specification's side: paths. -/
namespace Go.Proofs.YtlhmemnaiobgkaaGreatDoor.Ver
open Go.RowKit Go.Proofs.YtlhmemnaiobgkaaGreatDoor.Mem Go.Proofs.YtlhmemnaiobgkaaGreatDoor.Laws Go.Proofs.YtlhmemnaiobgkaaGreatDoor.Bytes Go.Proofs.YtlhmemnaiobgkaaGreatDoor.Sha
set_option linter.unusedVariables false
set_option linter.unusedSimpArgs false

set_option maxRecDepth 1000000 in
set_option maxHeartbeats 1000000 in
theorem path_spec (w : World) (s : ByteArray) (hs : s.size ≤ 1000000000000) :
    Calls Tryz.prog 89 #[.string s] w fun e w' => e = .returned (.bool (path4 (sb s))) ∧ Below w.heap.size w w' := by
  go_enter Tryz.func89, Tryz.ntmps89
  go_wp2_with fail
  refine (split_spec w s 47 (by omega) (by omega) hs).mono ?_
  rintro e w1 ⟨v1, rfl, o1, b1⟩
  obtain ⟨T, hT⟩ : ∃ T, T = splitT 47 s := ⟨_, rfl⟩
  have hTs := splitT_size 47 s
  have hTl := splitT_len 47 s
  have hTm := splitT_sb 47 s
  rw [← hT] at o1 hTs hTl hTm
  have hT0 : 0 < T.length := by
    have := splitL_pos 47 (sb s) []
    have h2 : T.length = (split 47 (sb s)).length := by rw [← hTm, List.length_map]
    rw [h2]; exact this
  have HP : Hid (path4 (sb s) = (T.all (fun t => part4 (sb t)) && decide (T.length ≤ 6) && decide (s.size ≤ 60))) := by
    show _ = _
    unfold path4
    rw [← hTm, List.all_map, List.length_map, sb_len]
    rfl
  obtain ⟨g, cap, rfl, hg1, hg2, hcap, hc⟩ := ownForm o1 (by rw [ss_len]; exact hT0)
  rw [ss_len] at hcap hc
  rw [ss_len]
  have HC : Hid (∀ j, j < T.length → w1.cell? ⟨g, j, none⟩ = (ss T)[j]?) := hc
  have HTs : Hid (∀ t ∈ T, t.size ≤ s.size) := hTs
  clear hT hTs hTm hc o1
  go_wp2
  go_loopw [4] (fun i wr => ∃ k : Nat, k ≤ T.length ∧ i = .int .i64 (k : Int) ∧ Hid ((T.take k).all (fun t => part4 (sb t)) = true) ∧ w1 = wr) (fun i _ => T.length - (intOf i).toNat)
  case atStart => exact ⟨0, Nat.zero_le _, rfl, rfl, by first | rfl | trivial⟩
  case round =>
    obtain ⟨k, hk, rfl, HA, rfl⟩ := hrel
    by_cases hlt : k < T.length
    · obtain ⟨t, ht⟩ : ∃ t, T[k]? = some t := ⟨T[k], by simp [hlt]⟩
      have hcell : w1.cell? ⟨g, k, none⟩ = some (.string t) := by rw [HC.out k hlt, ss_get, ht]; rfl
      have htm := HTs.out t (List.mem_of_getElem? ht)
      have HT : Hid (T[k]? = some t) := ht
      have q := part4_spec w1 t (by omega)
      obtain ⟨pb, hpb⟩ : ∃ b, part4 (sb t) = b := ⟨_, rfl⟩
      have HB : Hid (part4 (sb t) = pb) := hpb
      rw [hpb] at q
      clear ht hpb
      cases pb
      · have HN : Hid (path4 (sb s) = false) := by
          show _ = _
          rw [HP.out]
          have : T.all (fun t => part4 (sb t)) = false := by
            rw [List.all_eq_false]
            exact ⟨t, List.mem_of_getElem? HT.out, by simp [HB.out]⟩
          rw [this]; rfl
        go_wp2_with (go_at_call 107; refine q.mono ?_; rintro e w' ⟨rfl, rfl⟩)
        go_ret
        exact ⟨by rw [HN.out]; rfl, b1⟩
      · have HN : Hid ((T.take (k + 1)).all (fun t => part4 (sb t)) = true) := by
          show _ = _
          rw [List.take_succ_eq_append_getElem hlt, List.all_append, HA.out]
          have : T[k] = t := by have := HT.out; rw [List.getElem?_eq_getElem hlt] at this; simpa using this
          simp [this, HB.out]
        go_wp2_with (go_at_call 107; refine q.mono ?_; rintro e w' ⟨rfl, rfl⟩)
        go_roundw
        case rel => exact ⟨k + 1, by omega, by go_num, HN, by first | rfl | trivial⟩
        case measure => simp [intOf]; omega
    · have h1 := HA.out
      rw [List.take_of_length_le (by omega)] at h1
      have HN : Hid (path4 (sb s) = (decide (T.length ≤ 6) && decide (s.size ≤ 60))) := by
        show _ = _
        rw [HP.out, h1, Bool.true_and]
      clear h1
      by_cases h6 : T.length ≤ 6
      · have d6 : decide ((T.length : Int) ≤ 6) = true := by simp; omega
        have HN2 : Hid (path4 (sb s) = decide ((s.size : Int) ≤ 60)) := by
          show _ = _
          rw [HN.out, decide_eq_true h6, Bool.true_and, decide_eq_decide]
          omega
        go_wp2
        go_ret
        exact ⟨by rw [HN2.out]; rfl, b1⟩
      · have d6 : decide ((T.length : Int) ≤ 6) = false := by simp; omega
        have HN2 : Hid (path4 (sb s) = false) := by
          show _ = _
          rw [HN.out, decide_eq_false h6, Bool.false_and]
        go_wp2
        go_ret
        exact ⟨by rw [HN2.out]; rfl, b1⟩

end Go.Proofs.YtlhmemnaiobgkaaGreatDoor.Ver

/- Chapter 4, the specification's side: the number that a path's last part tells. -/
namespace Go.Proofs.YtlhmemnaiobgkaaGreatDoor.Ver
open Go.RowKit Go.Proofs.YtlhmemnaiobgkaaGreatDoor.Mem Go.Proofs.YtlhmemnaiobgkaaGreatDoor.Laws Go.Proofs.YtlhmemnaiobgkaaGreatDoor.Bytes Go.Proofs.YtlhmemnaiobgkaaGreatDoor.Sha
set_option linter.unusedVariables false
set_option linter.unusedSimpArgs false

/-- a path's last part; the number that it tells, 0 if none -/
def lastT (s : ByteArray) : ByteArray := (splitT 47 s).getLast?.getD ⟨#[]⟩
def in4 (n : Int) : Int := if 2 ≤ n ∧ n ≤ 1000 then n else 0
def maj4 (s : ByteArray) : Int :=
  if (splitT 47 s).length < 2 ∨ (sb (lastT s)).head? ≠ some 118 then 0 else in4 (number (sb ((lastT s).extract 1 (lastT s).size)))
def major4 (s : ByteArray) : Int := if path4 (sb s) = true then (if maj4 s = 0 then 1 else maj4 s) else 0

theorem maj4_bd (s : ByteArray) : maj4 s = 0 ∨ (2 ≤ maj4 s ∧ maj4 s ≤ 1000) := by
  unfold maj4 in4
  split
  · exact .inl rfl
  · split
    · rename_i h; exact .inr h
    · exact .inl rfl

theorem head_none {t : ByteArray} (h : t.size = 0) : (sb t).head? = none := by
  have : sb t = [] := List.eq_nil_of_length_eq_zero (by rw [sb_len]; exact h)
  rw [this]; rfl
theorem head_get {t : ByteArray} (h : 0 < t.size) : (sb t).head? = some (t[0].toNat : Int) := by
  rw [List.head?_eq_getElem?, sb_get t 0 h]

set_option maxRecDepth 1000000 in
set_option maxHeartbeats 1000000 in
theorem maj_spec (w : World) (s : ByteArray) (hs : s.size ≤ 1000000000000) :
    Calls Tryz.prog 90 #[.string s] w fun e w' => e = .returned (.int .i64 (maj4 s)) ∧ Below w.heap.size w w' := by
  go_enter Tryz.func90, Tryz.ntmps90
  go_wp2_with fail
  refine (split_spec w s 47 (by omega) (by omega) hs).mono ?_
  rintro e w1 ⟨v1, rfl, o1, b1⟩
  have hTs := splitT_size 47 s
  have hTl := splitT_len 47 s
  have hT0 := splitT_pos 47 s
  have HM : Hid (maj4 s = if (splitT 47 s).length < 2 ∨ (sb (lastT s)).head? ≠ some 118 then 0 else in4 (number (sb ((lastT s).extract 1 (lastT s).size)))) := rfl
  have HL : Hid (lastT s = (splitT 47 s).getLast?.getD ⟨#[]⟩) := rfl
  obtain ⟨T, hT⟩ : ∃ T, splitT 47 s = T := ⟨_, rfl⟩
  rw [hT] at o1 hTs hTl hT0 HM HL
  clear hT
  obtain ⟨t, ht⟩ : ∃ t, T[T.length - 1]? = some t := ⟨T[T.length - 1], by rw [List.getElem?_eq_getElem (by omega)]⟩
  have hlast : lastT s = t := by rw [HL.out, List.getLast?_eq_getElem?, ht]; rfl
  rw [hlast] at HM
  have hts := hTs t (List.mem_of_getElem? ht)
  obtain ⟨g, cap, rfl, hg1, hg2, hcap, hc⟩ := ownForm o1 (by rw [ss_len]; exact hT0)
  rw [ss_len] at hcap hc
  rw [ss_len]
  have hcell : w1.cell? ⟨g, T.length - 1, none⟩ = some (.string t) := by rw [hc _ (by omega), ss_get, ht]; rfl
  clear hc ht hTs HL hlast o1
  have dn : ((T.length : Int) - 1).toNat = T.length - 1 := by omega
  have v0 : (0 : Int) ≤ (T.length : Int) - 1 := by omega
  have v1 : (T.length : Int) - 1 < (T.length : Int) := by omega
  by_cases h2 : T.length < 2
  · have d2 : decide ((T.length : Int) < 2) = true := by simp; omega
    have HN : Hid (maj4 s = 0) := by show _ = _; rw [HM.out, if_pos (.inl h2)]
    clear HM
    go_wp2
    go_ret
    exact ⟨by rw [HN.out]; rfl, b1⟩
  · have d2 : decide ((T.length : Int) < 2) = false := by simp; omega
    by_cases h0 : t.size = 0
    · have he : t.toList.isEmpty = true := by rw [toList_empty]; exact decide_eq_true h0
      have HN : Hid (maj4 s = 0) := by show _ = _; rw [HM.out, if_pos (.inr (by rw [head_none h0]; simp))]
      clear HM
      go_wp2
      go_ret
      exact ⟨by rw [HN.out]; rfl, b1⟩
    · have he : t.toList.isEmpty = false := by rw [toList_empty]; exact decide_eq_false h0
      have hp : 0 < t.size := by omega
      have hh := head_get hp
      by_cases hv : (t[0].toNat : Int) = 118
      · have dv : ((t[0].toNat : Int) != 118) = false := by simpa using hv
        have HN : Hid (maj4 s = in4 (number (sb (t.extract 1 t.size)))) := by
          show _ = _
          rw [HM.out, if_neg (by rintro (h | h); exact h2 h; exact h (by rw [hh, hv]))]
        have hu : (t.extract 1 t.size).size ≤ s.size := by simp; omega
        have q : ∀ W, _ := fun W => number_spec W (t.extract 1 t.size) (by omega)
        obtain ⟨u, hu'⟩ : ∃ u, t.extract 1 t.size = u := ⟨_, rfl⟩
        rw [hu'] at HN hu
        simp only [hu'] at q
        obtain ⟨n, hn⟩ : ∃ n, number (sb u) = n := ⟨_, rfl⟩
        rw [hn] at HN
        simp only [hn] at q
        clear HM hh hv hn
        by_cases hr : 2 ≤ n ∧ n ≤ 1000
        · have dr : decide ((2 : Int) ≤ n ∧ n ≤ 1000) = true := by simpa using hr
          have HN2 : Hid (maj4 s = n) := by show _ = _; rw [HN.out]; unfold in4; rw [if_pos hr]
          clear HN
          go_wp2_with (first | (go_at_call 108; refine (q _).mono ?_; rintro e w' ⟨rfl, rfl⟩) | (go_at_call 109; refine (in_spec _ _ _ _).mono ?_; rintro e w' ⟨rfl, rfl⟩; rw [dr]))
          go_ret
          exact ⟨by rw [HN2.out]; rfl, b1⟩
        · have dr : decide ((2 : Int) ≤ n ∧ n ≤ 1000) = false := by simpa using hr
          have HN2 : Hid (maj4 s = 0) := by show _ = _; rw [HN.out]; unfold in4; rw [if_neg hr]
          clear HN
          go_wp2_with (first | (go_at_call 108; refine (q _).mono ?_; rintro e w' ⟨rfl, rfl⟩) | (go_at_call 109; refine (in_spec _ _ _ _).mono ?_; rintro e w' ⟨rfl, rfl⟩; rw [dr]))
          go_ret
          exact ⟨by rw [HN2.out]; rfl, b1⟩
      · have dv : ((t[0].toNat : Int) != 118) = true := by simpa using hv
        have HN : Hid (maj4 s = 0) := by
          show _ = _
          rw [HM.out, if_pos (.inr (by rw [hh]; simpa using hv))]
        clear HM hh hv
        go_wp2
        go_ret
        exact ⟨by rw [HN.out]; rfl, b1⟩

end Go.Proofs.YtlhmemnaiobgkaaGreatDoor.Ver
