/- Texts in one: GetT, GetTs, Gro, SrA, SrC, Gro2, Sz2, LgH. -/
import Derived.Test.YtfpaichdkddglabPk4
import Derived.Test.YtfpaichdkddglabPk2
import Derived.Test.YtfpaichdkddglabPk8
import Derived.Test.YtfpaichdkddglabPk7
import Derived.Test.YtfpaichdkddglabPk10
import Derived.Test.YtfpaichdkddglabPk6
import Derived.Deep.MidRow
/- Contracts of GetText, the program's and the specification's: both answer 'getText' of the bytes, and turn nothing. -/
namespace Go.Proofs.Ytfpaichdkddglab.GetT
open Go.RowKit Go.Proofs.Ytfpaichdkddglab.Mem Go.Proofs.Ytfpaichdkddglab.Plain
set_option linter.unusedVariables false

theorem conv_none (ao : Option Addr) (c : Nat) (w : World) : (convert 27 9 (.slice ao 0 c)).run Try.prog w = .ok (.string ⟨#[]⟩) w := by
  cases ao with
  | none => rw [run_convert_bytes_string w 27 9 5 none 0 c Try.underlying27 Try.underlying5 Try.underlying9]; rfl
  | some a => exact run_convert_bytes_back w 27 9 5 a c [] Try.underlying27 Try.underlying5 Try.underlying9 (fun j hj => by simp at hj)

theorem conv_some {w : World} {xs : List Int} {b off p n c : Nat} (hb : Byt xs) (hcell : ∀ j, j < xs.length → w.cell? ⟨b, off + j, none⟩ = (bs xs)[j]?) (hn : p + n ≤ xs.length) :
    (convert 27 9 (.slice (some ⟨b, off + p, none⟩) n c)).run Try.prog w = .ok (.string (txt ((xs.drop p).take n))) w := by
  have hl : (u8s ((xs.drop p).take n)).length = n := by rw [u8s_len]; simp; omega
  have h := run_convert_bytes_back (P := Try.prog) w 27 9 5 ⟨b, off + p, none⟩ c (u8s ((xs.drop p).take n)) Try.underlying27 Try.underlying5 Try.underlying9 (fun j hj => by
    rw [hl] at hj
    rw [Addr.add_lit, Nat.add_assoc, hcell (p + j) (by omega), bs_get]
    have hx : xs[p + j]? = some (xs[p + j]'(by omega)) := by simp
    have hy := hb.at hx
    rw [hx]
    simp only [u8s, List.getElem_map, List.getElem_take, List.getElem_drop, Option.map_some]
    rw [u8_back hy])
  rw [hl] at h
  exact h

theorem rets {s s' : ByteArray} {b b' : Int} {c c' : Bool} (h1 : s = s') (h2 : b = b') (h3 : c = c') : Ending.returned (.tuple #[.string s, .int .i64 b, .bool c]) = .returned (.tuple #[.string s', .int .i64 b', .bool c']) := by rw [h1, h2, h3]

end Go.Proofs.Ytfpaichdkddglab.GetT

/- Contracts of GetTexts, the program's and the specification's: both answer 'getTexts' of the bytes; the list lies in new memory; nothing old is turned. -/
namespace Go.Proofs.Ytfpaichdkddglab.GetTs
open Go.RowKit Go.Proofs.Ytfpaichdkddglab.Mem Go.Proofs.Ytfpaichdkddglab.Plain Go.Proofs.Ytfpaichdkddglab.Laws
set_option linter.unusedVariables false

theorem one_str (s : ByteArray) : ∀ u ∈ [Value.string s], u.oneCell' = true := by
  intro u hu
  rw [List.mem_singleton] at hu
  rw [hu]
  rfl

theorem Own.emptyS (w : World) (lo : Nat) (h : lo ≤ w.heap.size) : Own (w.alloc (.cells #[] 9)) lo (w.alloc (.cells #[] 9)).heap.size 9 (.slice (some ⟨w.heap.size, 0, none⟩) 0 0) (ss []) :=
  Own.of (World.ownsRow_lit w #[] 0 h (Nat.zero_le _) rfl)
theorem Own.nilS (w : World) (lo hi : Nat) : Own w lo hi 9 (.slice none 0 0) (ss []) :=
  ⟨World.ownsRow_nil w lo 9 1, fun g hg => by simp [Value.ownBlock] at hg⟩

/-- What GetTexts answers, and what of the world it leaves. -/
def Done (xs : List Int) (at_ : Int) (w : World) (e : Ending) (w' : World) : Prop :=
  ∃ v' : Value, e = .returned (.tuple #[v', .int .i64 (getTexts xs at_).2.1, .bool (getTexts xs at_).2.2]) ∧ Own w' w.heap.size w'.heap.size 9 v' (ss (getTexts xs at_).1) ∧ Below w.heap.size w w'

theorem done_no {xs : List Int} {at_ : Int} {w w' : World} {v' : Value} (hg : getTexts xs at_ = ([], 0, false)) (ho : Own w' w.heap.size w'.heap.size 9 v' (ss [])) (hb : Below w.heap.size w w') :
    Done xs at_ w (.returned (.tuple #[v', .int .i64 0, .bool false])) w' := by
  unfold Done
  rw [hg]
  exact ⟨v', rfl, ho, hb⟩
theorem done_yes {xs : List Int} {at_ q : Int} {l : List ByteArray} {w w' : World} {v' : Value} (hg : getTexts xs at_ = (l, q, true)) (ho : Own w' w.heap.size w'.heap.size 9 v' (ss l)) (hb : Below w.heap.size w w') :
    Done xs at_ w (.returned (.tuple #[v', .int .i64 q, .bool true])) w' := by
  unfold Done
  rw [hg]
  exact ⟨v', rfl, ho, hb⟩

end Go.Proofs.Ytfpaichdkddglab.GetTs

/- Appends to what a call owns: only that row turns; what lies elsewhere stays, whatever its place. -/
namespace Go.Proofs.Ytfpaichdkddglab.Mem
open Go.RowKit Go.Proofs.Ytfpaichdkddglab.Laws
set_option linter.unusedVariables false
set_option linter.unusedSimpArgs false

theorem Own.gro {w w' : World} {lo hi : Nat} {e : TypeId} {v : Value} {cs : List Value} {r : Option Nat} (h : Own w lo hi e v cs) (g : w.grownBy w' r) (hne : ∀ k, v.ownBlock = some k → r ≠ some k) : Own w' lo hi e v cs := by
  obtain ⟨⟨h1, h2⟩, h3⟩ := h
  refine ⟨⟨h1, ?_⟩, h3⟩
  rcases h2 with h2 | ⟨b, cap, cur, rfl, hb, hg, q⟩
  · exact .inl h2
  · exact .inr ⟨b, cap, cur, rfl, hb, by rw [g.block b (Array.getElem?_eq_some_iff.1 hg).1 (fun e => hne b rfl e.symm)]; exact hg, q⟩
theorem rowGro {w w' : World} {k : Nat} {o : Obj} {r : Option Nat} (h : w.heap[k]? = some o) (g : w.grownBy w' r) (hne : r ≠ some k) : w'.heap[k]? = some o := by
  rw [g.block k (Array.getElem?_eq_some_iff.1 h).1 (fun e => hne e.symm)]
  exact h
theorem cellGro {w w' : World} {p : Addr} {x : Value} {r : Option Nat} (h : w.cell? p = some x) (g : w.grownBy w' r) (hne : r ≠ some p.block) : w'.cell? p = some x := g.cell h (fun e => hne e.symm)
theorem belowGro {w0 w w' : World} {n : Nat} {r : Option Nat} (h : Below n w0 w) (g : w.grownBy w' r) (hn : n ≤ w.heap.size) (hr : ∀ k, r = some k → n ≤ k) : Below n w0 w' := h.grown g hn hr
/-- a row of another type is not what is owned -/
theorem Own.neRow {w : World} {lo hi g : Nat} {e t : TypeId} {v : Value} {cs : List Value} {cs' : Array Value} {fr : Nat × Nat} (h : Own w lo hi e v cs) (hr : w.heap[g]? = some (.cells cs' t fr)) (ht : t ≠ e) : v.ownBlock ≠ some g := by
  intro hv
  obtain ⟨⟨h1, h2⟩, h3⟩ := h
  rcases h2 with ⟨rfl, _⟩ | ⟨g', cap, cur, rfl, hb, hg, r⟩
  · simp [Value.ownBlock] at hv
  · simp [Value.ownBlock] at hv
    subst hv
    rw [hg] at hr
    simp at hr
    exact ht hr.2.1.symm
/-- two that are owned, of unlike types, lie apart -/
theorem Own.neOwn {w : World} {lo hi lo' hi' : Nat} {e e' : TypeId} {v v' : Value} {cs cs' : List Value} (h : Own w lo hi e v cs) (h' : Own w lo' hi' e' v' cs') (he : e' ≠ e) : ∀ k, v'.ownBlock = some k → v.ownBlock ≠ some k := by
  intro k hk
  obtain ⟨⟨h1, h2⟩, h3⟩ := h'
  rcases h2 with ⟨rfl, _⟩ | ⟨g, cap, cur, rfl, hb, hg, r⟩
  · simp [Value.ownBlock] at hk
  · simp [Value.ownBlock] at hk
    subst hk
    exact Own.neRow h hg he
/-- two that are owned in ranges apart -/
theorem Own.neFar {w : World} {lo hi lo' hi' : Nat} {e e' : TypeId} {v v' : Value} {cs cs' : List Value} (h : Own w lo hi e v cs) (h' : Own w lo' hi' e' v' cs') (hd : hi ≤ lo' ∨ hi' ≤ lo) : ∀ k, v'.ownBlock = some k → v.ownBlock ≠ some k := by
  intro k hk hv
  have a1 := h.2 k hv
  have a2 := (h.1.lt k hv).1
  have a3 := h'.2 k hk
  have a4 := (h'.1.lt k hk).1
  omega
theorem Own.low {w : World} {lo hi : Nat} {e : TypeId} {v : Value} {cs : List Value} (h : Own w lo hi e v cs) {n : Nat} (hn : n ≤ lo) : ∀ k, v.ownBlock = some k → n ≤ k := fun k hk => Nat.le_trans hn (h.1.lt k hk).1
theorem Own.neLow {w : World} {lo hi g : Nat} {e : TypeId} {v : Value} {cs : List Value} (h : Own w lo hi e v cs) (hg : g < lo ∨ hi ≤ g) : v.ownBlock ≠ some g := by
  intro hv
  have a1 := h.2 g hv
  have a2 := (h.1.lt g hv).1
  omega
/-- an append as one step of a region that draws its order: only the row turns -/
theorem step_appG {P : Program} {ops : Array Oper} {o : Oper} {a : Act} {w : World} {K : Act → World → Prop} {Q : Exit → Act → World → Prop} {E : Prop}
    (hw : Region.wanted o (yielded ops a.tmps) = true) (s x : Operand) (t : TypeId) (hop : o.op = Op.call { callee := Callee.builtin Builtin.append, args := #[s, x], argTypes := #[t, t] })
    (e : TypeId) (i : TypeInfo) (z : Value) (bytes : Nat) (ht : P.underlying t = some (.slice e)) (hi : P.info? e = some i) (hz : i.zero = some z) (hsize : i.size = 1) (hby : i.bytes = bytes) (hzs : z.cells.size = 1)
    (lo : Nat) (v : Value) (cs : List Value) (hs : a.eval s = v) (hown : Own w lo w.heap.size e v cs) (y : Value) (hx : a.eval x = y) (news : List Value) (hsl : Sl w y news)
    (h1 : ∀ u ∈ news, u.oneCell' = true) (h63 : cs.length + news.length ≤ maxLen) (hb : (cs.length + news.length) * bytes ≤ 140737488355328) (hlo : lo ≤ w.heap.size)
    (hK : ∀ v' w', Own w' lo w'.heap.size e v' (cs ++ news) → w.grownBy w' v.ownBlock → K (a.put o.dst v') w') : if Region.wanted o (yielded ops a.tmps) = true then Oper.wp P o a w K Q else E := by
  rw [if_pos hw]
  obtain ⟨ao, cap, rfl, hc, hn, hr⟩ := hsl
  cases ao with
  | none =>
    have hcap := hn rfl
    have hnil : news = [] := List.eq_nil_of_length_eq_zero (by omega)
    subst hnil
    subst hcap
    have hrun := run_append_owned_none (P := P) (w := w) lo t o.type e i 1 ht hi v cs.length cs hown.1
    unfold Oper.wp
    simp [execOp, hop, resolve, invoke, builtin, hs, hx, hrun, Result.andThen]
    exact hK v w (by simpa using hown) (World.grownBy.refl _ _)
  | some ad =>
    refine wp_append_own w s x t hop lo e i z 1 bytes ht hi hz hsize hby hzs (by decide) v cs.length cs hs hown.1 ad news.length cap news hx (by simp) ?_ h1 h63 hb hlo ?_
    · intro j u hj
      have hlt : j < news.length := (List.getElem?_eq_some_iff.1 hj).1
      obtain ⟨b, off, he, hcell⟩ := hr (by omega)
      obtain rfl := Option.some.inj he
      rw [Addr.add_lit, hcell j hlt, hj]
    · intro v' w' ho hgr _
      exact hK v' w' (Own.of ho) hgr
theorem wpl_strG {P : Program} (w : World) {ops : Array Oper} {rest : List Oper} {o : Oper} {a : Act} {Q : Exit → Act → World → Prop}
    (hg : o.guard = none) (s x : Operand) (t u : TypeId) (hop : o.op = Op.call { callee := Callee.builtin Builtin.append, args := #[s, x], argTypes := #[t, u] })
    (e : TypeId) (i : TypeInfo) (ht : P.underlying t = some (.slice e)) (hu : P.underlying u = some .string) (hi : P.info? e = some i) (hz : i.zero = some (.int .u8 0)) (hsize : i.size = 1) (hby : i.bytes = 1)
    (lo : Nat) (v : Value) (xs : List Int) (hs : a.eval s = v) (hown : Own w lo w.heap.size e v (bs xs)) (y : ByteArray) (hx : a.eval x = .string y)
    (hb : xs.length + y.size ≤ 140737488355328) (hlo : lo ≤ w.heap.size)
    (hK : ∀ v' w', Own w' lo w'.heap.size e v' (bs (xs ++ sb y)) → w.grownBy w' v.ownBlock → wpList P ops Q rest (a.put o.dst v') w') : wpList P ops Q (o :: rest) a w := by
  refine Lib.wpList_append_own_string w hg s x t u hop lo e i ht hu hi hz hsize hby v (bs xs).length (bs xs) hs hown.1 y hx (by rw [bs_len]; unfold maxLen; omega) (by rw [bs_len]; omega) hlo ?_
  intro v' w' ho hgr _
  rw [sb_cells, ← bs_app] at ho
  exact hK v' w' (Own.of ho) hgr

end Go.Proofs.Ytfpaichdkddglab.Mem

/- Chapter 12, the specification's side: commits as bytes. -/
namespace Go.Proofs.Ytfpaichdkddglab.Sr
open Go.RowKit Go.Proofs.Ytfpaichdkddglab.Mem Go.Proofs.Ytfpaichdkddglab.Laws Go.Proofs.Ytfpaichdkddglab.Bytes Go.Proofs.Ytfpaichdkddglab.Sha Go.Proofs.Ytfpaichdkddglab.Tr Go.Proofs.Ytfpaichdkddglab.He Go.Proofs.Ytfpaichdkddglab.Lg
set_option linter.unusedVariables false
set_option linter.unusedSimpArgs false

/-- the first four bytes of a digest, as a text -/
theorem dig4 (Y : List Int) : (Plain.txt (digest Y)).size = 32 ∧ ((Plain.txt (digest Y)).extract 0 4).size = 4 ∧ sb ((Plain.txt (digest Y)).extract 0 4) = sum4 Y := by
  have h32 : (Plain.txt (digest Y)).size = 32 := by rw [txt_size, digest_len]
  have e : sb (Plain.txt (digest Y)) = digest Y := sb_txt (digest_byt Y)
  have e2 : sb ((Plain.txt (digest Y)).extract 0 4) = (sb (Plain.txt (digest Y))).take 4 := by
    unfold sb
    rw [ByteArray.data_extract, Array.toList_extract, ← List.map_take]
    simp [List.extract]
  refine ⟨h32, ?_, ?_⟩
  · have h4 : (sb ((Plain.txt (digest Y)).extract 0 4)).length = 4 := by rw [e2, e, List.length_take, digest_len]; rfl
    rw [sb_len] at h4
    exact h4
  · rw [e2, e]; rfl

end Go.Proofs.Ytfpaichdkddglab.Sr

/- Chapter 12, stores as cells; the specification's side: a new store, a copy. -/
namespace Go.Proofs.Ytfpaichdkddglab.Sr
open Go.RowKit Go.Proofs.Ytfpaichdkddglab.Mem Go.Proofs.Ytfpaichdkddglab.Laws Go.Proofs.Ytfpaichdkddglab.Bytes Go.Proofs.Ytfpaichdkddglab.Sha Go.Proofs.Ytfpaichdkddglab.Tr Go.Proofs.Ytfpaichdkddglab.He Go.Proofs.Ytfpaichdkddglab.Lg
set_option linter.unusedVariables false
set_option linter.unusedSimpArgs false

/-- a store's cells: texts, head, bytes, how many are sure -/
def sc (v : Value) (h : Hd) (b : Value) (s : Int) : Array Value := #[v, .int .i64 h.n, .string h.r, b, .int .i64 s]
theorem sizeS (v : Value) (h : Hd) (b : Value) (s : Int) : (Try.prog.info? 36).map (·.size) = some (sc v h b s).size := by
  show _ = some 5
  kernel_rfl

theorem oneS {v b : Value} (h : Hd) (s : Int) (hv : v.oneCell' = true) (hb : b.oneCell' = true) : (sc v h b s).all (·.oneCell') = true := by
  simp [sc, Value.oneCell']
  exact ⟨hv, hb⟩

end Go.Proofs.Ytfpaichdkddglab.Sr

/- Stores into a part of a row: the row has the new cells then, all else stays. -/
namespace Go.Proofs.Ytfpaichdkddglab.Mem
open Go.RowKit Go.Proofs.Ytfpaichdkddglab.Laws
set_option linter.unusedVariables false
set_option linter.unusedSimpArgs false

theorem gro_setCells (w : World) (g o : Nat) (vs : List Value) : w.grownBy (w.setCells g o vs) (some g) := by
  have h : ∀ (vs : List Value) (o : Nat) (w : World), (w.setCells g o vs).os = w.os ∧ (w.setCells g o vs).tape = w.tape ∧ (w.setCells g o vs).output = w.output := by
    intro vs
    induction vs with
    | nil => intro o w; exact ⟨rfl, rfl, rfl⟩
    | cons v r ih => intro o w; rw [World.setCells]; exact ih (o + 1) _
  obtain ⟨h1, h2, h3⟩ := h vs o w
  exact ⟨h1, h2, h3, by rw [size_setCells]; exact Nat.le_refl _, fun k _ hk => heap_setCells_other g k (fun e => hk (by rw [e])) vs o w⟩
theorem gro_setRow (w : World) (g : Nat) (cs : Array Value) : w.grownBy (w.setRow g cs) (some g) :=
  ⟨rfl, rfl, rfl, by rw [size_setRow]; exact Nat.le_refl _, fun k _ hk => setRow_other _ _ _ _ (fun e => hk (by rw [e]))⟩
theorem size_same {w w' : World} (h : w.grownBy w' none) : w.heap.size ≤ w'.heap.size := h.size
/-- several cells of a row are stored: the row has them then, all else stays -/
theorem wp_partG {P : Program} {op : Oper} {a : Act} {w : World} {K : Act → World → Prop} {Q : Exit → Act → World → Prop} (ty : TypeId) (x y : Operand) (ho : op.op = .store ty x y)
    (b o : Nat) (cells : Array Value) (hx : a.eval x = .pointer (some ⟨b, o, none⟩)) (hy : a.eval y = .agg cells) (cur : List Value) (t : TypeId) (hr : w.heap[b]? = some (.cells cur.toArray t (0, 0)))
    (hn : o + cells.size ≤ cur.length) (hi : (P.info? ty).map (·.size) = some cells.size) (h1 : cells.all (·.oneCell') = true) (new : List Value) (hnew : putL cur o cells.toList = new)
    (h : ∀ w', w'.heap[b]? = some (.cells new.toArray t (0, 0)) → w.grownBy w' (some b) → K (a.put op.dst undef) w') : op.wp P a w K Q := by
  refine wp_store_mid ty x y ho b o cells hx hy (there_row hr (by simpa using hn)) hi h1 (h _ ?_ (gro_setCells _ _ _ _))
  rw [← hnew]
  exact heap_setCells b cells.toList o w cur t hr
theorem wpl_partG {P : Program} {ops : Array Oper} {rest : List Oper} {op : Oper} {a : Act} {w : World} {Q : Exit → Act → World → Prop} (hgd : op.guard = none) (ty : TypeId) (x y : Operand) (ho : op.op = .store ty x y)
    (b o : Nat) (cells : Array Value) (hx : a.eval x = .pointer (some ⟨b, o, none⟩)) (hy : a.eval y = .agg cells) (cur : List Value) (t : TypeId) (hr : w.heap[b]? = some (.cells cur.toArray t (0, 0)))
    (hn : o + cells.size ≤ cur.length) (hi : (P.info? ty).map (·.size) = some cells.size) (h1 : cells.all (·.oneCell') = true) (new : List Value) (hnew : putL cur o cells.toList = new)
    (h : ∀ w', w'.heap[b]? = some (.cells new.toArray t (0, 0)) → w.grownBy w' (some b) → wpList P ops Q rest (a.put op.dst undef) w') : wpList P ops Q (op :: rest) a w :=
  wpList_plain hgd fun _ hK => wp_partG ty x y ho b o cells hx hy cur t hr hn hi h1 new hnew (fun w' r g => hK _ _ (h w' r g))
/-- one cell of a row is stored -/
theorem wp_oneG {P : Program} {op : Oper} {a : Act} {w : World} {K : Act → World → Prop} {Q : Exit → Act → World → Prop} (ty : TypeId) (x y : Operand) (ho : op.op = .store ty x y)
    (b o : Nat) (v : Value) (hx : a.eval x = .pointer (some ⟨b, o, none⟩)) (hy : a.eval y = v) (cur : List Value) (t : TypeId) (hr : w.heap[b]? = some (.cells cur.toArray t (0, 0)))
    (hn : o + 1 ≤ cur.length) (hi : (P.info? ty).map (·.size) = some 1) (h1 : v.oneCell' = true) (new : List Value) (hnew : putL cur o [v] = new)
    (h : ∀ w', w'.heap[b]? = some (.cells new.toArray t (0, 0)) → w.grownBy w' (some b) → K (a.put op.dst undef) w') : op.wp P a w K Q := by
  have ht := there_row (n := 1) hr (by simpa using hn)
  have hc : v.cells = #[v] := by cases v <;> first | rfl | cases h1
  have hrun : (storeVar ty ⟨b, o, none⟩ v).run P w = .ok () (w.setCells b o [v]) := by
    have := run_storeCells_cells (P := P) b o [v] 0 w (fun j hj => by simpa using (ht j (by simpa using hj)).1) (fun j hj => by simpa using (ht j (by simpa using hj)).2) (fun u hu => by simp at hu; subst hu; exact h1)
    cases hq : P.info? ty with
    | none => simp [hq] at hi
    | some i =>
      have hs : i.size = 1 := by simpa [hq] using hi
      simp only [Nat.add_zero] at this
      simp [storeVar, sizeOf, typeInfo, hq, hc, hs, this]
  have hK := h (w.setCells b o [v]) (by rw [← hnew]; exact heap_setCells b [v] o w cur t hr) (gro_setCells _ _ _ _)
  unfold Oper.wp execOp
  simp only [ho, hx, hy, Instr.storeAt, Instr.sureAddr, Sem.run_bind, Sem.run_pure, Result.andThen_ok, hrun]
  exact hK
theorem wpl_oneG {P : Program} {ops : Array Oper} {rest : List Oper} {op : Oper} {a : Act} {w : World} {Q : Exit → Act → World → Prop} (hgd : op.guard = none) (ty : TypeId) (x y : Operand) (ho : op.op = .store ty x y)
    (b o : Nat) (v : Value) (hx : a.eval x = .pointer (some ⟨b, o, none⟩)) (hy : a.eval y = v) (cur : List Value) (t : TypeId) (hr : w.heap[b]? = some (.cells cur.toArray t (0, 0)))
    (hn : o + 1 ≤ cur.length) (hi : (P.info? ty).map (·.size) = some 1) (h1 : v.oneCell' = true) (new : List Value) (hnew : putL cur o [v] = new)
    (h : ∀ w', w'.heap[b]? = some (.cells new.toArray t (0, 0)) → w.grownBy w' (some b) → wpList P ops Q rest (a.put op.dst undef) w') : wpList P ops Q (op :: rest) a w :=
  wpList_plain hgd fun _ hK => wp_oneG ty x y ho b o v hx hy cur t hr hn hi h1 new hnew (fun w' r g => hK _ _ (h w' r g))

end Go.Proofs.Ytfpaichdkddglab.Mem

/- The laws' helper szStringS, with what is left. -/
namespace Go.Proofs.Ytfpaichdkddglab.Strs
open Go.RowKit Go.Proofs.Ytfpaichdkddglab.Mem Go.Proofs.Ytfpaichdkddglab.Laws Go.Proofs.Ytfpaichdkddglab.Bytes
set_option linter.unusedVariables false
set_option linter.unusedSimpArgs false

set_option maxRecDepth 1000000 in
set_option maxHeartbeats 400000 in
/-- szStringS: below 0 where there is more than what is left; else what is left then. -/
theorem sz_any2 (w : World) (v : Value) (l : List ByteArray) (left : Nat) (h : Sl w v (ss l)) (hs : ∀ s ∈ l, s.size ≤ 9223372036854775807) (hx : l.length ≤ 9223372036854775807) (hlf : left ≤ 1048576) :
    Calls Try.prog 20 #[v, .int .i64 (left : Int)] w fun e w' => (∃ r : Int, e = .returned (.int .i64 r) ∧ (r < 0 ∨ (l.length + Puts.tot l ≤ left ∧ 0 ≤ r ∧ r ≤ left))) ∧ w = w' := by
  obtain ⟨ao, cap, rfl, hc1, _, hr1⟩ := h
  rw [ss_len] at hr1 hc1
  rw [ss_len]
  by_cases hbig : left < l.length
  · go_enter Try.func20, Try.ntmps20
    go_wp2
    go_ret
    exact ⟨⟨_, rfl, .inl (by decide)⟩, rfl⟩
  · go_enter Try.func20, Try.ntmps20
    go_wp2
    go_loop [1, 5] (fun lf i => ∃ (k m : Nat), k ≤ l.length ∧ i = .int .i64 k ∧ lf = .int .i64 (m : Int) ∧ m + l.length + Puts.tot (l.take k) = left) (fun _ i => l.length - (intOf i).toNat)
    case atStart => exact ⟨0, left - l.length, Nat.zero_le _, rfl, congrArg (Value.int .i64) (by omega), by simp [Puts.tot]; omega⟩
    case round =>
      obtain ⟨k, m, hk, rfl, rfl, hm⟩ := hrel
      have HM : Hid (m + l.length + Puts.tot (l.take k) = left) := hm
      have hmb : m ≤ 1048576 := by omega
      clear hm
      by_cases hlt : k < l.length
      · obtain ⟨b, off, s, rfl, hx0, hcell⟩ := Sl.strAt hr1 rfl hlt
        have hsz := hs s (List.mem_of_getElem? hx0)
        have HT : Hid (Puts.tot (l.take (k + 1)) = Puts.tot (l.take k) + s.size) := tot_take l k s hx0
        clear hx0 hr1 hs
        by_cases hneg : m < s.size
        · go_wp2
          go_ret
          exact ⟨⟨_, rfl, .inl (by decide)⟩, rfl⟩
        · go_wp2
          go_round
          case rel => exact ⟨k + 1, m - s.size, by omega, by go_num, congrArg (Value.int .i64) (by omega), by have := HM.out; have := HT.out; omega⟩
          case measure => simp [intOf]; omega
      · go_wp2
        go_ret
        refine ⟨⟨_, rfl, .inr ⟨?_, ?_, ?_⟩⟩, rfl⟩
        · have h1 := HM.out
          rw [List.take_of_length_le (by omega)] at h1
          omega
        · show (0 : Int) ≤ (m : Int)
          omega
        · have h1 := HM.out
          show (m : Int) ≤ (left : Int)
          omega

end Go.Proofs.Ytfpaichdkddglab.Strs

/- Chapter 11, the laws' helpers: a log's size, its turning, whether two are the same, marks. -/
namespace Go.Proofs.Ytfpaichdkddglab.Lg
open Go.RowKit Go.Proofs.Ytfpaichdkddglab.Mem Go.Proofs.Ytfpaichdkddglab.Laws Go.Proofs.Ytfpaichdkddglab.Bytes Go.Proofs.Ytfpaichdkddglab.Sha Go.Proofs.Ytfpaichdkddglab.Tr Go.Proofs.Ytfpaichdkddglab.He
set_option linter.unusedVariables false
set_option linter.unusedSimpArgs false

theorem alloc3_new (w : World) (A B C : Obj) : (((w.alloc A).alloc B).alloc C).heap[w.heap.size + 1 + 1]? = some C := by
  have h := heap_alloc_new ((w.alloc A).alloc B) C
  simpa using h

set_option maxRecDepth 1000000 in
set_option maxHeartbeats 2000000 in
theorem to_log (w : World) (v : Value) (l : List ByteArray) (h : Hd) (hs : Sl w v (ss l)) (hl : l.length ≤ 1000000000000) :
    Calls Try.prog 15 #[.agg #[v, .int .i64 h.n, .string h.r]] w fun e w' => ∃ v', e = .returned (.agg #[v', .int .i64 h.n, .string h.r]) ∧ Own w' w.heap.size w'.heap.size 9 v' (ss l) ∧ Below w.heap.size w w' := by
  obtain ⟨W, hW⟩ : ∃ W, W = ((w.alloc (.cells #[v, .int .i64 h.n, .string h.r] 26)).alloc (.cells #[.slice none 0 0, .int .i64 0, .string ⟨#[]⟩] 34)).alloc (.cells #[.slice none 0 0, .int .i64 0, .string ⟨#[]⟩] 34) := ⟨_, rfl⟩
  have z0 : W.heap.size = w.heap.size + 3 := by rw [hW]; simp
  have r0 : W.heap[w.heap.size]? = some (.cells #[v, .int .i64 h.n, .string h.r] 26 (0, 0)) := by rw [hW, heap_alloc_old _ _ (by simp; omega)]; exact heap_alloc2_old w _ _
  have r1 : W.heap[w.heap.size + 1]? = some (.cells (lc (.slice none 0 0) hd0) 34 (0, 0)) := by rw [hW, heap_alloc_old _ _ (by simp)]; exact heap_alloc2_new w _ _
  have r2 : W.heap[w.heap.size + 1 + 1]? = some (.cells (lc (.slice none 0 0) hd0) 34 (0, 0)) := by rw [hW]; exact alloc3_new w _ _ _
  have hB : Below w.heap.size w W := by rw [hW]; exact (((Below.refl _ _).alloc (Nat.le_refl _) _).alloc (by simp) _).alloc (by simp; omega) _
  have q := Strs.to_s W v l (hs.later hB) hl
  have HR0 : Hid _ := r0
  have HR1 : Hid _ := r1
  have HR2 : Hid _ := r2
  have HB : Hid _ := hB
  have HZ : Hid _ := z0
  have HW : Hid _ := hW
  obtain ⟨ao, cap, rfl, hcap⟩ := hs.form
  rw [ss_len] at *
  clear hW r0 r1 r2 hB z0 hs
  go_enter Try.func15, Try.ntmps15
  go_wp2_with fail
  rw [← HW.out]
  refine q.mono ?_
  rintro e w4 ⟨v', rfl, o4, b4⟩
  obtain ⟨ao4, L4, cap4, rfl, _, _⟩ := o4.form
  have R0 := rowKeep HR0.out b4
  have R1 := rowKeep HR1.out b4
  have R2 := rowKeep HR2.out b4
  have B4 : Below w.heap.size w w4 := HB.out.trans (b4.mono HB.out.size)
  have k0 : w4.cell? ⟨w.heap.size + 1 + 1, 0, none⟩ = some (.slice none 0 0) := row_at R2 0
  have f0 : w4.frozen? ⟨w.heap.size + 1 + 1, 0, none⟩ = false := row_free R2 0
  obtain ⟨X, hX, S0, S1, S2, SB, SO, SZ⟩ : ∃ X, Hid (w4.setCell ⟨w.heap.size + 1 + 1, 0, none⟩ (.slice ao4 L4 cap4) = X) ∧ X.heap[w.heap.size]? = some (.cells #[.slice ao l.length cap, .int .i64 h.n, .string h.r] 26 (0, 0)) ∧ Hid (X.heap[w.heap.size + 1]? = some (.cells (lc (.slice none 0 0) hd0) 34 (0, 0))) ∧ Hid (X.heap[w.heap.size + 1 + 1]? = some (.cells (lc (.slice ao4 L4 cap4) hd0) 34 (0, 0))) ∧ Hid (Below w.heap.size w X) ∧ Hid (Own X W.heap.size X.heap.size 9 (.slice ao4 L4 cap4) (ss l)) ∧ W.heap.size ≤ X.heap.size := by
    have hz := HZ.out
    refine ⟨_, rfl, ?_, ?_, ?_, ?_, ?_, ?_⟩
    · exact (Below.heap_setCell _ _ _ _ (by show w.heap.size ≠ w.heap.size + 1 + 1; omega)).trans R0
    · exact (Below.heap_setCell _ _ _ _ (by show w.heap.size + 1 ≠ w.heap.size + 1 + 1; omega)).trans R1
    · exact row_set R2 0 _
    · exact B4.setCell (p := ⟨w.heap.size + 1 + 1, 0, none⟩) (by show _ ≤ w.heap.size + 1 + 1; omega) _
    · exact (Own.setCell o4 _ (by omega)).mono (Nat.le_refl _) (by simp [World.setCell])
    · simp [World.setCell]; exact b4.size
  have c1 : X.cell? ⟨w.heap.size, 1, none⟩ = some (.int .i64 h.n) := row_at S0 1
  have c2 : X.cell? ⟨w.heap.size, 2, none⟩ = some (.string h.r) := row_at S0 2
  have qh := to_head X h
  rw [← hX.out] at qh c1 c2
  clear R0 R1 R2 o4 B4 q HB HR1 HR2 HR0 HW b4 S0
  go_wp2_with fail
  refine qh.mono ?_
  rw [hX.out]
  rintro e w6 ⟨rfl, b6⟩
  have T1 := rowKeep S1.out b6
  have T2 := rowKeep S2.out b6
  have TB : Below w.heap.size w w6 := SB.out.trans (b6.mono SB.out.size)
  have TO : Hid (Own w6 W.heap.size X.heap.size 9 (.slice ao4 L4 cap4) (ss l)) := Own.later SO.out b6 (Nat.le_refl _)
  have b6s := b6.size
  have th : w6.there (w.heap.size + 1 + 1) 1 2 := there_row T2 (by show _ ≤ 3; omega)
  obtain ⟨Y, HY, Y1, Y2, YB, YO, YZ⟩ : ∃ Y, Hid (w6.setCells (w.heap.size + 1 + 1) 1 (hc h).toList = Y) ∧ Hid (Y.heap[w.heap.size + 1]? = some (.cells (lc (.slice none 0 0) hd0) 34 (0, 0))) ∧ Hid (Y.heap[w.heap.size + 1 + 1]? = some (.cells (lc (.slice ao4 L4 cap4) h) 34 (0, 0))) ∧ Hid (Below w.heap.size w Y) ∧ Hid (Own Y W.heap.size X.heap.size 9 (.slice ao4 L4 cap4) (ss l)) ∧ X.heap.size ≤ Y.heap.size := by
    have hz := HZ.out
    refine ⟨_, rfl, ?_, ?_, ?_, ?_, ?_⟩
    · exact (heap_setCells_other (w.heap.size + 1 + 1) (w.heap.size + 1) (by omega) _ _ w6).trans T1
    · exact heap_setCells _ _ _ w6 (lc (.slice ao4 L4 cap4) hd0).toList _ T2
    · exact below_setCells (by omega) _ _ w6 TB
    · exact Own.keep TO.out (fun k hk1 hk2 => heap_setCells_other (w.heap.size + 1 + 1) k (by omega) _ _ w6)
    · rw [size_setCells]; exact b6s
  clear T1 T2 TB TO qh b6 S1 S2 SB SO hX c1 c2
  go_wp2_with (first | (refine wpList_store_mid rfl 32 _ _ rfl (w.heap.size + 1 + 1) 1 (hc h) rfl rfl th (sizeH _) (oneH _) ?_; rw [HY.out]) | (refine wpList_load_row rfl 34 _ rfl (w.heap.size + 1 + 1) rfl 34 (lc (.slice ao4 L4 cap4) h) (0, 0) _ Y2.out Try.underlying34 rfl (sizeL _ _) ?_) | (refine wpList_store_row rfl 34 _ _ rfl (w.heap.size + 1) (lc (.slice ao4 L4 cap4) h) rfl rfl 34 _ Y1.out (sizeL _ _) rfl (oneL _ rfl) ?_))
  refine bodyPost_ret (v := .agg (lc (.slice ao4 L4 cap4) h)) (results_cell_row rfl _ _ (w.heap.size + 1) 34 _ (0, 0) _ rfl (setRow_heap _ _ _ _ _ (0, 0) Y1.out) Try.underlying34 rfl (sizeL _ _)) rfl ⟨_, rfl, ?_, below_setRow YB.out (by omega) _⟩
  have hz := HZ.out
  exact (Own.setRow YO.out _ (by omega)).mono (by omega) (by simp; omega)

set_option maxRecDepth 1000000 in
set_option maxHeartbeats 2000000 in
theorem sz_log (w : World) (v : Value) (l : List ByteArray) (h : Hd) (left : Nat) (hs : Sl w v (ss l)) (hz : ∀ s ∈ l, s.size ≤ 9223372036854775807) (hx : l.length ≤ 9223372036854775807) (hr : h.r.size ≤ 9223372036854775807) (hlf : left ≤ 1048576) :
    Calls Try.prog 13 #[.agg #[v, .int .i64 h.n, .string h.r], .int .i64 (left : Int)] w fun e w' => (∃ r : Int, e = .returned (.int .i64 r) ∧ (r < 0 ∨ (l.length + Puts.tot l ≤ left ∧ h.r.size ≤ left ∧ 0 ≤ r ∧ r ≤ left))) ∧ Below w.heap.size w w' := by
  have hB : Below w.heap.size w (w.alloc (.cells #[v, .int .i64 h.n, .string h.r] 26)) := (Below.refl _ _).alloc (Nat.le_refl _) _
  have q := Strs.sz_any2 (w.alloc (.cells #[v, .int .i64 h.n, .string h.r] 26)) v l left (hs.later hB) hz hx hlf
  have HB : Hid _ := hB
  obtain ⟨ao, cap, rfl, hcap⟩ := hs.form
  rw [ss_len] at *
  clear hB hs
  go_enter Try.func13, Try.ntmps13
  go_wp2_with fail
  refine q.mono ?_
  rintro e WX ⟨⟨r, rfl, hr0⟩, hWX⟩
  subst hWX
  clear q
  by_cases h0 : r < 0
  · go_wp2
    go_ret
    exact ⟨⟨-1, rfl, .inl (by omega)⟩, HB.out⟩
  · rcases hr0 with hr0 | ⟨hr1, hr2, hr3⟩
    · exact absurd hr0 h0
    have qh : ∀ W, _ := fun W => sz_head W h r hr hr2 (by omega)
    by_cases hb : r - (h.r.size : Int) < 0
    · simp only [if_pos hb] at qh
      go_wp2_with fail
      refine (qh _).mono ?_
      rintro e w2 ⟨rfl, b2⟩
      have B2 : Below w.heap.size w w2 := HB.out.trans (b2.mono HB.out.size)
      clear qh
      go_wp2
      go_ret
      exact ⟨⟨-1, rfl, .inl (by omega)⟩, B2⟩
    · simp only [if_neg hb] at qh
      have hle : h.r.size ≤ left := by omega
      obtain ⟨m, hm⟩ : ∃ m, r - (h.r.size : Int) = m := ⟨_, rfl⟩
      have hm2 : 0 ≤ m ∧ m ≤ (left : Int) := by omega
      rw [hm] at hb
      simp only [hm] at qh
      clear hm
      go_wp2_with fail
      refine (qh _).mono ?_
      rintro e w2 ⟨rfl, b2⟩
      have B2 : Below w.heap.size w w2 := HB.out.trans (b2.mono HB.out.size)
      clear qh
      go_wp2
      go_ret
      exact ⟨⟨m, rfl, .inr ⟨hr1, hle, hm2.1, hm2.2⟩⟩, B2⟩

set_option maxRecDepth 1000000 in
set_option maxHeartbeats 2000000 in
theorem eq_log (w : World) (h : Hd) (v1 v2 : Value) (l : List ByteArray) (h1 : Sl w v1 (ss l)) (h2 : Sl w v2 (ss l)) (hl : l.length ≤ 1000000000000) :
    Calls Try.prog 18 #[.agg #[v1, .int .i64 h.n, .string h.r], .agg #[v2, .int .i64 h.n, .string h.r]] w fun e w' => e = .returned (.bool true) ∧ Below w.heap.size w w' := by
  obtain ⟨W, hW, r0, r1, HB⟩ : ∃ W, Hid ((w.alloc (.cells #[v1, .int .i64 h.n, .string h.r] 34)).alloc (.cells #[v2, .int .i64 h.n, .string h.r] 34) = W) ∧ W.heap[w.heap.size]? = some (.cells #[v1, .int .i64 h.n, .string h.r] 34 (0, 0)) ∧ W.heap[w.heap.size + 1]? = some (.cells #[v2, .int .i64 h.n, .string h.r] 34 (0, 0)) ∧ Hid (Below w.heap.size w W) := ⟨_, rfl, heap_alloc2_old w _ _, heap_alloc2_new w _ _, ((Below.refl _ _).alloc (Nat.le_refl _) _).alloc (by simp) _⟩
  have q := Strs.eqs_true W v1 v2 l (h1.later HB.out) (h2.later HB.out) hl
  obtain ⟨ao, cap, rfl, hcap⟩ := h1.form
  obtain ⟨ao2, cap2, rfl, hcap2⟩ := h2.form
  rw [ss_len] at *
  have qh : ∀ W', _ := fun W' => eq_head W' h
  have q' := q
  rw [← hW.out] at q'
  clear h1 h2 q
  go_enter Try.func18, Try.ntmps18
  go_wp2_with fail
  refine q'.mono ?_
  rw [hW.out]
  rintro e w1 ⟨rfl, b1, _⟩
  have s0 := rowKeep r0 (b1 _)
  have s1 := rowKeep r1 (b1 _)
  have c1 : w1.cell? ⟨w.heap.size, 1, none⟩ = some (.int .i64 h.n) := row_at s0 1
  have c2 : w1.cell? ⟨w.heap.size, 2, none⟩ = some (.string h.r) := row_at s0 2
  have d1 : w1.cell? ⟨w.heap.size + 1, 1, none⟩ = some (.int .i64 h.n) := row_at s1 1
  have d2 : w1.cell? ⟨w.heap.size + 1, 2, none⟩ = some (.string h.r) := row_at s1 2
  have HB1 : Hid (Below w.heap.size w w1) := HB.out.trans ((b1 _).mono HB.out.size)
  clear q' b1 HB s0 s1 r0 r1
  go_wp2_with fail
  refine (qh _).mono ?_
  rintro e w2 ⟨rfl, b2⟩
  have HB2 : Hid (Below w.heap.size w w2) := HB1.out.trans (b2.mono HB1.out.size)
  clear qh b2 HB1
  go_wp2
  go_ret
  exact ⟨rfl, HB2.out⟩

set_option maxRecDepth 1000000 in
set_option maxHeartbeats 2000000 in
theorem mark_log (w : World) (n : Hd) (v : Value) (lo hi : Nat) (hs : List ByteArray) (k0 : Nat) (h : Own w lo hi 9 v (ss hs)) (hhi : hi ≤ w.heap.size) (hx : hs.length ≤ 1000000000) (hk1 : 1 ≤ k0) (hk0 : k0 ≤ 1000000000) :
    Calls Try.prog 19 #[.agg #[v, .int .i64 n.n, .string n.r], .int .i64 (k0 : Int)] w fun e w' => e = .returned (.int .i64 ((k0 + hs.length : Nat) : Int)) ∧ Own w' lo hi 9 v (ss (Strs.mts k0 hs.length)) ∧ Apart lo hi w w' := by
  have hb : Below w.heap.size w (w.alloc (.cells #[v, .int .i64 n.n, .string n.r] 34)) := (Below.refl _ _).alloc (Nat.le_refl _) _
  have q := Strs.marks_any (w.alloc (.cells #[v, .int .i64 n.n, .string n.r] 34)) v lo hi hs k0 (h.later hb hhi) (Nat.le_trans hhi hb.size) (by omega) hk1 (by omega)
  have HA : Hid (Apart lo hi w (w.alloc (.cells #[v, .int .i64 n.n, .string n.r] 34))) := (Apart.refl lo hi w).grow hb
  obtain ⟨ao, L, cap, rfl, _, _⟩ := h.form
  obtain ⟨m, hm⟩ : ∃ m : Int, ((k0 + hs.length : Nat) : Int) = m := ⟨_, rfl⟩
  rw [hm] at q ⊢
  clear h hb hm
  go_enter Try.func19, Try.ntmps19
  go_wp2_with fail
  refine q.mono ?_
  rintro e w1 ⟨rfl, o1, a1⟩
  have HO : Hid _ := o1
  have HA2 : Hid (Apart lo hi w w1) := HA.out.trans a1
  clear q o1 a1 HA
  go_wp2
  go_ret
  exact ⟨rfl, HO.out, HA2.out⟩

/-- marks from k on, as heads -/
def mh (k : Nat) : Hd := ⟨(k : Int), Strs.mt (k + 1)⟩
def mhs (k n : Nat) : List Hd := (List.range n).map fun i => mh (k + 2 * i)
theorem mhs_len (k n : Nat) : (mhs k n).length = n := by simp [mhs]
theorem mhs_get (k n j : Nat) (h : j < n) : (mhs k n)[j]? = some (mh (k + 2 * j)) := by simp [mhs, h]
theorem own_keepH {n m cap lo g : Nat} {e : TypeId} {w w' : World} {cs : List Value} (h : w.ownsRow lo e n (.slice (some ⟨g, 0, none⟩) m cap) m cs) (hk : w'.heap[g]? = w.heap[g]?) : w'.ownsRow lo e n (.slice (some ⟨g, 0, none⟩) m cap) m cs := by
  refine ⟨h.1, ?_⟩
  rcases h.2 with ⟨h', _⟩ | ⟨g', cap', cur, h', hq, hh, r⟩
  · simp at h'
  · simp only [Value.slice.injEq, Option.some.injEq, Addr.mk.injEq, and_true, true_and] at h'
    obtain ⟨rfl, rfl⟩ := h'
    exact .inr ⟨g, cap, cur, rfl, hq, by rw [hk]; exact hh, r⟩

end Go.Proofs.Ytfpaichdkddglab.Lg
