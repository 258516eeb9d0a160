/- Stores into a part of a row: the row has the new cells then, all else stays. -/
import Derived.Test.YteemblfjghnooaaGro
import Derived.Test.YteemblfjghnooaaRow2
import Derived.Deep.MidRow
namespace Go.Proofs.Yteemblfjghnooaa.Mem
open Go.RowKit Go.Proofs.Yteemblfjghnooaa.Laws
set_option linter.unusedVariables false
set_option linter.unusedSimpArgs false

theorem gro_setCells (w : World) (g o : Nat) (vs : List Value) : w.grownBy (w.setCells g o vs) (some g) := by
  have h : ∀ (vs : List Value) (o : Nat) (w : World), (w.setCells g o vs).os = w.os ∧ (w.setCells g o vs).tape = w.tape ∧ (w.setCells g o vs).output = w.output := by
    intro vs
    induction vs with
    | nil => intro o w; exact ⟨rfl, rfl, rfl⟩
    | cons v r ih => intro o w; rw [World.setCells]; exact ih (o + 1) _
  obtain ⟨h1, h2, h3⟩ := h vs o w
  exact ⟨h1, h2, h3, by rw [size_setCells]; exact Nat.le_refl _, fun k _ hk => heap_setCells_other g k (fun e => hk (by rw [e])) vs o w⟩
theorem gro_setRow (w : World) (g : Nat) (cs : Array Value) : w.grownBy (w.setRow g cs) (some g) :=
  ⟨rfl, rfl, rfl, by rw [size_setRow]; exact Nat.le_refl _, fun k _ hk => setRow_other _ _ _ _ (fun e => hk (by rw [e]))⟩
theorem size_same {w w' : World} (h : w.grownBy w' none) : w.heap.size ≤ w'.heap.size := h.size
/-- several cells of a row are stored: the row has them then, all else stays -/
theorem wp_partG {P : Program} {op : Oper} {a : Act} {w : World} {K : Act → World → Prop} {Q : Exit → Act → World → Prop} (ty : TypeId) (x y : Operand) (ho : op.op = .store ty x y)
    (b o : Nat) (cells : Array Value) (hx : a.eval x = .pointer (some ⟨b, o, none⟩)) (hy : a.eval y = .agg cells) (cur : List Value) (t : TypeId) (hr : w.heap[b]? = some (.cells cur.toArray t (0, 0)))
    (hn : o + cells.size ≤ cur.length) (hi : (P.info? ty).map (·.size) = some cells.size) (h1 : cells.all (·.oneCell') = true) (new : List Value) (hnew : putL cur o cells.toList = new)
    (h : ∀ w', w'.heap[b]? = some (.cells new.toArray t (0, 0)) → w.grownBy w' (some b) → K (a.put op.dst undef) w') : op.wp P a w K Q := by
  refine wp_store_mid ty x y ho b o cells hx hy (there_row hr (by simpa using hn)) hi h1 (h _ ?_ (gro_setCells _ _ _ _))
  rw [← hnew]
  exact heap_setCells b cells.toList o w cur t hr
theorem wpl_partG {P : Program} {ops : Array Oper} {rest : List Oper} {op : Oper} {a : Act} {w : World} {Q : Exit → Act → World → Prop} (hgd : op.guard = none) (ty : TypeId) (x y : Operand) (ho : op.op = .store ty x y)
    (b o : Nat) (cells : Array Value) (hx : a.eval x = .pointer (some ⟨b, o, none⟩)) (hy : a.eval y = .agg cells) (cur : List Value) (t : TypeId) (hr : w.heap[b]? = some (.cells cur.toArray t (0, 0)))
    (hn : o + cells.size ≤ cur.length) (hi : (P.info? ty).map (·.size) = some cells.size) (h1 : cells.all (·.oneCell') = true) (new : List Value) (hnew : putL cur o cells.toList = new)
    (h : ∀ w', w'.heap[b]? = some (.cells new.toArray t (0, 0)) → w.grownBy w' (some b) → wpList P ops Q rest (a.put op.dst undef) w') : wpList P ops Q (op :: rest) a w :=
  wpList_plain hgd fun _ hK => wp_partG ty x y ho b o cells hx hy cur t hr hn hi h1 new hnew (fun w' r g => hK _ _ (h w' r g))
/-- one cell of a row is stored -/
theorem wp_oneG {P : Program} {op : Oper} {a : Act} {w : World} {K : Act → World → Prop} {Q : Exit → Act → World → Prop} (ty : TypeId) (x y : Operand) (ho : op.op = .store ty x y)
    (b o : Nat) (v : Value) (hx : a.eval x = .pointer (some ⟨b, o, none⟩)) (hy : a.eval y = v) (cur : List Value) (t : TypeId) (hr : w.heap[b]? = some (.cells cur.toArray t (0, 0)))
    (hn : o + 1 ≤ cur.length) (hi : (P.info? ty).map (·.size) = some 1) (h1 : v.oneCell' = true) (new : List Value) (hnew : putL cur o [v] = new)
    (h : ∀ w', w'.heap[b]? = some (.cells new.toArray t (0, 0)) → w.grownBy w' (some b) → K (a.put op.dst undef) w') : op.wp P a w K Q := by
  have ht := there_row (n := 1) hr (by simpa using hn)
  have hc : v.cells = #[v] := by cases v <;> first | rfl | cases h1
  have hrun : (storeVar ty ⟨b, o, none⟩ v).run P w = .ok () (w.setCells b o [v]) := by
    have := run_storeCells_cells (P := P) b o [v] 0 w (fun j hj => by simpa using (ht j (by simpa using hj)).1) (fun j hj => by simpa using (ht j (by simpa using hj)).2) (fun u hu => by simp at hu; subst hu; exact h1)
    cases hq : P.info? ty with
    | none => simp [hq] at hi
    | some i =>
      have hs : i.size = 1 := by simpa [hq] using hi
      simp only [Nat.add_zero] at this
      simp [storeVar, sizeOf, typeInfo, hq, hc, hs, this]
  have hK := h (w.setCells b o [v]) (by rw [← hnew]; exact heap_setCells b [v] o w cur t hr) (gro_setCells _ _ _ _)
  unfold Oper.wp execOp
  simp only [ho, hx, hy, Instr.storeAt, Instr.sureAddr, Sem.run_bind, Sem.run_pure, Result.andThen_ok, hrun]
  exact hK
theorem wpl_oneG {P : Program} {ops : Array Oper} {rest : List Oper} {op : Oper} {a : Act} {w : World} {Q : Exit → Act → World → Prop} (hgd : op.guard = none) (ty : TypeId) (x y : Operand) (ho : op.op = .store ty x y)
    (b o : Nat) (v : Value) (hx : a.eval x = .pointer (some ⟨b, o, none⟩)) (hy : a.eval y = v) (cur : List Value) (t : TypeId) (hr : w.heap[b]? = some (.cells cur.toArray t (0, 0)))
    (hn : o + 1 ≤ cur.length) (hi : (P.info? ty).map (·.size) = some 1) (h1 : v.oneCell' = true) (new : List Value) (hnew : putL cur o [v] = new)
    (h : ∀ w', w'.heap[b]? = some (.cells new.toArray t (0, 0)) → w.grownBy w' (some b) → wpList P ops Q rest (a.put op.dst undef) w') : wpList P ops Q (op :: rest) a w :=
  wpList_plain hgd fun _ hK => wp_oneG ty x y ho b o v hx hy cur t hr hn hi h1 new hnew (fun w' r g => hK _ _ (h w' r g))

end Go.Proofs.Yteemblfjghnooaa.Mem
