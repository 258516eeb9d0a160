/- Texts in one: Rin, Gs4, Gs5, Gs6. -/
import Derived.Test.YtpfiaginonnjmaaPq8
import Derived.Test.YtpfiaginonnjmaaPq23
import Derived.Test.YtpfiaginonnjmaaPq21
import Derived.RangeFuncCalls
import Derived.TacticsIn
import Derived.OrdersIn
import Derived.Deep.RegionHeld
/- A region that draws its order, inside a round of a range over a function: walked by the plain laws; no program is named here. -/
namespace Go.Proofs.Ytpfiaginonnjmaa.Mem
open Go.RowKit
set_option linter.unusedVariables false

theorem oper_in {P : Program} {o : Oper} {a : Act} {w : World} {K : Act → World → Prop} {Q : Exit → Act → World → Prop} (l n : Nat) (hnd : ∀ c, o.op ≠ .defer c) (h : o.wp P a w K Q) : o.wpIn (Fence.wide.inRound l) n P a w K Q := by
  refine ⟨fun _ _ => trivial, ?_⟩
  rw [Fence.inRound_round, Oper.semAt_some l _ _ hnd]
  unfold Oper.wp at h
  generalize (execOp a.eval o).run P w = r at h ⊢
  cases r with
  | ok x w' =>
    cases x with
    | value v => exact h
    | skip => exact h
    | defer d => exact h
    | enter f args =>
      refine ⟨fun h9 => (by cases h9), CallsIn.inRound l (callsIn_wide.2 ?_)⟩
      exact Calls.mono h (fun e w'' he => by cases e <;> exact he)
    | row row args => exact ⟨fun h9 => (by cases h9), fun c cs _ => let ⟨v, w', r, s⟩ := h c cs; ⟨v, w', r, stepsIn_wide.2 s⟩⟩
    | _ => exact h.elim
  | halt x w' => cases x <;> first | exact h | exact h.elim

theorem ops_in {P : Program} {ops : Array Oper} {Q : Exit → Act → World → Prop} (l n : Nat) (hd : ∀ (i : Nat) (o : Oper), ops[i]? = some o → ∀ c, o.op ≠ .defer c) (hl : ¬ LetsOut Q) : ∀ (is : List Nat) (a : Act) (w : World), wpOps P ops Q is a w → wpOpsIn (Fence.wide.inRound l) n P ops Q is a w := by
  intro is
  induction is with
  | nil => intro a w h; exact h
  | cons i r ih =>
    intro a w h
    unfold wpOps at h
    unfold wpOpsIn
    cases ho : ops[i]? with
    | none => simp only [ho] at h ⊢; exact ih a w h
    | some o =>
      simp only [ho] at h ⊢
      split
      · rename_i hw
        rw [if_pos hw] at h
        rcases h with h | h
        · exact oper_in l n (hd i o ho) (Oper.wp_mono (fun a w => ih a w) h)
        · exact absurd h.2 hl
      · rename_i hw
        rw [if_neg hw] at h
        exact ⟨fun _ _ => trivial, ih _ _ h⟩
/-- no operation of these puts off a call -/
def noDefer (ops : Array Oper) : Bool := ops.all fun o => match o.op with | .defer _ => false | _ => true
theorem noDefer_at {ops : Array Oper} (h : noDefer ops = true) : ∀ (i : Nat) (o : Oper), ops[i]? = some o → ∀ c, o.op ≠ .defer c := by
  intro i o ho c hc
  unfold noDefer at h
  rw [Array.all_eq_true] at h
  obtain ⟨hi, e⟩ := Array.getElem?_eq_some_iff.1 ho
  have := h i hi
  rw [e, hc] at this
  cases this
theorem region_round {P : Program} {ops : Array Oper} {Q : Exit → Act → World → Prop} {S : World → Prop} {id l n : Nat} {a : Act} {w : World} (hm : P.follows .mixedOrders = true) (hd : noDefer ops = true) (hl : ¬ LetsOut Q) (hS : S w.drew)
    (h : S w.drew → wpAnyH P .any ops Q S ops.size (Array.replicate ops.size false) a w.drew) : (Code.region id ops true).wpIn (Fence.wide.inRound l) n P Q a w :=
  wpIn_region_draw fun t => ops_in l n (noDefer_at hd) hl _ _ _ (by
    simp only [Region.schedule, hm, Bool.true_or, if_true]
    exact wpAny_sound ops.size t _ a _ (wpAny_of_held _ _ _ _ (h hS)))

theorem oper_wide {P : Program} {o : Oper} {a : Act} {w : World} {K : Act → World → Prop} {Q : Exit → Act → World → Prop} (n : Nat) (hnd : ∀ c, o.op ≠ .defer c) (h : o.wp P a w K Q) : o.wpIn Fence.wide n P a w K Q := by
  have h2 := oper_in 0 n hnd h
  unfold Oper.wpIn at h2 ⊢
  refine ⟨fun _ _ => trivial, ?_⟩
  have h3 := h2.2
  rw [Fence.inRound_round, Oper.semAt_some 0 _ _ hnd] at h3
  show Oper.uponIn Fence.wide n P o a K Q ((Oper.semAt none a.eval o).run P w)
  rw [Oper.semAt_none]
  generalize (execOp a.eval o).run P w = r at h3 ⊢
  cases r with
  | ok x w' => cases x <;> exact h3
  | halt x w' => cases x <;> exact h3
/-- a record is stored into a row, in a round -/
theorem wplIn_partG {P : Program} {ops : Array Oper} {rest : List Oper} {op : Oper} {a : Act} {w : World} {l n : Nat} {Q : Exit → Act → World → Prop} (hgd : op.guard = none) (ty : TypeId) (x y : Operand) (ho : op.op = .store ty x y)
    (b o : Nat) (cells : Array Value) (hx : a.eval x = .pointer (some ⟨b, o, none⟩)) (hy : a.eval y = .agg cells) (cur : List Value) (t : TypeId) (hr : w.heap[b]? = some (.cells cur.toArray t (0, 0)))
    (hn : o + cells.size ≤ cur.length) (hi : (P.info? ty).map (·.size) = some cells.size) (h1 : cells.all (·.oneCell') = true) (new : List Value) (hnew : putL cur o cells.toList = new)
    (h : ∀ w', w'.heap[b]? = some (.cells new.toArray t (0, 0)) → w.grownBy w' (some b) → wpListIn (Fence.wide.inRound l) n P ops Q rest (a.put op.dst undef) w') : wpListIn (Fence.wide.inRound l) n P ops Q (op :: rest) a w :=
  wpListIn_plain hgd fun _ hK => oper_in l n (by rw [ho]; intro c hc; cases hc) (wp_partG ty x y ho b o cells hx hy cur t hr hn hi h1 new hnew (fun w' r g => hK _ _ (h w' r g)))
/-- and outside of one -/
theorem wplIn_partW {P : Program} {ops : Array Oper} {rest : List Oper} {op : Oper} {a : Act} {w : World} {n : Nat} {Q : Exit → Act → World → Prop} (hgd : op.guard = none) (ty : TypeId) (x y : Operand) (ho : op.op = .store ty x y)
    (b o : Nat) (cells : Array Value) (hx : a.eval x = .pointer (some ⟨b, o, none⟩)) (hy : a.eval y = .agg cells) (cur : List Value) (t : TypeId) (hr : w.heap[b]? = some (.cells cur.toArray t (0, 0)))
    (hn : o + cells.size ≤ cur.length) (hi : (P.info? ty).map (·.size) = some cells.size) (h1 : cells.all (·.oneCell') = true) (new : List Value) (hnew : putL cur o cells.toList = new)
    (h : ∀ w', w'.heap[b]? = some (.cells new.toArray t (0, 0)) → w.grownBy w' (some b) → wpListIn Fence.wide n P ops Q rest (a.put op.dst undef) w') : wpListIn Fence.wide n P ops Q (op :: rest) a w :=
  wpListIn_plain hgd fun _ hK => oper_wide n (by rw [ho]; intro c hc; cases hc) (wp_partG ty x y ho b o cells hx hy cur t hr hn hi h1 new hnew (fun w' r g => hK _ _ (h w' r g)))

end Go.Proofs.Ytpfiaginonnjmaa.Mem

/- Chapter 15, the landed code: is there an entry of a name; FindEntry. -/
namespace Go.Proofs.Ytpfiaginonnjmaa.Fe
open Go.RowKit Go.Shelf Go.Proofs.Ytpfiaginonnjmaa.Mem Go.Proofs.Ytpfiaginonnjmaa.Laws Go.Proofs.Ytpfiaginonnjmaa.Ver Go.Proofs.Ytpfiaginonnjmaa.Ent
set_option linter.unusedVariables false
set_option linter.unusedSimpArgs false
attribute [local go_sem] Oper.semAt_some

set_option maxRecDepth 1000000 in
theorem sought_in (n : Nat) (W : World) (ao : Option Addr) (L cap : Nat) (f : Fn) (b c : Array Value) : CallsIn Fence.wide n Try.prog 37 #[.slice ao L cap, .func f b c] W fun e w' => e = .returned (.func (.func 60) #[] #[.pointer (some ⟨W.heap.size, 0, none⟩), .pointer (some ⟨W.heap.size + 1, 0, none⟩)]) ∧ Below W.heap.size W w' ∧ W.heap.size + 2 ≤ w'.heap.size ∧ Boxed w' W.heap.size 24 (.slice ao L cap) ∧ Boxed w' (W.heap.size + 1) 68 (.func f b c) := by
  obtain ⟨W1, HW1, b1, y1, hS1, r1, r2⟩ := Ke.l2 W #[.slice ao L cap] 24 #[.func f b c] 68
  refine callsIn_wide.2 ?_
  go_enter Try.func37, Try.ntmps37
  go_wp2
  go_ret
  rw [HW1.out]
  exact ⟨rfl, b1, y1, r1.out, r2.out⟩

theorem row_own {β : Type} (g : Nat) (cs : Array Value) (t : TypeId) (fr : Nat × Nat) : Own (fun (_ : β) W => W.heap[g]? = some (.cells cs t fr)) := fun s X Y row hs hg hrow => by
  refine (hg.block g (Array.getElem?_eq_some_iff.1 hs).1 (fun e => ?_)).trans hs
  obtain ⟨o, ho, hc⟩ := hrow g e.symm
  rw [hs] at ho
  cases ho
  cases hc

/-- an entry whose texts are not too long, with not too many needs -/
def Fit9 (x : Ev) : Prop := x.n.path.size ≤ 1000000000000 ∧ x.n.pre.size ≤ 1000000000000 ∧ x.l.length ≤ 1000000000 ∧ ∀ n ∈ x.l, n.path.size ≤ 1000000000000 ∧ n.pre.size ≤ 1000000000000

theorem any_find (q : Nd) (l : List Ev) {xs : List { x // x ∈ l }} (h : xs.map Subtype.val = l.filter (fun x => isN q x.n)) : l.any (fun x => isN q x.n) = !xs.isEmpty := by
  cases xs with
  | nil =>
    have h9 : l.filter (fun x => isN q x.n) = [] := h.symm
    rw [List.filter_eq_nil_iff] at h9
    rw [List.any_eq_false.2 h9]
    rfl
  | cons y r =>
    have hm : y.1 ∈ l.filter (fun x => isN q x.n) := by rw [← h]; exact List.mem_cons_self ..
    rw [List.any_eq_true.2 ⟨y.1, y.2, (List.mem_filter.1 hm).2⟩]
    rfl

set_option maxRecDepth 1000000 in
set_option maxHeartbeats 4000000 in
theorem there_in (w : World) (v : Value) (l : List Ev) (q : Nd) (h : Se w v l) (hl : l.length ≤ 1000000000) :
    CallsIn Fence.wide 6 Try.prog 46 #[v, .agg #[.string q.path, .int .i64 q.a, .int .i64 q.b, .int .i64 q.c, .string q.pre]] w fun e w' => e = .returned (.bool (l.any fun x => isN q x.n)) ∧ Below w.heap.size w w' := by
  have h1 : 1 ≤ 6 := by omega
  have HS : Hid (Se w v l) := h
  obtain ⟨ao, cap, rfl, hcap⟩ := h.form
  clear h
  obtain ⟨W1, HW1, b1, y1, hS1, rq, rb⟩ := Ke.l2 w #[.string q.path, .int .i64 q.a, .int .i64 q.b, .int .i64 q.c, .string q.pre] 38 #[.bool false] 4
  refine callsIn_of_wp_marks Try.func46 rfl trivial ?_ rfl
  simp only [Try.ntmps46, List.size_toArray, List.length_cons, List.length_nil, Nat.reduceAdd, Nat.reduceSub, Array.replicate_succ, Array.replicate_zero, List.push_toArray, List.append_toArray, List.nil_append, List.cons_append]
  gi_wp2_with fail
  refine ⟨trivial, ?_⟩
  rw [HW1.out]
  refine (sought_in _ _ _ _ _ _ _ _).mono ?_
  rintro e W2 ⟨rfl, b2, y2, x1, x2⟩
  have B2 : Below w.heap.size w W2 := b1.trans (b2.mono b1.size)
  have rb2 : Boxed W2 (w.heap.size + 1) 4 (.bool false) := rowKeep rb.out b2
  gi_wp2_with fail
  have hbel : ∀ W D : World, True := fun _ _ => trivial
  refine wpIn_rangeFunc_ownF rfl h1 (gf := 60) (lb := #[.pointer (some ⟨W1.heap.size, 0, none⟩), .pointer (some ⟨W1.heap.size + 1, 0, none⟩)]) rfl trivial (enters_of Try.func60 (by kernel_rfl) rfl)
    (stops_name 5 (by omega) w W2 B2 _ l HS.out (by omega) q W1.heap.size b1.size x1 x2) Ks_t (fun W l o o' h => Ks_b B2.size W l o o' h) (Below.refl _ _) (fun _ => rfl)
    (fun pre W => (pre = [] ∧ Boxed W (w.heap.size + 1) 4 (.bool false)) ∧ Below w.heap.size w W)
    (fun c pre W => (c = .ret ∧ pre ≠ [] ∧ Boxed W (w.heap.size + 1) 4 (.bool true)) ∧ Below w.heap.size w W)
    (OwnFrom.and (Own.from (fun s A B row hs hg hr => ⟨hs.1, boxed_own _ _ (fun _ => _) () A B row hs.2 hg hr⟩) _) (ownFrom_below (Nat.le_refl _) B2.size))
    (fun c => OwnFrom.and (Own.from (fun s A B row hs hg hr => ⟨hs.1, hs.2.1, boxed_own _ _ (fun _ => _) () A B row hs.2.2 hg hr⟩) _) (ownFrom_below (Nat.le_refl _) B2.size))
    ⟨⟨rfl, rb2⟩, B2⟩
    (fun x => { tmps := #[.slice ao l.length cap, .agg #[.string q.path, .int .i64 q.a, .int .i64 q.b, .int .i64 q.c, .string q.pre], undef, .pointer (some ⟨w.heap.size, 0, none⟩), .pointer (some ⟨w.heap.size + 1, 0, none⟩), .slice ao l.length cap, .agg #[.string q.path, .int .i64 q.a, .int .i64 q.b, .int .i64 q.c, .string q.pre], .func (.func 38) #[.agg #[.string q.path, .int .i64 q.a, .int .i64 q.b, .int .i64 q.c, .string q.pre]] #[], .func (.func 60) #[] #[.pointer (some ⟨W1.heap.size, 0, none⟩), .pointer (some ⟨W1.heap.size + 1, 0, none⟩)], .agg #[.string x.1.n.path, .int .i64 x.1.n.a, .int .i64 x.1.n.b, .int .i64 x.1.n.c, .string x.1.n.pre, x.1.u]], defers := [] }) ?assign ?body ?done ?stop
  case assign =>
    intro lr x W K hK
    refine wpIn_skip ?_
    simpa [Exit.then] using hK
  case body =>
    rintro lr pre x W ⟨⟨rfl, b0⟩, hB⟩ _
    have k0 := b0.cell
    have f0 := b0.frozen
    gi_wp2
    exact ⟨KeepsOthers.setCell _ _ _, ⟨rfl, by simp, Boxed.set _ b0⟩, hB.setCell (p := ⟨w.heap.size + 1, 0, none⟩) (by show _ ≤ w.heap.size + 1; omega) _⟩
  case done =>
    rintro D ys W hD hy ⟨⟨rfl, b0⟩, hB⟩ hK
    have k0 := b0.cell
    have f0 := b0.frozen
    have hF := any_find q l hy
    gi_wp2
    have hK' := (KeepsOthers.setCell W ⟨w.heap.size + 1, 0, none⟩ (.bool false)).same D _ hK rfl
    refine ⟨by simp, .inl ⟨_, _, rfl, run_takeDeferred hK', ?_⟩⟩
    have hc5 := cell_kept (Boxed.set (.bool false) b0).cell (grownBy_putObj' _ D (.deferred none)) (fun r e => by cases e; exact ⟨_, hK', rfl⟩)
    refine ⟨.bool false, ?_, by rw [hF]; rfl, (hB.setCell (p := ⟨w.heap.size + 1, 0, none⟩) (by show _ ≤ w.heap.size + 1; omega) _).trans (belowK_b (w := w) (Nat.le_refl _) _ D _ _ (by have := B2.size; omega) hK' rfl rfl)⟩
    simp [results, Try.f46, go_sem, hc5]
  case stop =>
    rintro D c pre W hD hpre ⟨⟨rfl, hne, b0⟩, hB⟩ hK
    have hF : l.any (fun x => isN q x.n) = true := by
      cases pre with
      | nil => exact absurd rfl hne
      | cons y r =>
        have hm : y.1 ∈ l.filter (fun x => isN q x.n) := hpre.subset (List.mem_cons_self ..)
        exact List.any_eq_true.2 ⟨y.1, y.2, (List.mem_filter.1 hm).2⟩
    gi_wp2
    refine ⟨by simp, .inl ⟨_, _, rfl, run_takeDeferred hK, ?_⟩⟩
    have hc5 := cell_kept b0.cell (grownBy_putObj' _ D (.deferred none)) (fun r e => by cases e; exact ⟨_, hK, rfl⟩)
    refine ⟨.bool true, ?_, by rw [hF], hB.trans (belowK_b (w := w) (Nat.le_refl _) W D _ _ (by have := B2.size; omega) hK rfl rfl)⟩
    simp [results, Try.f46, go_sem, hc5]

theorem there_impl (w : World) (v : Value) (l : List Ev) (q : Nd) (h : Se w v l) (hl : l.length ≤ 1000000000) :
    Calls Try.prog 46 #[v, .agg #[.string q.path, .int .i64 q.a, .int .i64 q.b, .int .i64 q.c, .string q.pre]] w fun e w' => e = .returned (.bool (l.any fun x => isN q x.n)) ∧ Below w.heap.size w w' := callsIn_wide.1 (there_in w v l q h hl)

end Go.Proofs.Ytpfiaginonnjmaa.Fe

/- Chapter 15, the landed code: FindEntry. -/
namespace Go.Proofs.Ytpfiaginonnjmaa.Fe
open Go.RowKit Go.Shelf Go.Proofs.Ytpfiaginonnjmaa.Mem Go.Proofs.Ytpfiaginonnjmaa.Laws Go.Proofs.Ytpfiaginonnjmaa.Ver Go.Proofs.Ytpfiaginonnjmaa.Ent
set_option linter.unusedVariables false
set_option linter.unusedSimpArgs false
attribute [local go_sem] Oper.semAt_some

theorem On.turn {n m : Nat} {w w' : World} {lo hi : Nat} {e : TypeId} {v : Value} {cs : List Value} {row : Option Nat} (h : On n w lo hi e v m cs) (hg : w.grownBy w' row) (hr : ∀ r, row = some r → ∃ o : Obj, w.heap[r]? = some o ∧ o.isCells = false) : On n w' lo hi e v m cs := by
  refine On.keep1 h (fun j hj => hg.block j (On.lt h hj).2.2 (fun e9 => ?_))
  obtain ⟨o, ho, hc⟩ := hr j e9.symm
  rcases h.1.2 with ⟨rfl, _⟩ | ⟨g, cap, cur, rfl, _, hgb, _⟩
  · simp [Value.ownBlock] at hj
  · simp [Value.ownBlock] at hj
    subst hj
    rw [hgb] at ho
    cases ho
    cases hc
theorem row_turn {w w' : World} {row : Option Nat} {g : Nat} {cs : Array Value} {t : TypeId} {fr : Nat × Nat} (h : w.heap[g]? = some (.cells cs t fr)) (hg : w.grownBy w' row) (hr : ∀ r, row = some r → ∃ o : Obj, w.heap[r]? = some o ∧ o.isCells = false) : w'.heap[g]? = some (.cells cs t fr) := row_own g cs t fr () w w' row h hg hr
theorem others_below9 {A B : World} (h : Below A.heap.size A B) : KeepsOthers A B := ⟨h.size, fun k o hk _ => (h.block k (Array.getElem?_eq_some_iff.1 hk).1).trans hk⟩
theorem others_row {A B : World} {g : Nat} {cs : Array Value} {t : TypeId} {fr : Nat × Nat} (h : A.grownBy B (some g)) (hr : A.heap[g]? = some (.cells cs t fr)) : KeepsOthers A B := KeepsOthers.of_grownBy h fun j o ej hj => by cases ej; rw [hr] at hj; cases hj; rfl
theorem res_cb {P : Program} {fn : Func} {p u : Tmp} {ty tz : TypeId} (h : fn.results = #[.cell p ty, .cell u tz]) (tmps : Array Value) (w : World) (g1 g2 : Nat) (t : TypeId) (c1 : Array Value) (v2 : Value) (fr : Nat × Nat) (d : TypeDesc)
    (hp : tmps.getD p undef = .pointer (some ⟨g1, 0, none⟩)) (hg1 : w.heap[g1]? = some (.cells c1 t fr))
    (hu : P.underlying ty = some d) (hd : (match d with | .struct _ | .array _ _ => true | _ => false) = true) (hi1 : (P.info? ty).map (·.size) = some c1.size)
    (hq : tmps.getD u undef = .pointer (some ⟨g2, 0, none⟩)) (hv : (loadVar tz ⟨g2, 0, none⟩).run P w = .ok v2 w) :
    (results fn tmps).run P w = .ok (.tuple #[.agg c1, v2]) w := by
  have hp' : tmps[p]?.getD undef = .pointer (some ⟨g1, 0, none⟩) := by simpa using hp
  have hq' : tmps[u]?.getD undef = .pointer (some ⟨g2, 0, none⟩) := by simpa using hq
  simp [results, h, hp', hq', asAddr, run_loadVar_row w g1 t ty c1 fr d hg1 hu hd hi1, hv]
theorem load_bool (w : World) (g : Nat) (v : Value) (h : w.cell? ⟨g, 0, none⟩ = some v) : (loadVar 4 ⟨g, 0, none⟩).run Try.prog w = .ok v w := by
  simp [go_sem, h]

set_option maxRecDepth 1000000 in
set_option maxHeartbeats 4000000 in
theorem find_in (w : World) (v : Value) (l : List Ev) (q : Nd) (h : Se w v l) (hl : l.length ≤ 1000000000) (hz : ∀ x ∈ l, Fit9 x) :
    CallsIn Fence.wide 6 Try.prog 9 #[v, .string q.path, .agg #[.int .i64 q.a, .int .i64 q.b, .int .i64 q.c, .string q.pre]] w fun e w' => ∃ u', e = .returned (.tuple #[.agg #[.string (res15 q l).1.path, .int .i64 (res15 q l).1.a, .int .i64 (res15 q l).1.b, .int .i64 (res15 q l).1.c, .string (res15 q l).1.pre, u'], .bool (res15 q l).2.2]) ∧ Od w' w.heap.size w'.heap.size u' (res15 q l).2.1 ∧ Below w.heap.size w w' := by
  have h1 : 1 ≤ 6 := by omega
  have HS : Hid (Se w v l) := h
  have HZ : Hid (∀ x ∈ l, Fit9 x) := hz
  obtain ⟨ao, cap, rfl, hcap⟩ := h.form
  clear h hz
  obtain ⟨W1, HW1, b1, y1, hS1, rv, re, rb⟩ := Ke.l3 w #[.int .i64 q.a, .int .i64 q.b, .int .i64 q.c, .string q.pre] 26 #[.string ⟨#[]⟩, .int .i64 0, .int .i64 0, .int .i64 0, .string ⟨#[]⟩, .slice none 0 0] 31 #[.bool false] 4
  refine callsIn_of_wp_marks Try.func9 rfl trivial ?_ rfl
  simp only [Try.ntmps9, List.size_toArray, List.length_cons, List.length_nil, Nat.reduceAdd, Nat.reduceSub, Array.replicate_succ, Array.replicate_zero, List.push_toArray, List.append_toArray, List.nil_append, List.cons_append]
  gi_wp2_with fail
  refine ⟨trivial, ?_⟩
  rw [HW1.out]
  refine (sought_in _ _ _ _ _ _ _ _).mono ?_
  rintro e W2 ⟨rfl, b2, y2, x1, x2⟩
  have B2 : Below w.heap.size w W2 := b1.trans (b2.mono b1.size)
  have rb2 : Boxed W2 (w.heap.size + 1 + 1) 4 (.bool false) := rowKeep rb.out b2
  have re2 : W2.heap[w.heap.size + 1]? = some (.cells #[.string ⟨#[]⟩, .int .i64 0, .int .i64 0, .int .i64 0, .string ⟨#[]⟩, .slice none 0 0] 31 (0, 0)) := rowKeep re.out b2
  have hst := stops_name 5 (by omega) w W2 B2 _ l HS.out (by omega) q W1.heap.size b1.size x1 x2
  clear rb re rv HW1 hS1 b2 x1 x2
  gi_wp2_with fail
  refine wpIn_rangeFunc_ownH rfl h1 (gf := 60) (lb := #[.pointer (some ⟨W1.heap.size, 0, none⟩), .pointer (some ⟨W1.heap.size + 1, 0, none⟩)]) rfl trivial (enters_of Try.func60 (by kernel_rfl) rfl)
    hst Ks_t (fun W l o o' h => Ks_b B2.size W l o o' h) (Below.refl _ _) (fun _ => rfl)
    (fun pre W => (pre = [] ∧ W.heap[w.heap.size + 1]? = some (.cells #[.string ⟨#[]⟩, .int .i64 0, .int .i64 0, .int .i64 0, .string ⟨#[]⟩, .slice none 0 0] 31 (0, 0)) ∧ Boxed W (w.heap.size + 1 + 1) 4 (.bool false)) ∧ Below w.heap.size w W)
    (fun c pre W => (c = .ret ∧ ∃ (x : { x // x ∈ l }) (a9 : Option Addr) (L9 c9 hi : Nat), pre = [x] ∧ W.heap[w.heap.size + 1]? = some (.cells #[.string x.1.n.path, .int .i64 x.1.n.a, .int .i64 x.1.n.b, .int .i64 x.1.n.c, .string x.1.n.pre, .slice a9 L9 c9] 31 (0, 0)) ∧ Boxed W (w.heap.size + 1 + 1) 4 (.bool true) ∧ Od W w.heap.size hi (.slice a9 L9 c9) x.1.l ∧ hi ≤ W.heap.size) ∧ Below w.heap.size w W)
    (OwnFrom.and (Own.from (fun s A B row hs hg hr => ⟨hs.1, row_turn hs.2.1 hg hr, boxed_own _ _ (fun _ => _) () A B row hs.2.2 hg hr⟩) _) (ownFrom_below (Nat.le_refl _) B2.size))
    (fun c => OwnFrom.and (Own.from (fun s A B row hs hg hr => by
      obtain ⟨hc, x, a9, L9, c9, hi, hp, hrow, hbx, hod, hhi⟩ := hs
      exact ⟨hc, x, a9, L9, c9, hi, hp, row_turn hrow hg hr, boxed_own _ _ (fun _ => _) () A B row hbx hg hr, On.turn hod hg hr, Nat.le_trans hhi hg.size⟩) _) (ownFrom_below (Nat.le_refl _) B2.size))
    ⟨⟨rfl, re2, rb2⟩, B2⟩
    (fun x a' W => ∃ g, w.heap.size + 3 ≤ g ∧ W.heap[g]? = some (.cells #[.string x.1.n.path, .int .i64 x.1.n.a, .int .i64 x.1.n.b, .int .i64 x.1.n.c, .string x.1.n.pre, x.1.u] 31 (0, 0)) ∧ a' = { tmps := #[.slice ao l.length cap, .string q.path, .agg #[.int .i64 q.a, .int .i64 q.b, .int .i64 q.c, .string q.pre], undef, undef, .pointer (some ⟨w.heap.size, 0, none⟩), .pointer (some ⟨w.heap.size + 1, 0, none⟩), .pointer (some ⟨w.heap.size + 1 + 1, 0, none⟩), .pointer (some ⟨g, 0, none⟩), .slice ao l.length cap, .string q.path, .agg #[.int .i64 q.a, .int .i64 q.b, .int .i64 q.c, .string q.pre], .agg #[.string q.path, .int .i64 q.a, .int .i64 q.b, .int .i64 q.c, .string q.pre], .func (.func 38) #[.agg #[.string q.path, .int .i64 q.a, .int .i64 q.b, .int .i64 q.c, .string q.pre]] #[], .func (.func 60) #[] #[.pointer (some ⟨W1.heap.size, 0, none⟩), .pointer (some ⟨W1.heap.size + 1, 0, none⟩)], .agg #[.string x.1.n.path, .int .i64 x.1.n.a, .int .i64 x.1.n.b, .int .i64 x.1.n.c, .string x.1.n.pre, x.1.u], undef, undef, undef], defers := [] })
    (fun x a' => fun s A B row hs hg hr => by
      obtain ⟨g, hg1, hrow, ha⟩ := hs
      exact ⟨g, hg1, row_turn hrow hg (fun r e => (hr r e).2), ha⟩)
    ?assign ?body ?done ?stop
  case assign =>
    rintro lr pre ⟨⟨xn, xu, xl⟩, hm⟩ W K hI hK
    obtain ⟨⟨rfl, e0, b0⟩, hB⟩ := hI
    obtain ⟨_, au, cu, hu, _⟩ := HS.out.2 _ hm
    have hu2 : xu = .slice au xl.length cu := hu
    subst hu2
    have hWs := hB.size
    have hk2 := hK { tmps := #[.slice ao l.length cap, .string q.path, .agg #[.int .i64 q.a, .int .i64 q.b, .int .i64 q.c, .string q.pre], undef, undef, .pointer (some ⟨w.heap.size, 0, none⟩), .pointer (some ⟨w.heap.size + 1, 0, none⟩), .pointer (some ⟨w.heap.size + 1 + 1, 0, none⟩), .pointer (some ⟨W.heap.size, 0, none⟩), .slice ao l.length cap, .string q.path, .agg #[.int .i64 q.a, .int .i64 q.b, .int .i64 q.c, .string q.pre], .agg #[.string q.path, .int .i64 q.a, .int .i64 q.b, .int .i64 q.c, .string q.pre], .func (.func 38) #[.agg #[.string q.path, .int .i64 q.a, .int .i64 q.b, .int .i64 q.c, .string q.pre]] #[], .func (.func 60) #[] #[.pointer (some ⟨W1.heap.size, 0, none⟩), .pointer (some ⟨W1.heap.size + 1, 0, none⟩)], .agg #[.string xn.path, .int .i64 xn.a, .int .i64 xn.b, .int .i64 xn.c, .string xn.pre, .slice au xl.length cu], undef, undef, undef], defers := [] } (W.alloc (.cells #[.string xn.path, .int .i64 xn.a, .int .i64 xn.b, .int .i64 xn.c, .string xn.pre, .slice au xl.length cu] 31)) ((KeepsOthers.alloc _ _).from _) (Ks_below ((Below.refl _ _).alloc (Nat.le_refl _) _) hWs) ⟨⟨rfl, rowKeep e0 ((Below.refl _ _).alloc (Nat.le_refl _) _), Boxed.alloc b0 _⟩, hB.alloc hWs _⟩ ⟨W.heap.size, by have := b0.lt; omega, heap_alloc_new W _, rfl⟩
    gi_wp2
    exact hk2
  case body =>
    rintro lr pre ⟨⟨xn, xu, xl⟩, hm⟩ a' W hlr hrec ⟨⟨rfl, e0, b0⟩, hB⟩ ⟨g, hg, rx, rfl⟩ hlt
    have hsd : Sd W xu xl := (HS.out.2 _ hm).later hB
    obtain ⟨f1, f2, f3, f4⟩ := HZ.out _ hm
    have q3 := owne_impl W xn xu xl hsd f3 f1 f2 f4
    have cx := row_at rx
    have hBs := hB.size
    dsimp only at cx
    gi_wp2_with fail
    refine ⟨trivial, ?_⟩
    refine (CallsIn.inRound lr (callsIn_wide.2 q3)).mono ?_
    rintro e w3 ⟨u3, rfl, o3, b3⟩
    obtain ⟨a9, c9, rfl⟩ := Od.slice o3
    have e3 := rowKeep e0 b3
    have b03 : Boxed w3 (w.heap.size + 1 + 1) 4 (.bool false) := Boxed.same9 b0 b3
    have B3 := hB.trans (b3.mono hB.size)
    have K3 := others_below9 b3
    clear q3 cx rx e0 b0 hB b3
    gi_wp2_with (refine wplIn_partG rfl 31 _ _ rfl (w.heap.size + 1) 0 (ec xn (.slice a9 xl.length c9)) rfl rfl [.string ⟨#[]⟩, .int .i64 0, .int .i64 0, .int .i64 0, .string ⟨#[]⟩, .slice none 0 0] 31 e3 (Nat.le_of_ble_eq_true rfl) (sizeE _ _) (oneE _ rfl) [.string xn.path, .int .i64 xn.a, .int .i64 xn.b, .int .i64 xn.c, .string xn.pre, .slice a9 xl.length c9] rfl ?_)
    intro w4 r4 g4
    have b04 : Boxed w4 (w.heap.size + 1 + 1) 4 (.bool false) := rowGro b03 g4 (by intro h9; injection h9 with h9; omega)
    have k4 := b04.cell
    have f4 := b04.frozen
    have B4 : Below w.heap.size w w4 := belowGro B3 g4 B3.size (fun k9 h9 => by injection h9 with h9; omega)
    have K4 := K3.trans (others_row g4 e3)
    have o4 : Od w4 W.heap.size w3.heap.size (.slice a9 xl.length c9) xl := On.keep1 o3 (fun j hj => g4.block j (On.lt o3 hj).2.2 (fun e9 => On.neRow o3 e3 (by decide) (hj.trans e9)))
    have z4 := g4.size
    clear e3 b03 B3 K3 g4 o3
    have g5 := grownBy_setCell' w4 (w.heap.size + 1 + 1) (.bool true)
    have o5 : Od (w4.setCell ⟨w.heap.size + 1 + 1, 0, none⟩ (.bool true)) W.heap.size w3.heap.size (.slice a9 xl.length c9) xl := On.keep1 o4 (fun j hj => g5.block j (On.lt o4 hj).2.2 (fun e9 => On.neRow o4 b04 (by decide) (hj.trans e9)))
    have r5 := rowGro r4 g5 (by intro h9; injection h9 with h9; omega)
    have HO5 := Ke.h (On.mono o5 hBs (Nat.le_refl _))
    have HR5 := Ke.h r5
    have HB5 := Ke.h (B4.setCell (p := ⟨w.heap.size + 1 + 1, 0, none⟩) (by show _ ≤ w.heap.size + 1 + 1; omega) (.bool true))
    have HK5 := Ke.h ((K4.trans (KeepsOthers.setCell w4 ⟨w.heap.size + 1 + 1, 0, none⟩ (.bool true))).from W2.heap.size)
    have HX5 := Ke.h (Boxed.set (.bool true) b04)
    have HZ5 := Ke.h (Nat.le_trans z4 g5.size)
    clear o4 o5 r5 g5 K4 B4
    gi_wp2
    exact ⟨HK5.out, ⟨rfl, ⟨⟨xn, xu, xl⟩, hm⟩, a9, xl.length, c9, w3.heap.size, rfl, HR5.out, HX5.out, HO5.out, HZ5.out⟩, HB5.out⟩
  case done =>
    rintro D ys W hD hy ⟨⟨rfl, e0, b0⟩, hB⟩ hK
    have hR : Hid (res15 q l = (none15, [], false)) := by
      show _ = _
      unfold res15
      have h9 : l.filter (fun x => isN q x.n) = [] := hy.symm
      rw [List.filter_eq_nil_iff] at h9
      rw [List.find?_eq_none.2 (fun x hx => h9 x hx)]
    gi_wp2_with (refine wplIn_partW rfl 31 _ _ rfl (w.heap.size + 1) 0 (ec none15 (.slice none 0 0)) rfl rfl [.string ⟨#[]⟩, .int .i64 0, .int .i64 0, .int .i64 0, .string ⟨#[]⟩, .slice none 0 0] 31 e0 (Nat.le_of_ble_eq_true rfl) (sizeE _ _) (oneE _ rfl) [.string ⟨#[]⟩, .int .i64 0, .int .i64 0, .int .i64 0, .string ⟨#[]⟩, .slice none 0 0] rfl ?_)
    intro w4 r4 g4
    have b04 : Boxed w4 (w.heap.size + 1 + 1) 4 (.bool false) := rowGro b0 g4 (by intro h9; injection h9 with h9; omega)
    have k4 := b04.cell
    have f4 := b04.frozen
    have B4 : Below w.heap.size w w4 := belowGro hB g4 hB.size (fun k9 h9 => by injection h9 with h9; omega)
    have hK4 := (others_row g4 e0).same D _ hK rfl
    gi_wp2
    have hK5 := (KeepsOthers.setCell w4 ⟨w.heap.size + 1 + 1, 0, none⟩ (.bool false)).same D _ hK4 rfl
    refine ⟨by simp, .inl ⟨_, _, rfl, run_takeDeferred hK5, ?_⟩⟩
    have g5 := grownBy_setCell' w4 (w.heap.size + 1 + 1) (.bool false)
    have r5 := rowGro r4 g5 (by intro h9; injection h9 with h9; omega)
    have r6 := row_turn r5 (grownBy_putObj' _ D (.deferred none)) (fun r e => by cases e; exact ⟨_, hK5, rfl⟩)
    have c6 := cell_kept (Boxed.set (.bool false) b04).cell (grownBy_putObj' _ D (.deferred none)) (fun r e => by cases e; exact ⟨_, hK5, rfl⟩)
    have B6 : Below w.heap.size w ((w4.setCell ⟨w.heap.size + 1 + 1, 0, none⟩ (.bool false)).putObj D (.deferred none)) := (B4.setCell (p := ⟨w.heap.size + 1 + 1, 0, none⟩) (by show _ ≤ w.heap.size + 1 + 1; omega) _).trans (belowK_b (w := w) (Nat.le_refl _) _ D _ _ (by have := B2.size; omega) hK5 rfl rfl)
    refine ⟨_, res_cb rfl _ _ (w.heap.size + 1) (w.heap.size + 1 + 1) 31 _ _ (0, 0) _ rfl r6 Try.underlying31 rfl (sizeE none15 _) rfl (load_bool _ _ _ c6), ?_⟩
    rw [hR.out]
    exact ⟨_, rfl, Od.empty _ _ _, B6⟩
  case stop =>
    rintro D c pre W hD hpre ⟨⟨rfl, x, a9, L9, c9, hi, rfl, r4, b04, o4, hhi⟩, hB⟩ hK
    have hR : Hid (res15 q l = (x.1.n, x.1.l, true)) := by
      show _ = _
      unfold res15
      obtain ⟨t, ht⟩ := hpre
      have hf : l.find? (fun x => isN q x.n) = some x.1 := by rw [← List.head?_filter, ← ht]; rfl
      rw [hf]
    gi_wp2
    refine ⟨by simp, .inl ⟨_, _, rfl, run_takeDeferred hK, ?_⟩⟩
    have gr := grownBy_putObj' W D (.deferred none)
    have hgr : ∀ r, some D = some r → ∃ o : Obj, W.heap[r]? = some o ∧ o.isCells = false := fun r e => by cases e; exact ⟨_, hK, rfl⟩
    have r6 := row_turn r4 gr hgr
    have c6 := cell_kept b04.cell gr hgr
    have o6 := On.turn o4 gr hgr
    have B6 : Below w.heap.size w (W.putObj D (.deferred none)) := hB.trans (belowK_b (w := w) (Nat.le_refl _) W D _ _ (by have := B2.size; omega) hK rfl rfl)
    refine ⟨_, res_cb rfl _ _ (w.heap.size + 1) (w.heap.size + 1 + 1) 31 _ _ (0, 0) _ rfl r6 Try.underlying31 rfl (sizeE x.1.n _) rfl (load_bool _ _ _ c6), ?_⟩
    rw [hR.out]
    exact ⟨_, rfl, On.mono o6 (Nat.le_refl _) (Nat.le_trans hhi gr.size), B6⟩

theorem find_impl (w : World) (v : Value) (l : List Ev) (q : Nd) (h : Se w v l) (hl : l.length ≤ 1000000000) (hz : ∀ x ∈ l, Fit9 x) :
    Calls Try.prog 9 #[v, .string q.path, .agg #[.int .i64 q.a, .int .i64 q.b, .int .i64 q.c, .string q.pre]] w fun e w' => ∃ u', e = .returned (.tuple #[.agg #[.string (res15 q l).1.path, .int .i64 (res15 q l).1.a, .int .i64 (res15 q l).1.b, .int .i64 (res15 q l).1.c, .string (res15 q l).1.pre, u'], .bool (res15 q l).2.2]) ∧ Od w' w.heap.size w'.heap.size u' (res15 q l).2.1 ∧ Below w.heap.size w w' := callsIn_wide.1 (find_in w v l q h hl hz)

end Go.Proofs.Ytpfiaginonnjmaa.Fe

/- Chapter 15, the landed code: VersionsOf. -/
namespace Go.Proofs.Ytpfiaginonnjmaa.Fe
open Go.RowKit Go.Shelf Go.Proofs.Ytpfiaginonnjmaa.Mem Go.Proofs.Ytpfiaginonnjmaa.Laws Go.Proofs.Ytpfiaginonnjmaa.Ver Go.Proofs.Ytpfiaginonnjmaa.Ent
set_option linter.unusedVariables false
set_option linter.unusedSimpArgs false
attribute [local go_sem] Oper.semAt_some

/-- what a round keeps, for the iterator and for the loop -/
def Kz9 (n0 : Nat) (bs : List Nat) (A B : World) : Prop := n0 ≤ A.heap.size ∧ KeepsOthers A B ∧ Ks n0 bs A B
theorem Kz9.refl {n0 : Nat} {bs : List Nat} {A : World} (h : n0 ≤ A.heap.size) : Kz9 n0 bs A A := ⟨h, KeepsOthers.refl A, Below.refl _ _, fun b hb t v hv => hv⟩
theorem Kz9.later {n0 : Nat} {bs : List Nat} {A B C : World} (h : Kz9 n0 bs A B) (b : Below B.heap.size B C) : Kz9 n0 bs A C :=
  ⟨h.1, h.2.1.trans (others_below9 b), Ks_t h.2.2 (Ks_below b (Nat.le_trans h.1 h.2.2.1.size))⟩
theorem Kz9.gro {n0 : Nat} {bs : List Nat} {A B C : World} {r : Option Nat} (h : Kz9 n0 bs A B) (g : B.grownBy C r) (h1 : ∀ k, r = some k → n0 ≤ k) (h2 : ∀ b ∈ bs, r ≠ some b) (h3 : ∀ (j : Nat) (o : Obj), r = some j → B.heap[j]? = some o → o.isCells = true) : Kz9 n0 bs A C :=
  ⟨h.1, h.2.1.trans (KeepsOthers.of_grownBy g h3), Ks_t h.2.2 ⟨belowGro (Below.refl _ _) g (Nat.le_trans h.1 h.2.2.1.size) h1, fun b hb t v hv => rowGro hv g (h2 b hb)⟩⟩
theorem Kz9.row {n0 : Nat} {bs : List Nat} {A B C : World} {x : Nat} {cs : Array Value} {t : TypeId} {fr : Nat × Nat} (h : Kz9 n0 bs A B) (hr : B.heap[x]? = some (.cells cs t fr)) (g : B.grownBy C (some x)) (h1 : n0 ≤ x) (h2 : ∀ b ∈ bs, b ≠ x) : Kz9 n0 bs A C :=
  h.gro g (fun k e => by injection e; omega) (fun b hb e => by injection e with e; exact h2 b hb e.symm) (fun j o ej hj => by cases ej; rw [hr] at hj; cases hj; rfl)
theorem Kz9.own {n0 n m : Nat} {bs : List Nat} {A B C : World} {lo hi : Nat} {e : TypeId} {v : Value} {cs : List Value} (h : Kz9 n0 bs A B) (o : On n B lo hi e v m cs) (g : B.grownBy C v.ownBlock) (h1 : n0 ≤ lo) (h2 : ∀ b ∈ bs, b < lo) : Kz9 n0 bs A C :=
  h.gro g (fun k e => by have := On.lt o e; omega) (fun b hb e => by have := On.lt o e; have := h2 b hb; omega) (fun j o9 ej hj => by
    rcases o.1.2 with ⟨rfl, _⟩ | ⟨g9, cap, cur, rfl, _, hgb, _⟩
    · simp [Value.ownBlock] at ej
    · simp [Value.ownBlock] at ej
      subst ej
      rw [hgb] at hj
      cases hj
      rfl)
/-- versions that are owned, and end ahead of what is new -/
def Owt (w : World) (lo hi : Nat) (v : Value) (l : List Nd) : Prop := Ow w lo hi v l ∧ hi ≤ w.heap.size
theorem Owt.later {w w' : World} {lo hi : Nat} {v : Value} {l : List Nd} (h : Owt w lo hi v l) (b : Below w.heap.size w w') : Owt w' lo hi v l := ⟨On.later h.1 b h.2, Nat.le_trans h.2 b.size⟩
theorem Owt.wide {w : World} {lo hi lo' : Nat} {v : Value} {l : List Nd} (h : Owt w lo hi v l) (h1 : lo' ≤ lo) : Ow w lo' w.heap.size v l := On.mono h.1 h1 h.2
theorem snocW {w : World} {lo hi : Nat} {v : Value} {l : List Nd} {n : Nd} (o : On 4 w lo hi 26 v (l.length + 1) (vcs l ++ (vc n).toList)) : Ow w lo hi v (l ++ [n]) := Ow.snoc o
theorem snocD {w : World} {lo hi : Nat} {v : Value} {l : List Nd} {n : Nd} (o : On 5 w lo hi 38 v (l.length + 1) (nds l ++ (nc n).toList)) : Od w lo hi v (l ++ [n]) := Od.snoc o
theorem nc_ones (n : Nd) : ∀ u ∈ (nc n).toList, u.oneCell' = true := cs_oneN n

set_option maxRecDepth 1000000 in
set_option maxHeartbeats 4000000 in
theorem path_impl (w : World) (p : ByteArray) (x : Nd) (u : Value) (g : Nat) (hg : Boxed w g 9 (.string p)) :
    Calls Try.prog 42 #[.agg #[.string x.path, .int .i64 x.a, .int .i64 x.b, .int .i64 x.c, .string x.pre, u], .pointer (some ⟨g, 0, none⟩)] w fun e w' => e = .returned (.bool (x.path.toList == p.toList)) ∧ Below w.heap.size w w' := by
  obtain ⟨W1, HW1, b1, y1, hS1, r1⟩ := Ke.l1 w #[.string x.path, .int .i64 x.a, .int .i64 x.b, .int .i64 x.c, .string x.pre, u] 31
  have a2 : ∀ ob, (w.alloc ob).cell? ⟨g, 0, none⟩ = some (.string p) := fun ob => (Boxed.alloc hg ob).cell
  go_enter Try.func42, Try.ntmps42
  go_wp2
  go_ret
  exact ⟨rfl, by first | exact b1 | (rw [HW1.out]; exact b1)⟩

set_option maxRecDepth 1000000 in
set_option maxHeartbeats 4000000 in
theorem stops_path (n : Nat) (hn : 1 ≤ n) (we w : World) (hwe : Below we.heap.size we w) (v : Value) (l : List Ev) (h : Se we v l) (hl : l.length ≤ 1000000000000) (p : ByteArray) (g : Nat) (b : Nat) (hb : we.heap.size ≤ b) (x1 : Boxed w b 24 v) (x3 : Boxed w g 9 (.string p)) (x2 : Boxed w (b + 1) 68 (.func (.func 42) #[] #[.pointer (some ⟨g, 0, none⟩)])) :
    SeqStopsK Fence.wide n Try.prog 60 #[.pointer (some ⟨b, 0, none⟩), .pointer (some ⟨b + 1, 0, none⟩)] (fun x : { x // x ∈ l } => #[.agg #[.string x.1.n.path, .int .i64 x.1.n.a, .int .i64 x.1.n.b, .int .i64 x.1.n.c, .string x.1.n.pre, x.1.u]]) (Ks we.heap.size [g, b, b + 1])
      (fun xs => xs.map Subtype.val = l.filter (fun x => x.n.path.toList == p.toList)) (fun pre => pre.map Subtype.val <+: l.filter (fun x => x.n.path.toList == p.toList)) (l.length + 1) w := fun lr J Jx W hW hJ hJx hY h0 => by
  have HS : Hid (Se we v l) := h
  obtain ⟨ao, cap, rfl, hcap⟩ := h.form
  have hBW : Below we.heap.size we W := hwe.trans (hW.mono hwe.size)
  have c1 := (Boxed.same9 x1 hW).cell
  have X1 : Hid (Boxed W b 24 (.slice ao l.length cap)) := Boxed.same9 x1 hW
  have X2 : Hid (Boxed W (b + 1) 68 (.func (.func 42) #[] #[.pointer (some ⟨g, 0, none⟩)])) := Boxed.same9 x2 hW
  have hJb : ∀ (pre : List { x // x ∈ l }) (V V' : World), J pre V → Below V.heap.size V V' → J pre V' := fun pre V V' hj hB => hJ pre V V' none hj (grown_below9 hB) (fun r e => by cases e)
  have X3 : Hid (Boxed W g 9 (.string p)) := Boxed.same9 x3 hW
  clear x1 x2 x3 h
  refine callsIn_of_wp Try.func60 rfl trivial ?_ rfl
  simp only [Try.ntmps60, List.size_toArray, List.length_cons, List.length_nil, Nat.reduceAdd, Nat.reduceSub, Array.replicate_succ, Array.replicate_zero, List.push_toArray, List.append_toArray, List.nil_append, List.cons_append]
  gi_wp2
  gi_loopw [8] (fun i wr => ∃ (k : Nat) (Q : List { x // x ∈ l }), k ≤ l.length ∧ i = .int .i64 (k : Int) ∧ Hid (Q.map Subtype.val = (l.take k).filter (fun x => x.n.path.toList == p.toList)) ∧ J Q wr ∧ Hid (Below we.heap.size we wr) ∧ Hid (Boxed wr (b + 1) 68 (.func (.func 42) #[] #[.pointer (some ⟨g, 0, none⟩)])) ∧ Hid (Boxed wr b 24 (.slice ao l.length cap)) ∧ Hid (Boxed wr g 9 (.string p))) (fun i _ => l.length - (intOf i).toNat)
  case atStart => exact ⟨0, [], Nat.zero_le _, rfl, by show _ = _; simp, h0, hBW, X2, X1, X3⟩
  case round =>
    obtain ⟨k, Q, hk, rfl, HQ, hj, HB, X2, X1, X3⟩ := hrel
    clear hBW c1
    by_cases hlt : k < l.length
    · obtain ⟨x, hx⟩ : ∃ x, l[k]? = some x := ⟨l[k], by simp [hlt]⟩
      have hmem : x ∈ l := List.mem_of_getElem? hx
      obtain ⟨b9, off, cap9, he, _, m0, m1, m2, m3, m4, m5, hsd⟩ := Se.at (HS.out.later HB.out) hx
      simp only [Value.slice.injEq] at he
      obtain ⟨rfl, _, rfl⟩ := he
      have HX : Hid (l[k]? = some x) := hx
      have HQL : Hid (Q.length ≤ k) := len_filter HQ.out hk
      obtain ⟨au, Lu, cu, hu⟩ : ∃ au Lu cu, x.u = .slice au Lu cu := by
        obtain ⟨_, au, cu, hu, _⟩ := hsd
        exact ⟨au, _, cu, hu⟩
      have hy0 := hY Q ⟨x, hmem⟩
      dsimp only at hy0
      rw [hu] at m5 hy0
      clear hx hsd
      -- the loop's variable
      obtain ⟨W1, HW1, b1, y1, hS1, r1⟩ := Ke.l1 wr #[.string x.n.path, .int .i64 x.n.a, .int .i64 x.n.b, .int .i64 x.n.c, .string x.n.pre, .slice au Lu cu] 31
      have hlt2 : (k : Int) < (l.length : Int) := by omega
      have a2 : ∀ ob, (wr.alloc ob).cell? ⟨b + 1, 0, none⟩ = some _ := fun ob => (Boxed.alloc X2.out ob).cell
      have B1 := Ke.b HB b1
      have X21 := Ke.h (Boxed.same9 X2.out b1)
      have X11 := Ke.h (Boxed.same9 X1.out b1)
      have X31 := Ke.h (Boxed.same9 X3.out b1)
      have hj1 := hJb Q _ _ hj b1
      have hq := fun W (hB : Below we.heap.size we W) (hg : Boxed W g 9 (.string p)) => path_impl W p x.n (.slice au Lu cu) g hg
      clear X1 X2 X3 HB hj
      have hnq : (x.n.path.toList == p.toList) = (x.n.path.toList == p.toList) := rfl
      obtain ⟨P, hP⟩ : ∃ P, (x.n.path.toList == p.toList) = P := ⟨_, rfl⟩
      rw [hP] at hq
      have HP : Hid ((x.n.path.toList == p.toList) = P) := hP
      clear hP hnq
      gi_wp2_with fail
      refine ⟨trivial, ?_⟩
      rw [HW1.out]
      refine (callsIn_wide.2 (hq _ B1.out X31.out)).mono ?_
      rintro e w2 ⟨rfl, b2⟩
      have B2 := Ke.b B1 b2
      have X22 := Ke.h (Boxed.same9 X21.out b2)
      have X12 := Ke.h (Boxed.same9 X11.out b2)
      have X32 := Ke.h (Boxed.same9 X31.out b2)
      have hj2 := hJb Q _ _ hj1 b2
      have r2 := Ke.r r1 b2
      have c2 := Ke.c r2
      clear B1 X21 X11 X31 hj1 r1 b2 hq HW1 b1 y1 hS1 a2 m0 m1 m2 m3 m4 m5
      have HQ2 := map_filter_snoc (p := fun x => (x.n.path.toList == p.toList)) HX.out hmem HQ.out
      rw [HP.out] at HQ2
      cases P
      · have HQ3 : Hid (Q.map Subtype.val = (l.take (k + 1)).filter (fun x => x.n.path.toList == p.toList)) := HQ2
        clear HQ2 hy0 c2
        gi_wp2
        refine ⟨fun _ h => (by cases h), ?_⟩
        gi_wp2
        go_roundw
        case rel => exact ⟨k + 1, Q, by omega, by go_num, HQ3, hj2, B2, X22, X12, X32⟩
        case measure => simp [intOf]; omega
      · have HQ3 : Hid ((Q ++ [(⟨x, hmem⟩ : { x // x ∈ l })]).map Subtype.val = (l.take (k + 1)).filter (fun x => x.n.path.toList == p.toList)) := HQ2
        obtain ⟨fn, tmps, assign, body, hy, hR⟩ := hy0 w2 hj2 (by have := HQL.out; omega)
        clear HQ2 hy0
        gi_wp2
        refine hR.mono ?_
        rintro e W3 (⟨rfl, hJ3, hk3⟩ | ⟨rfl, hJx3⟩)
        · have B3 : Hid (Below we.heap.size we W3) := B2.out.trans hk3.1
          have X23 := Ke.h (hk3.2 (b + 1) (by simp) _ _ X22.out)
          have X13 := Ke.h (hk3.2 b (by simp) _ _ X12.out)
          have X33 := Ke.h (hk3.2 g (by simp) _ _ X32.out)
          clear hk3 hy hR c2 r2
          gi_wp2
          go_roundw
          case rel => exact ⟨k + 1, Q ++ [(⟨x, hmem⟩ : { x // x ∈ l })], by omega, by go_num, HQ3, hJ3, B3, X23, X13, X33⟩
          case measure => simp [intOf]; omega
        · gi_wp2
          refine bodyPost_ret (results_none rfl _ _ _) rfl ?_
          exact ⟨⟨_, rfl⟩, .inr ⟨Q ++ [(⟨x, hmem⟩ : { x // x ∈ l })], by have h9 := HQ3.out; rw [h9]; exact pre_filter _, hJx3⟩⟩
    · have hkl : k = l.length := by omega
      have HF : Hid (Q.map Subtype.val = l.filter (fun x => x.n.path.toList == p.toList)) := by
        have := HQ.out
        rw [hkl, List.take_length] at this
        exact this
      have hlt2 : ¬ (k : Int) < (l.length : Int) := by omega
      clear hkl
      gi_wp2
      go_end0
      exact ⟨⟨_, rfl⟩, .inl ⟨Q, HF.out, hj⟩⟩

set_option maxRecDepth 1000000 in
set_option maxHeartbeats 4000000 in
theorem versions_in (w : World) (v : Value) (l : List Ev) (p : ByteArray) (h : Se w v l) (hl : l.length ≤ 1000000000) (hz : ∀ x ∈ l, Fit9 x) :
    CallsIn Fence.wide 6 Try.prog 11 #[v, .string p] w fun e w' => ∃ v', e = .returned v' ∧ Ow w' w.heap.size w'.heap.size v' (vers15 p (l.map Ev.n)) ∧ Below w.heap.size w w' := by
  have h1 : 1 ≤ 6 := by omega
  obtain ⟨i0, hi, hz0, hz1, hz2⟩ := info_parts infoVe
  have HS : Hid (Se w v l) := h
  have HZ : Hid (∀ x ∈ l, Fit9 x) := hz
  obtain ⟨ao, cap, rfl, hcap⟩ := h.form
  clear h hz
  obtain ⟨W1, HW1, b1, y1, hS1, rp, rb⟩ := Ke.l2 w #[.string p] 9 #[.slice none 0 0] 34
  refine callsIn_of_wp_marks Try.func11 rfl trivial ?_ rfl
  simp only [Try.ntmps11, List.size_toArray, List.length_cons, List.length_nil, Nat.reduceAdd, Nat.reduceSub, Array.replicate_succ, Array.replicate_zero, List.push_toArray, List.append_toArray, List.nil_append, List.cons_append]
  gi_wp2_with fail
  refine ⟨trivial, ?_⟩
  rw [HW1.out]
  refine (sought_in _ _ _ _ _ _ _ _).mono ?_
  rintro e W2 ⟨rfl, b2, y2, x1, x2⟩
  have B2 : Below w.heap.size w W2 := b1.trans (b2.mono b1.size)
  have rb2 : Boxed W2 (w.heap.size + 1) 34 (.slice none 0 0) := rowKeep rb.out b2
  have rp2 : Boxed W2 w.heap.size 9 (.string p) := rowKeep rp.out b2
  have hst := stops_path 5 (by omega) w W2 B2 _ l HS.out (by omega) p w.heap.size W1.heap.size b1.size x1 rp2 x2
  clear rb rp HW1 hS1 b2 x1 x2
  gi_wp2_with fail
  refine wpIn_rangeFunc_ownH rfl h1 (gf := 60) (lb := #[.pointer (some ⟨W1.heap.size, 0, none⟩), .pointer (some ⟨W1.heap.size + 1, 0, none⟩)]) rfl trivial (enters_of Try.func60 (by kernel_rfl) rfl)
    hst Ks_t (fun W l o o' h => Ks_b B2.size W l o o' h) (Below.refl _ _) (fun _ => rfl)
    (fun pre W => (Boxed W w.heap.size 9 (.string p) ∧ ∃ (ao : Option Addr) (L cap hi : Nat), Boxed W (w.heap.size + 1) 34 (.slice ao L cap) ∧ Ow W W2.heap.size hi (.slice ao L cap) (pre.map (fun x => x.1.n)) ∧ W2.heap.size ≤ hi ∧ hi ≤ W.heap.size) ∧ Below w.heap.size w W)
    (fun _ _ _ => False)
    (OwnFrom.and (Own.from (fun s A B row hs hg hr => by
      obtain ⟨hp, ao, L, cap, hi, hbx, hod, h2, hhi⟩ := hs
      exact ⟨boxed_own _ _ (fun _ => _) () A B row hp hg hr, ao, L, cap, hi, boxed_own _ _ (fun _ => _) () A B row hbx hg hr, On.turn hod hg hr, h2, Nat.le_trans hhi hg.size⟩) _) (ownFrom_below (Nat.le_refl _) B2.size))
    (fun _ => fun s A B row hs hg hr => hs)
    ⟨⟨rp2, none, 0, 0, W2.heap.size, rb2, On.nil 4 _ _ _ _, Nat.le_refl _, Nat.le_refl _⟩, B2⟩
    (fun x a' W => ∃ g, W2.heap.size ≤ g ∧ W.heap[g]? = some (.cells #[.string x.1.n.path, .int .i64 x.1.n.a, .int .i64 x.1.n.b, .int .i64 x.1.n.c, .string x.1.n.pre, x.1.u] 31 (0, 0)) ∧ a' = { tmps := #[.slice ao l.length cap, .string p, undef, .pointer (some ⟨w.heap.size, 0, none⟩), .slice none 0 0, .pointer (some ⟨w.heap.size + 1, 0, none⟩), .pointer (some ⟨g, 0, none⟩), .slice ao l.length cap, .func (.func 42) #[] #[.pointer (some ⟨w.heap.size, 0, none⟩)], .func (.func 60) #[] #[.pointer (some ⟨W1.heap.size, 0, none⟩), .pointer (some ⟨W1.heap.size + 1, 0, none⟩)], .agg #[.string x.1.n.path, .int .i64 x.1.n.a, .int .i64 x.1.n.b, .int .i64 x.1.n.c, .string x.1.n.pre, x.1.u], undef, undef, undef, undef, undef, undef, undef], defers := [] })
    (fun x a' => fun s A B row hs hg hr => by
      obtain ⟨g, hg1, hrow, ha⟩ := hs
      exact ⟨g, hg1, row_turn hrow hg (fun r e => (hr r e).2), ha⟩)
    ?assign ?body ?done ?stop
  case assign =>
    rintro lr pre ⟨⟨xn, xu, xl⟩, hm⟩ W K hI hK
    obtain ⟨⟨hp, a8, L8, c8, hi, hbx, hod, h2, hhi⟩, hB⟩ := hI
    obtain ⟨_, au, cu, hu, _⟩ := HS.out.2 _ hm
    have hu2 : xu = .slice au xl.length cu := hu
    subst hu2
    have hWs := hB.size
    have hk2 := hK { tmps := #[.slice ao l.length cap, .string p, undef, .pointer (some ⟨w.heap.size, 0, none⟩), .slice none 0 0, .pointer (some ⟨w.heap.size + 1, 0, none⟩), .pointer (some ⟨W.heap.size, 0, none⟩), .slice ao l.length cap, .func (.func 42) #[] #[.pointer (some ⟨w.heap.size, 0, none⟩)], .func (.func 60) #[] #[.pointer (some ⟨W1.heap.size, 0, none⟩), .pointer (some ⟨W1.heap.size + 1, 0, none⟩)], .agg #[.string xn.path, .int .i64 xn.a, .int .i64 xn.b, .int .i64 xn.c, .string xn.pre, .slice au xl.length cu], undef, undef, undef, undef, undef, undef, undef], defers := [] } (W.alloc (.cells #[.string xn.path, .int .i64 xn.a, .int .i64 xn.b, .int .i64 xn.c, .string xn.pre, .slice au xl.length cu] 31)) ((KeepsOthers.alloc _ _).from _) (Ks_below ((Below.refl _ _).alloc (Nat.le_refl _) _) hWs) ⟨⟨Boxed.alloc hp _, a8, L8, c8, hi, Boxed.alloc hbx _, On.later hod ((Below.refl _ _).alloc (Nat.le_refl _) _) hhi, h2, by simp; omega⟩, hB.alloc hWs _⟩ ⟨W.heap.size, by omega, heap_alloc_new W _, rfl⟩
    gi_wp2
    exact hk2
  case body =>
    rintro lr pre ⟨⟨xn, xu, xl⟩, hm⟩ a' W3 hlr hrec ⟨⟨hp, a8, L8, c8, hi9, hbx, hod, h29, hhi⟩, hB⟩ ⟨g, hg, rx, rfl⟩ hlt
    obtain ⟨f1, f2, f3, f4⟩ := HZ.out _ hm
    dsimp only at f2
    obtain ⟨ao9, L9, cap9, e9⟩ : ∃ ao9 L9 cap9, (Value.slice a8 L8 c8) = .slice ao9 L9 cap9 := ⟨_, _, _, rfl⟩
    clear e9 ao9 L9 cap9
    have B3 := Ke.h hB
    have r_bx3 : Hid (W3.heap[w.heap.size + 1]? = some (.cells #[.slice a8 L8 c8] 34 (0, 0))) := hbx
    have r_x3 : Hid (W3.heap[g]? = some (.cells #[.string xn.path, .int .i64 xn.a, .int .i64 xn.b, .int .i64 xn.c, .string xn.pre, xu] 31 (0, 0))) := rx
    have hpl : pre.length ≤ 1000000000 := by omega
    obtain ⟨T, hT, hTl⟩ : ∃ T : List Nd, pre.map (fun x : { x // x ∈ l } => x.1.n) = T ∧ T.length ≤ 1000000000 := ⟨_, rfl, by rw [List.length_map]; exact hpl⟩
    rw [hT] at hod
    have HT := Ke.h hT
    have f_d3 : Hid (Owt W3 W2.heap.size hi9 (.slice a8 L8 c8) T) := ⟨hod, hhi⟩
    clear hT
    have f_K3 : Hid (Kz9 w.heap.size [w.heap.size, W1.heap.size, W1.heap.size + 1] W3 W3) := Kz9.refl hB.size
    have HP : Hid (Boxed W3 w.heap.size 9 (.string p)) := hp
    have k1 : T.length + 1 ≤ maxLen := by unfold maxLen; omega
    have k2 : (T.length + 1) * 40 ≤ 140737488355328 := by omega
    have hB2s := B2.size
    have hB3s := hB.size
    clear hp hbx hod hB rx
    have c_bx3 := Ke.c r_bx3
    have c_x3 := Ke.c r_x3
    gi_wp2_with fail
    refine region_round (S := fun w' => (∀ j, w'.cell? ⟨g, j, none⟩ = #[.string xn.path, .int .i64 xn.a, .int .i64 xn.b, .int .i64 xn.c, .string xn.pre, xu][j]?)) (by kernel_rfl) (by kernel_rfl) (by rintro ⟨_, _, h9⟩; exact h9) c_x3 (fun hHeld => ?_)
    obtain ⟨W4, HW4, b4⟩ : ∃ X, Hid (W3.drew = X) ∧ Below W3.heap.size W3 X := ⟨_, rfl, Below.drew (Below.refl _ _)⟩
    have HHW4 := HW4.out
    rw [HHW4] at hHeld ⊢
    clear HHW4
    have z4 := b4.size
    have B4 := Ke.b B3 b4
    have r_bx4 := Ke.r r_bx3 b4
    have r_x4 := Ke.r r_x3 b4
    have c_bx4 := Ke.c r_bx4
    have c_x4 := Ke.c r_x4
    clear r_bx3 c_bx3 r_x3 c_x3
    have f_d4 : Hid (Owt W4 W2.heap.size hi9 (.slice a8 L8 c8) T) := Owt.later f_d3.out b4
    have f_K4 : Hid (Kz9 w.heap.size [w.heap.size, W1.heap.size, W1.heap.size + 1] W3 W4) := Kz9.later f_K3.out b4
    clear f_d3 f_K3
    refine Ke.y 1 rfl (fun _ _ _ h => h) ?_
    try simp only [Act.put, pu1, pu2, pu3, pu4, pu5, pu6]
    refine Ke.y 2 rfl (fun _ _ _ h => h) ?_
    try simp only [Act.put, pu1, pu2, pu3, pu4, pu5, pu6]
    refine wpAnyH_ready (rs := [0, 3]) (by kernel_rfl) (by simp) ?_
    refine AllReadyH.cons rfl (fun K hK => ?_) (AllReadyH.cons rfl (fun K hK => ?_) AllReadyH.nil)
    · go_simp
      refine hK.out _ _ hHeld (fun hHeld => ?_)
      clear hK K
      try simp only [Act.put, pu1, pu2, pu3, pu4, pu5, pu6]
      refine Ke.z 3 rfl (fun K hK => ?_)
      go_simp
      refine (ownv_impl W4 xn f2).mono ?_
      rintro e W5 ⟨rfl, b5⟩
      refine hK.out _ _ (Ke.k (W := W4) hHeld b5) (fun hHeld => ?_)
      clear hK K
      try simp only [Act.put, pu1, pu2, pu3, pu4, pu5, pu6]
      have z5 := b5.size
      have B5 := Ke.b B4 b5
      have r_bx5 := Ke.r r_bx4 b5
      have r_x5 := Ke.r r_x4 b5
      have c_bx5 := Ke.c r_bx5
      have c_x5 := Ke.c r_x5
      clear r_bx4 c_bx4 r_x4 c_x4
      have f_d5 : Hid (Owt W5 W2.heap.size hi9 (.slice a8 L8 c8) T) := Owt.later f_d4.out b5
      have f_K5 : Hid (Kz9 w.heap.size [w.heap.size, W1.heap.size, W1.heap.size + 1] W3 W5) := Kz9.later f_K4.out b5
      clear f_d4 f_K4
      refine Ke.z 4 rfl (fun K hK => ?_)
      go_simp
      refine hK.out _ _ (Ke.k (W := W5) hHeld ((Below.refl _ _).alloc (Nat.le_refl _) _)) (fun hHeld => ?_)
      clear hK K
      try simp only [Act.put, pu1, pu2, pu3, pu4, pu5, pu6]
      obtain ⟨W6, HW6, b6, ff6⟩ : ∃ X, Hid ((W5.alloc (.cells #[.int .i64 xn.a, .int .i64 xn.b, .int .i64 xn.c, .string xn.pre] 26)) = X) ∧ Below W5.heap.size W5 X ∧ Hid (Sn 4 X (.slice (some ⟨W5.heap.size, 0, none⟩) 1 1) 1 (vc xn).toList) := ⟨_, rfl, ((Below.refl _ _).alloc (Nat.le_refl _) _), Sn.one 4 W5 (vc xn) 26 rfl⟩
      have HHW6 := HW6.out
      rw [HHW6] at hHeld ⊢
      clear HHW6
      have z6 := b6.size
      have B6 := Ke.b B5 b6
      have r_bx6 := Ke.r r_bx5 b6
      have r_x6 := Ke.r r_x5 b6
      have c_bx6 := Ke.c r_bx6
      have c_x6 := Ke.c r_x6
      clear r_bx5 c_bx5 r_x5 c_x5
      have f_d6 : Hid (Owt W6 W2.heap.size hi9 (.slice a8 L8 c8) T) := Owt.later f_d5.out b6
      have f_K6 : Hid (Kz9 w.heap.size [w.heap.size, W1.heap.size, W1.heap.size + 1] W3 W6) := Kz9.later f_K5.out b6
      clear f_d5 f_K5
      have f_t6 : Hid (Sn 4 W6 (.slice (some ⟨W5.heap.size, 0, none⟩) 1 1) 1 (vc xn).toList) := ff6.out
      clear ff6
      refine Ke.z 5 rfl (fun K hK => ?_)
      refine step_appm 4 (by omega) rfl (.tmp 11) (.tmp 15) 34 (by rfl) 26 i0 (.agg #[.int .i64 0, .int .i64 0, .int .i64 0, .string ⟨#[]⟩]) 40 Try.underlying34 hi hz0 hz1 hz2 rfl W2.heap.size _ T.length (vcs T) (by rfl) (Owt.wide f_d6.out (Nat.le_refl _)) _ (by rfl) 1 (vc xn).toList f_t6.out (vc_one xn) k1 k2 (by omega) ?_
      intro v9 W7 o9 g7
      refine hK.out _ _ (Ke.g hHeld g7 (On.neRow f_d6.out.1 r_x6.out (by decide))) (fun hHeld => ?_)
      clear hK K
      try simp only [Act.put, pu1, pu2, pu3, pu4, pu5, pu6]
      have f_d7 : Hid (Owt W7 W2.heap.size W7.heap.size v9 (T ++ [xn])) := ⟨snocW o9, Nat.le_refl _⟩
      clear o9
      have z7 := g7.size
      have B7 : Hid (Below w.heap.size w W7) := belowGro B6.out g7 B6.out.size (fun k9 h9 => by have h8 := (On.lt f_d6.out.1 h9).1; omega)
      have f_K7 : Hid (Kz9 w.heap.size [w.heap.size, W1.heap.size, W1.heap.size + 1] W3 W7) := Kz9.own f_K6.out f_d6.out.1 g7 (by omega) (by intro b9 hb9; simp only [List.mem_cons, List.not_mem_nil, or_false] at hb9; omega)
      have r_bx7 : Hid (W7.heap[w.heap.size + 1]? = some (.cells #[.slice a8 L8 c8] 34 (0, 0))) := rowGro r_bx6.out g7 (On.neRow f_d6.out.1 r_bx6.out (by decide))
      obtain ⟨ao9, L9, cap9, rfl⟩ : ∃ ao9 L9 cap9, v9 = .slice ao9 L9 cap9 := by obtain ⟨a9, c9, e9⟩ := On.slice f_d7.out.1; exact ⟨a9, _, c9, e9⟩
      have c_bx7 := Ke.c r_bx7
      clear r_bx6 c_bx6
      clear f_d6 f_t6 f_K6 g7 r_x6 c_x6
      refine Ke.z 6 rfl (fun K hK => ?_)
      rw [if_pos (by rfl)]
      refine wp_oneG 34 _ _ rfl (w.heap.size + 1) 0 (.slice ao9 L9 cap9) rfl rfl [.slice a8 L8 c8] 34 r_bx7.out (Nat.le_of_ble_eq_true rfl) (by kernel_rfl) rfl [.slice ao9 L9 cap9] rfl ?_
      intro W8 r_bx8 g8
      refine hK.out _ _ (Ke.g hHeld g8 (by intro h9; injection h9 with h9; omega)) (fun hHeld => ?_)
      clear hK K
      try simp only [Act.put, pu1, pu2, pu3, pu4, pu5, pu6]
      have zz := g8.size
      have HB9 := Ke.h (belowGro B7.out g8 B7.out.size (fun k9 h9 => by injection h9 with h9; omega))
      have HK9 := Ke.h (Kz9.row f_K7.out r_bx7.out g8 (by omega) (by intro b9 hb9; simp only [List.mem_cons, List.not_mem_nil, or_false] at hb9; omega))
      have HD9 := Ke.h (On.keep1 f_d7.out.1 (fun j hj => g8.block j (On.lt f_d7.out.1 hj).2.2 (fun e9 => On.neRow f_d7.out.1 r_bx7.out (by decide) (hj.trans e9))))
      have HR9 := Ke.h r_bx8
      have HP9 := Ke.h (HK9.out.2.2.2 w.heap.size (by simp) _ _ HP.out)
      refine wpAnyH_done (by kernel_rfl) ?_ _
      clear hHeld
      gi_wp2
      exact ⟨HK9.out.2.1.from _, HK9.out.2.2, ⟨HP9.out, ao9, L9, cap9, _, HR9.out, by rw [List.map_append, HT.out]; exact HD9.out, by omega, by omega⟩, HB9.out⟩
    · go_simp
      refine (ownv_impl W4 xn f2).mono ?_
      rintro e W5 ⟨rfl, b5⟩
      refine hK.out _ _ (Ke.k (W := W4) hHeld b5) (fun hHeld => ?_)
      clear hK K
      try simp only [Act.put, pu1, pu2, pu3, pu4, pu5, pu6]
      have z5 := b5.size
      have B5 := Ke.b B4 b5
      have r_bx5 := Ke.r r_bx4 b5
      have r_x5 := Ke.r r_x4 b5
      have c_bx5 := Ke.c r_bx5
      have c_x5 := Ke.c r_x5
      clear r_bx4 c_bx4 r_x4 c_x4
      have f_d5 : Hid (Owt W5 W2.heap.size hi9 (.slice a8 L8 c8) T) := Owt.later f_d4.out b5
      have f_K5 : Hid (Kz9 w.heap.size [w.heap.size, W1.heap.size, W1.heap.size + 1] W3 W5) := Kz9.later f_K4.out b5
      clear f_d4 f_K4
      refine wpAnyH_ready (rs := [0, 4]) (by kernel_rfl) (by simp) ?_
      refine AllReadyH.cons rfl (fun K hK => ?_) (AllReadyH.cons rfl (fun K hK => ?_) AllReadyH.nil)
      · go_simp
        refine hK.out _ _ hHeld (fun hHeld => ?_)
        clear hK K
        try simp only [Act.put, pu1, pu2, pu3, pu4, pu5, pu6]
        refine Ke.z 4 rfl (fun K hK => ?_)
        go_simp
        refine hK.out _ _ (Ke.k (W := W5) hHeld ((Below.refl _ _).alloc (Nat.le_refl _) _)) (fun hHeld => ?_)
        clear hK K
        try simp only [Act.put, pu1, pu2, pu3, pu4, pu5, pu6]
        obtain ⟨W6, HW6, b6, ff6⟩ : ∃ X, Hid ((W5.alloc (.cells #[.int .i64 xn.a, .int .i64 xn.b, .int .i64 xn.c, .string xn.pre] 26)) = X) ∧ Below W5.heap.size W5 X ∧ Hid (Sn 4 X (.slice (some ⟨W5.heap.size, 0, none⟩) 1 1) 1 (vc xn).toList) := ⟨_, rfl, ((Below.refl _ _).alloc (Nat.le_refl _) _), Sn.one 4 W5 (vc xn) 26 rfl⟩
        have HHW6 := HW6.out
        rw [HHW6] at hHeld ⊢
        clear HHW6
        have z6 := b6.size
        have B6 := Ke.b B5 b6
        have r_bx6 := Ke.r r_bx5 b6
        have r_x6 := Ke.r r_x5 b6
        have c_bx6 := Ke.c r_bx6
        have c_x6 := Ke.c r_x6
        clear r_bx5 c_bx5 r_x5 c_x5
        have f_d6 : Hid (Owt W6 W2.heap.size hi9 (.slice a8 L8 c8) T) := Owt.later f_d5.out b6
        have f_K6 : Hid (Kz9 w.heap.size [w.heap.size, W1.heap.size, W1.heap.size + 1] W3 W6) := Kz9.later f_K5.out b6
        clear f_d5 f_K5
        have f_t6 : Hid (Sn 4 W6 (.slice (some ⟨W5.heap.size, 0, none⟩) 1 1) 1 (vc xn).toList) := ff6.out
        clear ff6
        refine Ke.z 5 rfl (fun K hK => ?_)
        refine step_appm 4 (by omega) rfl (.tmp 11) (.tmp 15) 34 (by rfl) 26 i0 (.agg #[.int .i64 0, .int .i64 0, .int .i64 0, .string ⟨#[]⟩]) 40 Try.underlying34 hi hz0 hz1 hz2 rfl W2.heap.size _ T.length (vcs T) (by rfl) (Owt.wide f_d6.out (Nat.le_refl _)) _ (by rfl) 1 (vc xn).toList f_t6.out (vc_one xn) k1 k2 (by omega) ?_
        intro v9 W7 o9 g7
        refine hK.out _ _ (Ke.g hHeld g7 (On.neRow f_d6.out.1 r_x6.out (by decide))) (fun hHeld => ?_)
        clear hK K
        try simp only [Act.put, pu1, pu2, pu3, pu4, pu5, pu6]
        have f_d7 : Hid (Owt W7 W2.heap.size W7.heap.size v9 (T ++ [xn])) := ⟨snocW o9, Nat.le_refl _⟩
        clear o9
        have z7 := g7.size
        have B7 : Hid (Below w.heap.size w W7) := belowGro B6.out g7 B6.out.size (fun k9 h9 => by have h8 := (On.lt f_d6.out.1 h9).1; omega)
        have f_K7 : Hid (Kz9 w.heap.size [w.heap.size, W1.heap.size, W1.heap.size + 1] W3 W7) := Kz9.own f_K6.out f_d6.out.1 g7 (by omega) (by intro b9 hb9; simp only [List.mem_cons, List.not_mem_nil, or_false] at hb9; omega)
        have r_bx7 : Hid (W7.heap[w.heap.size + 1]? = some (.cells #[.slice a8 L8 c8] 34 (0, 0))) := rowGro r_bx6.out g7 (On.neRow f_d6.out.1 r_bx6.out (by decide))
        obtain ⟨ao9, L9, cap9, rfl⟩ : ∃ ao9 L9 cap9, v9 = .slice ao9 L9 cap9 := by obtain ⟨a9, c9, e9⟩ := On.slice f_d7.out.1; exact ⟨a9, _, c9, e9⟩
        have c_bx7 := Ke.c r_bx7
        clear r_bx6 c_bx6
        clear f_d6 f_t6 f_K6 g7 r_x6 c_x6
        refine Ke.z 6 rfl (fun K hK => ?_)
        rw [if_pos (by rfl)]
        refine wp_oneG 34 _ _ rfl (w.heap.size + 1) 0 (.slice ao9 L9 cap9) rfl rfl [.slice a8 L8 c8] 34 r_bx7.out (Nat.le_of_ble_eq_true rfl) (by kernel_rfl) rfl [.slice ao9 L9 cap9] rfl ?_
        intro W8 r_bx8 g8
        refine hK.out _ _ (Ke.g hHeld g8 (by intro h9; injection h9 with h9; omega)) (fun hHeld => ?_)
        clear hK K
        try simp only [Act.put, pu1, pu2, pu3, pu4, pu5, pu6]
        have zz := g8.size
        have HB9 := Ke.h (belowGro B7.out g8 B7.out.size (fun k9 h9 => by injection h9 with h9; omega))
        have HK9 := Ke.h (Kz9.row f_K7.out r_bx7.out g8 (by omega) (by intro b9 hb9; simp only [List.mem_cons, List.not_mem_nil, or_false] at hb9; omega))
        have HD9 := Ke.h (On.keep1 f_d7.out.1 (fun j hj => g8.block j (On.lt f_d7.out.1 hj).2.2 (fun e9 => On.neRow f_d7.out.1 r_bx7.out (by decide) (hj.trans e9))))
        have HR9 := Ke.h r_bx8
        have HP9 := Ke.h (HK9.out.2.2.2 w.heap.size (by simp) _ _ HP.out)
        refine wpAnyH_done (by kernel_rfl) ?_ _
        clear hHeld
        gi_wp2
        exact ⟨HK9.out.2.1.from _, HK9.out.2.2, ⟨HP9.out, ao9, L9, cap9, _, HR9.out, by rw [List.map_append, HT.out]; exact HD9.out, by omega, by omega⟩, HB9.out⟩
      · go_simp
        refine hK.out _ _ (Ke.k (W := W5) hHeld ((Below.refl _ _).alloc (Nat.le_refl _) _)) (fun hHeld => ?_)
        clear hK K
        try simp only [Act.put, pu1, pu2, pu3, pu4, pu5, pu6]
        obtain ⟨W6, HW6, b6, ff6⟩ : ∃ X, Hid ((W5.alloc (.cells #[.int .i64 xn.a, .int .i64 xn.b, .int .i64 xn.c, .string xn.pre] 26)) = X) ∧ Below W5.heap.size W5 X ∧ Hid (Sn 4 X (.slice (some ⟨W5.heap.size, 0, none⟩) 1 1) 1 (vc xn).toList) := ⟨_, rfl, ((Below.refl _ _).alloc (Nat.le_refl _) _), Sn.one 4 W5 (vc xn) 26 rfl⟩
        have HHW6 := HW6.out
        rw [HHW6] at hHeld ⊢
        clear HHW6
        have z6 := b6.size
        have B6 := Ke.b B5 b6
        have r_bx6 := Ke.r r_bx5 b6
        have r_x6 := Ke.r r_x5 b6
        have c_bx6 := Ke.c r_bx6
        have c_x6 := Ke.c r_x6
        clear r_bx5 c_bx5 r_x5 c_x5
        have f_d6 : Hid (Owt W6 W2.heap.size hi9 (.slice a8 L8 c8) T) := Owt.later f_d5.out b6
        have f_K6 : Hid (Kz9 w.heap.size [w.heap.size, W1.heap.size, W1.heap.size + 1] W3 W6) := Kz9.later f_K5.out b6
        clear f_d5 f_K5
        have f_t6 : Hid (Sn 4 W6 (.slice (some ⟨W5.heap.size, 0, none⟩) 1 1) 1 (vc xn).toList) := ff6.out
        clear ff6
        refine Ke.z 0 rfl (fun K hK => ?_)
        go_simp
        refine hK.out _ _ hHeld (fun hHeld => ?_)
        clear hK K
        try simp only [Act.put, pu1, pu2, pu3, pu4, pu5, pu6]
        refine Ke.z 5 rfl (fun K hK => ?_)
        refine step_appm 4 (by omega) rfl (.tmp 11) (.tmp 15) 34 (by rfl) 26 i0 (.agg #[.int .i64 0, .int .i64 0, .int .i64 0, .string ⟨#[]⟩]) 40 Try.underlying34 hi hz0 hz1 hz2 rfl W2.heap.size _ T.length (vcs T) (by rfl) (Owt.wide f_d6.out (Nat.le_refl _)) _ (by rfl) 1 (vc xn).toList f_t6.out (vc_one xn) k1 k2 (by omega) ?_
        intro v9 W7 o9 g7
        refine hK.out _ _ (Ke.g hHeld g7 (On.neRow f_d6.out.1 r_x6.out (by decide))) (fun hHeld => ?_)
        clear hK K
        try simp only [Act.put, pu1, pu2, pu3, pu4, pu5, pu6]
        have f_d7 : Hid (Owt W7 W2.heap.size W7.heap.size v9 (T ++ [xn])) := ⟨snocW o9, Nat.le_refl _⟩
        clear o9
        have z7 := g7.size
        have B7 : Hid (Below w.heap.size w W7) := belowGro B6.out g7 B6.out.size (fun k9 h9 => by have h8 := (On.lt f_d6.out.1 h9).1; omega)
        have f_K7 : Hid (Kz9 w.heap.size [w.heap.size, W1.heap.size, W1.heap.size + 1] W3 W7) := Kz9.own f_K6.out f_d6.out.1 g7 (by omega) (by intro b9 hb9; simp only [List.mem_cons, List.not_mem_nil, or_false] at hb9; omega)
        have r_bx7 : Hid (W7.heap[w.heap.size + 1]? = some (.cells #[.slice a8 L8 c8] 34 (0, 0))) := rowGro r_bx6.out g7 (On.neRow f_d6.out.1 r_bx6.out (by decide))
        obtain ⟨ao9, L9, cap9, rfl⟩ : ∃ ao9 L9 cap9, v9 = .slice ao9 L9 cap9 := by obtain ⟨a9, c9, e9⟩ := On.slice f_d7.out.1; exact ⟨a9, _, c9, e9⟩
        have c_bx7 := Ke.c r_bx7
        clear r_bx6 c_bx6
        clear f_d6 f_t6 f_K6 g7 r_x6 c_x6
        refine Ke.z 6 rfl (fun K hK => ?_)
        rw [if_pos (by rfl)]
        refine wp_oneG 34 _ _ rfl (w.heap.size + 1) 0 (.slice ao9 L9 cap9) rfl rfl [.slice a8 L8 c8] 34 r_bx7.out (Nat.le_of_ble_eq_true rfl) (by kernel_rfl) rfl [.slice ao9 L9 cap9] rfl ?_
        intro W8 r_bx8 g8
        refine hK.out _ _ (Ke.g hHeld g8 (by intro h9; injection h9 with h9; omega)) (fun hHeld => ?_)
        clear hK K
        try simp only [Act.put, pu1, pu2, pu3, pu4, pu5, pu6]
        have zz := g8.size
        have HB9 := Ke.h (belowGro B7.out g8 B7.out.size (fun k9 h9 => by injection h9 with h9; omega))
        have HK9 := Ke.h (Kz9.row f_K7.out r_bx7.out g8 (by omega) (by intro b9 hb9; simp only [List.mem_cons, List.not_mem_nil, or_false] at hb9; omega))
        have HD9 := Ke.h (On.keep1 f_d7.out.1 (fun j hj => g8.block j (On.lt f_d7.out.1 hj).2.2 (fun e9 => On.neRow f_d7.out.1 r_bx7.out (by decide) (hj.trans e9))))
        have HR9 := Ke.h r_bx8
        have HP9 := Ke.h (HK9.out.2.2.2 w.heap.size (by simp) _ _ HP.out)
        refine wpAnyH_done (by kernel_rfl) ?_ _
        clear hHeld
        gi_wp2
        exact ⟨HK9.out.2.1.from _, HK9.out.2.2, ⟨HP9.out, ao9, L9, cap9, _, HR9.out, by rw [List.map_append, HT.out]; exact HD9.out, by omega, by omega⟩, HB9.out⟩
  case done =>
    rintro D ys W hD hy ⟨⟨hp, a8, L8, c8, hi9, hbx, hod, h29, hhi⟩, hB⟩ hK
    have hV : Hid (ys.map (fun x => x.1.n) = vers15 p (l.map Ev.n)) := by
      show _ = _
      have h9 := congrArg (List.map Ev.n) hy
      rw [List.map_map] at h9
      unfold vers15
      rw [List.filter_map]
      exact h9
    have k0 := hbx.cell
    gi_wp2
    refine ⟨by simp, .inl ⟨_, _, rfl, run_takeDeferred hK, ?_⟩⟩
    have gr := grownBy_putObj' W D (.deferred none)
    have hgr : ∀ r, some D = some r → ∃ o : Obj, W.heap[r]? = some o ∧ o.isCells = false := fun r e => by cases e; exact ⟨_, hK, rfl⟩
    have o6 := On.turn hod gr hgr
    have B6 : Below w.heap.size w (W.putObj D (.deferred none)) := hB.trans (belowK_b (w := w) (Nat.le_refl _) W D _ _ (by have := B2.size; omega) hK rfl rfl)
    exact ⟨_, results_tmp rfl _ _ _, _, rfl, by rw [← hV.out]; exact On.mono o6 B2.size (Nat.le_trans hhi gr.size), B6⟩
  case stop =>
    rintro D c pre W hD hpre h9 hK
    exact h9.elim

theorem versions_impl (w : World) (v : Value) (l : List Ev) (p : ByteArray) (h : Se w v l) (hl : l.length ≤ 1000000000) (hz : ∀ x ∈ l, Fit9 x) :
    Calls Try.prog 11 #[v, .string p] w fun e w' => ∃ v', e = .returned v' ∧ Ow w' w.heap.size w'.heap.size v' (vers15 p (l.map Ev.n)) ∧ Below w.heap.size w w' := callsIn_wide.1 (versions_in w v l p h hl hz)

end Go.Proofs.Ytpfiaginonnjmaa.Fe
