/- Texts in one: Rin, Gs4, Gs5, Si2. -/
import Derived.Test.YtlhmemnaiobgkaaPk8
import Derived.Test.YtlhmemnaiobgkaaPk31
import Derived.Test.YtlhmemnaiobgkaaPk28
import Derived.Test.YtlhmemnaiobgkaaPk27
import Derived.Test.YtlhmemnaiobgkaaPk21
import Derived.RangeFuncCalls
import Derived.TacticsIn
import Derived.OrdersIn
import Derived.Deep.RegionHeld
/- A region that draws its order, inside a round of a range over a function: walked by the plain laws; no program is named here. -/
namespace Go.Proofs.Ytlhmemnaiobgkaa.Mem
open Go.RowKit
set_option linter.unusedVariables false

theorem oper_in {P : Program} {o : Oper} {a : Act} {w : World} {K : Act → World → Prop} {Q : Exit → Act → World → Prop} (l n : Nat) (hnd : ∀ c, o.op ≠ .defer c) (h : o.wp P a w K Q) : o.wpIn (Fence.wide.inRound l) n P a w K Q := by
  refine ⟨fun _ _ => trivial, ?_⟩
  rw [Fence.inRound_round, Oper.semAt_some l _ _ hnd]
  unfold Oper.wp at h
  generalize (execOp a.eval o).run P w = r at h ⊢
  cases r with
  | ok x w' =>
    cases x with
    | value v => exact h
    | skip => exact h
    | defer d => exact h
    | enter f args =>
      refine ⟨fun h9 => (by cases h9), CallsIn.inRound l (callsIn_wide.2 ?_)⟩
      exact Calls.mono h (fun e w'' he => by cases e <;> exact he)
    | row row args => exact ⟨fun h9 => (by cases h9), fun c cs _ => let ⟨v, w', r, s⟩ := h c cs; ⟨v, w', r, stepsIn_wide.2 s⟩⟩
    | _ => exact h.elim
  | halt x w' => cases x <;> first | exact h | exact h.elim

theorem ops_in {P : Program} {ops : Array Oper} {Q : Exit → Act → World → Prop} (l n : Nat) (hd : ∀ (i : Nat) (o : Oper), ops[i]? = some o → ∀ c, o.op ≠ .defer c) (hl : ¬ LetsOut Q) : ∀ (is : List Nat) (a : Act) (w : World), wpOps P ops Q is a w → wpOpsIn (Fence.wide.inRound l) n P ops Q is a w := by
  intro is
  induction is with
  | nil => intro a w h; exact h
  | cons i r ih =>
    intro a w h
    unfold wpOps at h
    unfold wpOpsIn
    cases ho : ops[i]? with
    | none => simp only [ho] at h ⊢; exact ih a w h
    | some o =>
      simp only [ho] at h ⊢
      split
      · rename_i hw
        rw [if_pos hw] at h
        rcases h with h | h
        · exact oper_in l n (hd i o ho) (Oper.wp_mono (fun a w => ih a w) h)
        · exact absurd h.2 hl
      · rename_i hw
        rw [if_neg hw] at h
        exact ⟨fun _ _ => trivial, ih _ _ h⟩
/-- no operation of these puts off a call -/
def noDefer (ops : Array Oper) : Bool := ops.all fun o => match o.op with | .defer _ => false | _ => true
theorem noDefer_at {ops : Array Oper} (h : noDefer ops = true) : ∀ (i : Nat) (o : Oper), ops[i]? = some o → ∀ c, o.op ≠ .defer c := by
  intro i o ho c hc
  unfold noDefer at h
  rw [Array.all_eq_true] at h
  obtain ⟨hi, e⟩ := Array.getElem?_eq_some_iff.1 ho
  have := h i hi
  rw [e, hc] at this
  cases this
theorem region_round {P : Program} {ops : Array Oper} {Q : Exit → Act → World → Prop} {S : World → Prop} {id l n : Nat} {a : Act} {w : World} (hm : P.follows .mixedOrders = true) (hd : noDefer ops = true) (hl : ¬ LetsOut Q) (hS : S w.drew)
    (h : S w.drew → wpAnyH P .any ops Q S ops.size (Array.replicate ops.size false) a w.drew) : (Code.region id ops true).wpIn (Fence.wide.inRound l) n P Q a w :=
  wpIn_region_draw fun t => ops_in l n (noDefer_at hd) hl _ _ _ (by
    simp only [Region.schedule, hm, Bool.true_or, if_true]
    exact wpAny_sound ops.size t _ a _ (wpAny_of_held _ _ _ _ (h hS)))

theorem oper_wide {P : Program} {o : Oper} {a : Act} {w : World} {K : Act → World → Prop} {Q : Exit → Act → World → Prop} (n : Nat) (hnd : ∀ c, o.op ≠ .defer c) (h : o.wp P a w K Q) : o.wpIn Fence.wide n P a w K Q := by
  have h2 := oper_in 0 n hnd h
  unfold Oper.wpIn at h2 ⊢
  refine ⟨fun _ _ => trivial, ?_⟩
  have h3 := h2.2
  rw [Fence.inRound_round, Oper.semAt_some 0 _ _ hnd] at h3
  show Oper.uponIn Fence.wide n P o a K Q ((Oper.semAt none a.eval o).run P w)
  rw [Oper.semAt_none]
  generalize (execOp a.eval o).run P w = r at h3 ⊢
  cases r with
  | ok x w' => cases x <;> exact h3
  | halt x w' => cases x <;> exact h3
/-- a record is stored into a row, in a round -/
theorem wplIn_partG {P : Program} {ops : Array Oper} {rest : List Oper} {op : Oper} {a : Act} {w : World} {l n : Nat} {Q : Exit → Act → World → Prop} (hgd : op.guard = none) (ty : TypeId) (x y : Operand) (ho : op.op = .store ty x y)
    (b o : Nat) (cells : Array Value) (hx : a.eval x = .pointer (some ⟨b, o, none⟩)) (hy : a.eval y = .agg cells) (cur : List Value) (t : TypeId) (hr : w.heap[b]? = some (.cells cur.toArray t (0, 0)))
    (hn : o + cells.size ≤ cur.length) (hi : (P.info? ty).map (·.size) = some cells.size) (h1 : cells.all (·.oneCell') = true) (new : List Value) (hnew : putL cur o cells.toList = new)
    (h : ∀ w', w'.heap[b]? = some (.cells new.toArray t (0, 0)) → w.grownBy w' (some b) → wpListIn (Fence.wide.inRound l) n P ops Q rest (a.put op.dst undef) w') : wpListIn (Fence.wide.inRound l) n P ops Q (op :: rest) a w :=
  wpListIn_plain hgd fun _ hK => oper_in l n (by rw [ho]; intro c hc; cases hc) (wp_partG ty x y ho b o cells hx hy cur t hr hn hi h1 new hnew (fun w' r g => hK _ _ (h w' r g)))
/-- and outside of one -/
theorem wplIn_partW {P : Program} {ops : Array Oper} {rest : List Oper} {op : Oper} {a : Act} {w : World} {n : Nat} {Q : Exit → Act → World → Prop} (hgd : op.guard = none) (ty : TypeId) (x y : Operand) (ho : op.op = .store ty x y)
    (b o : Nat) (cells : Array Value) (hx : a.eval x = .pointer (some ⟨b, o, none⟩)) (hy : a.eval y = .agg cells) (cur : List Value) (t : TypeId) (hr : w.heap[b]? = some (.cells cur.toArray t (0, 0)))
    (hn : o + cells.size ≤ cur.length) (hi : (P.info? ty).map (·.size) = some cells.size) (h1 : cells.all (·.oneCell') = true) (new : List Value) (hnew : putL cur o cells.toList = new)
    (h : ∀ w', w'.heap[b]? = some (.cells new.toArray t (0, 0)) → w.grownBy w' (some b) → wpListIn Fence.wide n P ops Q rest (a.put op.dst undef) w') : wpListIn Fence.wide n P ops Q (op :: rest) a w :=
  wpListIn_plain hgd fun _ hK => oper_wide n (by rw [ho]; intro c hc; cases hc) (wp_partG ty x y ho b o cells hx hy cur t hr hn hi h1 new hnew (fun w' r g => hK _ _ (h w' r g)))

end Go.Proofs.Ytlhmemnaiobgkaa.Mem

/- Chapter 15, the landed code: is there an entry of a name; FindEntry. -/
namespace Go.Proofs.Ytlhmemnaiobgkaa.Fe
open Go.RowKit Go.Shelf Go.Proofs.Ytlhmemnaiobgkaa.Mem Go.Proofs.Ytlhmemnaiobgkaa.Laws Go.Proofs.Ytlhmemnaiobgkaa.Ver Go.Proofs.Ytlhmemnaiobgkaa.Ent
set_option linter.unusedVariables false
set_option linter.unusedSimpArgs false
attribute [local go_sem] Oper.semAt_some

set_option maxRecDepth 1000000 in
theorem sought_in (n : Nat) (W : World) (ao : Option Addr) (L cap : Nat) (f : Fn) (b c : Array Value) : CallsIn Fence.wide n Try.prog 25 #[.slice ao L cap, .func f b c] W fun e w' => e = .returned (.func (.func 37) #[] #[.pointer (some ⟨W.heap.size, 0, none⟩), .pointer (some ⟨W.heap.size + 1, 0, none⟩)]) ∧ Below W.heap.size W w' ∧ W.heap.size + 2 ≤ w'.heap.size ∧ Boxed w' W.heap.size 33 (.slice ao L cap) ∧ Boxed w' (W.heap.size + 1) 56 (.func f b c) := by
  obtain ⟨W1, HW1, b1, y1, hS1, r1, r2⟩ := Ke.l2 W #[.slice ao L cap] 33 #[.func f b c] 56
  refine callsIn_wide.2 ?_
  go_enter Try.func25, Try.ntmps25
  go_wp2
  go_ret
  rw [HW1.out]
  exact ⟨rfl, b1, y1, r1.out, r2.out⟩

theorem row_own {β : Type} (g : Nat) (cs : Array Value) (t : TypeId) (fr : Nat × Nat) : Own (fun (_ : β) W => W.heap[g]? = some (.cells cs t fr)) := fun s X Y row hs hg hrow => by
  refine (hg.block g (Array.getElem?_eq_some_iff.1 hs).1 (fun e => ?_)).trans hs
  obtain ⟨o, ho, hc⟩ := hrow g e.symm
  rw [hs] at ho
  cases ho
  cases hc

/-- an entry whose texts are not too long, with not too many needs -/
def Fit9 (x : Ev) : Prop := x.n.path.size ≤ 1000000000000 ∧ x.n.pre.size ≤ 1000000000000 ∧ x.l.length ≤ 1000000000 ∧ ∀ n ∈ x.l, n.path.size ≤ 1000000000000 ∧ n.pre.size ≤ 1000000000000

theorem any_find (q : Nd) (l : List Ev) {xs : List { x // x ∈ l }} (h : xs.map Subtype.val = l.filter (fun x => isN q x.n)) : l.any (fun x => isN q x.n) = !xs.isEmpty := by
  cases xs with
  | nil =>
    have h9 : l.filter (fun x => isN q x.n) = [] := h.symm
    rw [List.filter_eq_nil_iff] at h9
    rw [List.any_eq_false.2 h9]
    rfl
  | cons y r =>
    have hm : y.1 ∈ l.filter (fun x => isN q x.n) := by rw [← h]; exact List.mem_cons_self ..
    rw [List.any_eq_true.2 ⟨y.1, y.2, (List.mem_filter.1 hm).2⟩]
    rfl

end Go.Proofs.Ytlhmemnaiobgkaa.Fe

/- Chapter 15, the landed code: FindEntry. -/
namespace Go.Proofs.Ytlhmemnaiobgkaa.Fe
open Go.RowKit Go.Shelf Go.Proofs.Ytlhmemnaiobgkaa.Mem Go.Proofs.Ytlhmemnaiobgkaa.Laws Go.Proofs.Ytlhmemnaiobgkaa.Ver Go.Proofs.Ytlhmemnaiobgkaa.Ent
set_option linter.unusedVariables false
set_option linter.unusedSimpArgs false
attribute [local go_sem] Oper.semAt_some

theorem On.turn {n m : Nat} {w w' : World} {lo hi : Nat} {e : TypeId} {v : Value} {cs : List Value} {row : Option Nat} (h : On n w lo hi e v m cs) (hg : w.grownBy w' row) (hr : ∀ r, row = some r → ∃ o : Obj, w.heap[r]? = some o ∧ o.isCells = false) : On n w' lo hi e v m cs := by
  refine On.keep1 h (fun j hj => hg.block j (On.lt h hj).2.2 (fun e9 => ?_))
  obtain ⟨o, ho, hc⟩ := hr j e9.symm
  rcases h.1.2 with ⟨rfl, _⟩ | ⟨g, cap, cur, rfl, _, hgb, _⟩
  · simp [Value.ownBlock] at hj
  · simp [Value.ownBlock] at hj
    subst hj
    rw [hgb] at ho
    cases ho
    cases hc
theorem row_turn {w w' : World} {row : Option Nat} {g : Nat} {cs : Array Value} {t : TypeId} {fr : Nat × Nat} (h : w.heap[g]? = some (.cells cs t fr)) (hg : w.grownBy w' row) (hr : ∀ r, row = some r → ∃ o : Obj, w.heap[r]? = some o ∧ o.isCells = false) : w'.heap[g]? = some (.cells cs t fr) := row_own g cs t fr () w w' row h hg hr
theorem others_below9 {A B : World} (h : Below A.heap.size A B) : KeepsOthers A B := ⟨h.size, fun k o hk _ => (h.block k (Array.getElem?_eq_some_iff.1 hk).1).trans hk⟩
theorem others_row {A B : World} {g : Nat} {cs : Array Value} {t : TypeId} {fr : Nat × Nat} (h : A.grownBy B (some g)) (hr : A.heap[g]? = some (.cells cs t fr)) : KeepsOthers A B := KeepsOthers.of_grownBy h fun j o ej hj => by cases ej; rw [hr] at hj; cases hj; rfl
theorem res_cb {P : Program} {fn : Func} {p u : Tmp} {ty tz : TypeId} (h : fn.results = #[.cell p ty, .cell u tz]) (tmps : Array Value) (w : World) (g1 g2 : Nat) (t : TypeId) (c1 : Array Value) (v2 : Value) (fr : Nat × Nat) (d : TypeDesc)
    (hp : tmps.getD p undef = .pointer (some ⟨g1, 0, none⟩)) (hg1 : w.heap[g1]? = some (.cells c1 t fr))
    (hu : P.underlying ty = some d) (hd : (match d with | .struct _ | .array _ _ => true | _ => false) = true) (hi1 : (P.info? ty).map (·.size) = some c1.size)
    (hq : tmps.getD u undef = .pointer (some ⟨g2, 0, none⟩)) (hv : (loadVar tz ⟨g2, 0, none⟩).run P w = .ok v2 w) :
    (results fn tmps).run P w = .ok (.tuple #[.agg c1, v2]) w := by
  have hp' : tmps[p]?.getD undef = .pointer (some ⟨g1, 0, none⟩) := by simpa using hp
  have hq' : tmps[u]?.getD undef = .pointer (some ⟨g2, 0, none⟩) := by simpa using hq
  simp [results, h, hp', hq', asAddr, run_loadVar_row w g1 t ty c1 fr d hg1 hu hd hi1, hv]
theorem load_bool (w : World) (g : Nat) (v : Value) (h : w.cell? ⟨g, 0, none⟩ = some v) : (loadVar 4 ⟨g, 0, none⟩).run Try.prog w = .ok v w := by
  simp [go_sem, h]

set_option maxRecDepth 1000000 in
set_option maxHeartbeats 4000000 in
theorem find_in (w : World) (v : Value) (l : List Ev) (q : Nd) (h : Se w v l) (hl : l.length ≤ 1000000000) (hz : ∀ x ∈ l, Fit9 x) :
    CallsIn Fence.wide 6 Try.prog 13 #[v, .string q.path, .agg #[.int .i64 q.a, .int .i64 q.b, .int .i64 q.c, .string q.pre]] w fun e w' => ∃ u', e = .returned (.tuple #[.agg #[.string (res15 q l).1.path, .int .i64 (res15 q l).1.a, .int .i64 (res15 q l).1.b, .int .i64 (res15 q l).1.c, .string (res15 q l).1.pre, u'], .bool (res15 q l).2.2]) ∧ Od w' w.heap.size w'.heap.size u' (res15 q l).2.1 ∧ Below w.heap.size w w' := by
  have h1 : 1 ≤ 6 := by omega
  have HS : Hid (Se w v l) := h
  have HZ : Hid (∀ x ∈ l, Fit9 x) := hz
  obtain ⟨ao, cap, rfl, hcap⟩ := h.form
  clear h hz
  obtain ⟨W1, HW1, b1, y1, hS1, rv, re, rb⟩ := Ke.l3 w #[.int .i64 q.a, .int .i64 q.b, .int .i64 q.c, .string q.pre] 29 #[.string ⟨#[]⟩, .int .i64 0, .int .i64 0, .int .i64 0, .string ⟨#[]⟩, .slice none 0 0] 38 #[.bool false] 4
  refine callsIn_of_wp_marks Try.func13 rfl trivial ?_ rfl
  simp only [Try.ntmps13, List.size_toArray, List.length_cons, List.length_nil, Nat.reduceAdd, Nat.reduceSub, Array.replicate_succ, Array.replicate_zero, List.push_toArray, List.append_toArray, List.nil_append, List.cons_append]
  gi_wp2_with fail
  refine ⟨trivial, ?_⟩
  rw [HW1.out]
  refine (sought_in _ _ _ _ _ _ _ _).mono ?_
  rintro e W2 ⟨rfl, b2, y2, x1, x2⟩
  have B2 : Below w.heap.size w W2 := b1.trans (b2.mono b1.size)
  have rb2 : Boxed W2 (w.heap.size + 1 + 1) 4 (.bool false) := rowKeep rb.out b2
  have re2 : W2.heap[w.heap.size + 1]? = some (.cells #[.string ⟨#[]⟩, .int .i64 0, .int .i64 0, .int .i64 0, .string ⟨#[]⟩, .slice none 0 0] 38 (0, 0)) := rowKeep re.out b2
  have hst := stops_name 5 (by omega) w W2 B2 _ l HS.out (by omega) q W1.heap.size b1.size x1 x2
  clear rb re rv HW1 hS1 b2 x1 x2
  gi_wp2_with fail
  refine wpIn_rangeFunc_ownH rfl h1 (gf := 37) (lb := #[.pointer (some ⟨W1.heap.size, 0, none⟩), .pointer (some ⟨W1.heap.size + 1, 0, none⟩)]) rfl trivial (enters_of Try.func37 (by kernel_rfl) rfl)
    hst Ks_t (fun W l o o' h => Ks_b B2.size W l o o' h) (Below.refl _ _) (fun _ => rfl)
    (fun pre W => (pre = [] ∧ W.heap[w.heap.size + 1]? = some (.cells #[.string ⟨#[]⟩, .int .i64 0, .int .i64 0, .int .i64 0, .string ⟨#[]⟩, .slice none 0 0] 38 (0, 0)) ∧ Boxed W (w.heap.size + 1 + 1) 4 (.bool false)) ∧ Below w.heap.size w W)
    (fun c pre W => (c = .ret ∧ ∃ (x : { x // x ∈ l }) (a9 : Option Addr) (L9 c9 hi : Nat), pre = [x] ∧ W.heap[w.heap.size + 1]? = some (.cells #[.string x.1.n.path, .int .i64 x.1.n.a, .int .i64 x.1.n.b, .int .i64 x.1.n.c, .string x.1.n.pre, .slice a9 L9 c9] 38 (0, 0)) ∧ Boxed W (w.heap.size + 1 + 1) 4 (.bool true) ∧ Od W w.heap.size hi (.slice a9 L9 c9) x.1.l ∧ hi ≤ W.heap.size) ∧ Below w.heap.size w W)
    (OwnFrom.and (Own.from (fun s A B row hs hg hr => ⟨hs.1, row_turn hs.2.1 hg hr, boxed_own _ _ (fun _ => _) () A B row hs.2.2 hg hr⟩) _) (ownFrom_below (Nat.le_refl _) B2.size))
    (fun c => OwnFrom.and (Own.from (fun s A B row hs hg hr => by
      obtain ⟨hc, x, a9, L9, c9, hi, hp, hrow, hbx, hod, hhi⟩ := hs
      exact ⟨hc, x, a9, L9, c9, hi, hp, row_turn hrow hg hr, boxed_own _ _ (fun _ => _) () A B row hbx hg hr, On.turn hod hg hr, Nat.le_trans hhi hg.size⟩) _) (ownFrom_below (Nat.le_refl _) B2.size))
    ⟨⟨rfl, re2, rb2⟩, B2⟩
    (fun x a' W => ∃ g, w.heap.size + 3 ≤ g ∧ W.heap[g]? = some (.cells #[.string x.1.n.path, .int .i64 x.1.n.a, .int .i64 x.1.n.b, .int .i64 x.1.n.c, .string x.1.n.pre, x.1.u] 38 (0, 0)) ∧ a' = { tmps := #[.slice ao l.length cap, .string q.path, .agg #[.int .i64 q.a, .int .i64 q.b, .int .i64 q.c, .string q.pre], undef, undef, .pointer (some ⟨w.heap.size, 0, none⟩), .pointer (some ⟨w.heap.size + 1, 0, none⟩), .pointer (some ⟨w.heap.size + 1 + 1, 0, none⟩), .pointer (some ⟨g, 0, none⟩), .slice ao l.length cap, .string q.path, .agg #[.int .i64 q.a, .int .i64 q.b, .int .i64 q.c, .string q.pre], .agg #[.string q.path, .int .i64 q.a, .int .i64 q.b, .int .i64 q.c, .string q.pre], .func (.func 26) #[.agg #[.string q.path, .int .i64 q.a, .int .i64 q.b, .int .i64 q.c, .string q.pre]] #[], .func (.func 37) #[] #[.pointer (some ⟨W1.heap.size, 0, none⟩), .pointer (some ⟨W1.heap.size + 1, 0, none⟩)], .agg #[.string x.1.n.path, .int .i64 x.1.n.a, .int .i64 x.1.n.b, .int .i64 x.1.n.c, .string x.1.n.pre, x.1.u], undef, undef, undef], defers := [] })
    (fun x a' => fun s A B row hs hg hr => by
      obtain ⟨g, hg1, hrow, ha⟩ := hs
      exact ⟨g, hg1, row_turn hrow hg (fun r e => (hr r e).2), ha⟩)
    ?assign ?body ?done ?stop
  case assign =>
    rintro lr pre ⟨⟨xn, xu, xl⟩, hm⟩ W K hI hK
    obtain ⟨⟨rfl, e0, b0⟩, hB⟩ := hI
    obtain ⟨_, au, cu, hu, _⟩ := HS.out.2 _ hm
    have hu2 : xu = .slice au xl.length cu := hu
    subst hu2
    have hWs := hB.size
    have hk2 := hK { tmps := #[.slice ao l.length cap, .string q.path, .agg #[.int .i64 q.a, .int .i64 q.b, .int .i64 q.c, .string q.pre], undef, undef, .pointer (some ⟨w.heap.size, 0, none⟩), .pointer (some ⟨w.heap.size + 1, 0, none⟩), .pointer (some ⟨w.heap.size + 1 + 1, 0, none⟩), .pointer (some ⟨W.heap.size, 0, none⟩), .slice ao l.length cap, .string q.path, .agg #[.int .i64 q.a, .int .i64 q.b, .int .i64 q.c, .string q.pre], .agg #[.string q.path, .int .i64 q.a, .int .i64 q.b, .int .i64 q.c, .string q.pre], .func (.func 26) #[.agg #[.string q.path, .int .i64 q.a, .int .i64 q.b, .int .i64 q.c, .string q.pre]] #[], .func (.func 37) #[] #[.pointer (some ⟨W1.heap.size, 0, none⟩), .pointer (some ⟨W1.heap.size + 1, 0, none⟩)], .agg #[.string xn.path, .int .i64 xn.a, .int .i64 xn.b, .int .i64 xn.c, .string xn.pre, .slice au xl.length cu], undef, undef, undef], defers := [] } (W.alloc (.cells #[.string xn.path, .int .i64 xn.a, .int .i64 xn.b, .int .i64 xn.c, .string xn.pre, .slice au xl.length cu] 38)) ((KeepsOthers.alloc _ _).from _) (Ks_below ((Below.refl _ _).alloc (Nat.le_refl _) _) hWs) ⟨⟨rfl, rowKeep e0 ((Below.refl _ _).alloc (Nat.le_refl _) _), Boxed.alloc b0 _⟩, hB.alloc hWs _⟩ ⟨W.heap.size, by have := b0.lt; omega, heap_alloc_new W _, rfl⟩
    gi_wp2
    exact hk2
  case body =>
    rintro lr pre ⟨⟨xn, xu, xl⟩, hm⟩ a' W hlr hrec ⟨⟨rfl, e0, b0⟩, hB⟩ ⟨g, hg, rx, rfl⟩ hlt
    have hsd : Sd W xu xl := (HS.out.2 _ hm).later hB
    obtain ⟨f1, f2, f3, f4⟩ := HZ.out _ hm
    have q3 := owne_impl W xn xu xl hsd f3 f1 f2 f4
    have cx := row_at rx
    have hBs := hB.size
    dsimp only at cx
    gi_wp2_with fail
    refine ⟨trivial, ?_⟩
    refine (CallsIn.inRound lr (callsIn_wide.2 q3)).mono ?_
    rintro e w3 ⟨u3, rfl, o3, b3⟩
    obtain ⟨a9, c9, rfl⟩ := Od.slice o3
    have e3 := rowKeep e0 b3
    have b03 : Boxed w3 (w.heap.size + 1 + 1) 4 (.bool false) := Boxed.same9 b0 b3
    have B3 := hB.trans (b3.mono hB.size)
    have K3 := others_below9 b3
    clear q3 cx rx e0 b0 hB b3
    gi_wp2_with (refine wplIn_partG rfl 38 _ _ rfl (w.heap.size + 1) 0 (ec xn (.slice a9 xl.length c9)) rfl rfl [.string ⟨#[]⟩, .int .i64 0, .int .i64 0, .int .i64 0, .string ⟨#[]⟩, .slice none 0 0] 38 e3 (Nat.le_of_ble_eq_true rfl) (sizeE _ _) (oneE _ rfl) [.string xn.path, .int .i64 xn.a, .int .i64 xn.b, .int .i64 xn.c, .string xn.pre, .slice a9 xl.length c9] rfl ?_)
    intro w4 r4 g4
    have b04 : Boxed w4 (w.heap.size + 1 + 1) 4 (.bool false) := rowGro b03 g4 (by intro h9; injection h9 with h9; omega)
    have k4 := b04.cell
    have f4 := b04.frozen
    have B4 : Below w.heap.size w w4 := belowGro B3 g4 B3.size (fun k9 h9 => by injection h9 with h9; omega)
    have K4 := K3.trans (others_row g4 e3)
    have o4 : Od w4 W.heap.size w3.heap.size (.slice a9 xl.length c9) xl := On.keep1 o3 (fun j hj => g4.block j (On.lt o3 hj).2.2 (fun e9 => On.neRow o3 e3 (by decide) (hj.trans e9)))
    have z4 := g4.size
    clear e3 b03 B3 K3 g4 o3
    have g5 := grownBy_setCell' w4 (w.heap.size + 1 + 1) (.bool true)
    have o5 : Od (w4.setCell ⟨w.heap.size + 1 + 1, 0, none⟩ (.bool true)) W.heap.size w3.heap.size (.slice a9 xl.length c9) xl := On.keep1 o4 (fun j hj => g5.block j (On.lt o4 hj).2.2 (fun e9 => On.neRow o4 b04 (by decide) (hj.trans e9)))
    have r5 := rowGro r4 g5 (by intro h9; injection h9 with h9; omega)
    have HO5 := Ke.h (On.mono o5 hBs (Nat.le_refl _))
    have HR5 := Ke.h r5
    have HB5 := Ke.h (B4.setCell (p := ⟨w.heap.size + 1 + 1, 0, none⟩) (by show _ ≤ w.heap.size + 1 + 1; omega) (.bool true))
    have HK5 := Ke.h ((K4.trans (KeepsOthers.setCell w4 ⟨w.heap.size + 1 + 1, 0, none⟩ (.bool true))).from W2.heap.size)
    have HX5 := Ke.h (Boxed.set (.bool true) b04)
    have HZ5 := Ke.h (Nat.le_trans z4 g5.size)
    clear o4 o5 r5 g5 K4 B4
    gi_wp2
    exact ⟨HK5.out, ⟨rfl, ⟨⟨xn, xu, xl⟩, hm⟩, a9, xl.length, c9, w3.heap.size, rfl, HR5.out, HX5.out, HO5.out, HZ5.out⟩, HB5.out⟩
  case done =>
    rintro D ys W hD hy ⟨⟨rfl, e0, b0⟩, hB⟩ hK
    have hR : Hid (res15 q l = (none15, [], false)) := by
      show _ = _
      unfold res15
      have h9 : l.filter (fun x => isN q x.n) = [] := hy.symm
      rw [List.filter_eq_nil_iff] at h9
      rw [List.find?_eq_none.2 (fun x hx => h9 x hx)]
    gi_wp2_with (refine wplIn_partW rfl 38 _ _ rfl (w.heap.size + 1) 0 (ec none15 (.slice none 0 0)) rfl rfl [.string ⟨#[]⟩, .int .i64 0, .int .i64 0, .int .i64 0, .string ⟨#[]⟩, .slice none 0 0] 38 e0 (Nat.le_of_ble_eq_true rfl) (sizeE _ _) (oneE _ rfl) [.string ⟨#[]⟩, .int .i64 0, .int .i64 0, .int .i64 0, .string ⟨#[]⟩, .slice none 0 0] rfl ?_)
    intro w4 r4 g4
    have b04 : Boxed w4 (w.heap.size + 1 + 1) 4 (.bool false) := rowGro b0 g4 (by intro h9; injection h9 with h9; omega)
    have k4 := b04.cell
    have f4 := b04.frozen
    have B4 : Below w.heap.size w w4 := belowGro hB g4 hB.size (fun k9 h9 => by injection h9 with h9; omega)
    have hK4 := (others_row g4 e0).same D _ hK rfl
    gi_wp2
    have hK5 := (KeepsOthers.setCell w4 ⟨w.heap.size + 1 + 1, 0, none⟩ (.bool false)).same D _ hK4 rfl
    refine ⟨by simp, .inl ⟨_, _, rfl, run_takeDeferred hK5, ?_⟩⟩
    have g5 := grownBy_setCell' w4 (w.heap.size + 1 + 1) (.bool false)
    have r5 := rowGro r4 g5 (by intro h9; injection h9 with h9; omega)
    have r6 := row_turn r5 (grownBy_putObj' _ D (.deferred none)) (fun r e => by cases e; exact ⟨_, hK5, rfl⟩)
    have c6 := cell_kept (Boxed.set (.bool false) b04).cell (grownBy_putObj' _ D (.deferred none)) (fun r e => by cases e; exact ⟨_, hK5, rfl⟩)
    have B6 : Below w.heap.size w ((w4.setCell ⟨w.heap.size + 1 + 1, 0, none⟩ (.bool false)).putObj D (.deferred none)) := (B4.setCell (p := ⟨w.heap.size + 1 + 1, 0, none⟩) (by show _ ≤ w.heap.size + 1 + 1; omega) _).trans (belowK_b (w := w) (Nat.le_refl _) _ D _ _ (by have := B2.size; omega) hK5 rfl rfl)
    refine ⟨_, res_cb rfl _ _ (w.heap.size + 1) (w.heap.size + 1 + 1) 38 _ _ (0, 0) _ rfl r6 Try.underlying38 rfl (sizeE none15 _) rfl (load_bool _ _ _ c6), ?_⟩
    rw [hR.out]
    exact ⟨_, rfl, Od.empty _ _ _, B6⟩
  case stop =>
    rintro D c pre W hD hpre ⟨⟨rfl, x, a9, L9, c9, hi, rfl, r4, b04, o4, hhi⟩, hB⟩ hK
    have hR : Hid (res15 q l = (x.1.n, x.1.l, true)) := by
      show _ = _
      unfold res15
      obtain ⟨t, ht⟩ := hpre
      have hf : l.find? (fun x => isN q x.n) = some x.1 := by rw [← List.head?_filter, ← ht]; rfl
      rw [hf]
    gi_wp2
    refine ⟨by simp, .inl ⟨_, _, rfl, run_takeDeferred hK, ?_⟩⟩
    have gr := grownBy_putObj' W D (.deferred none)
    have hgr : ∀ r, some D = some r → ∃ o : Obj, W.heap[r]? = some o ∧ o.isCells = false := fun r e => by cases e; exact ⟨_, hK, rfl⟩
    have r6 := row_turn r4 gr hgr
    have c6 := cell_kept b04.cell gr hgr
    have o6 := On.turn o4 gr hgr
    have B6 : Below w.heap.size w (W.putObj D (.deferred none)) := hB.trans (belowK_b (w := w) (Nat.le_refl _) W D _ _ (by have := B2.size; omega) hK rfl rfl)
    refine ⟨_, res_cb rfl _ _ (w.heap.size + 1) (w.heap.size + 1 + 1) 38 _ _ (0, 0) _ rfl r6 Try.underlying38 rfl (sizeE x.1.n _) rfl (load_bool _ _ _ c6), ?_⟩
    rw [hR.out]
    exact ⟨_, rfl, On.mono o6 (Nat.le_refl _) (Nat.le_trans hhi gr.size), B6⟩

theorem find_impl (w : World) (v : Value) (l : List Ev) (q : Nd) (h : Se w v l) (hl : l.length ≤ 1000000000) (hz : ∀ x ∈ l, Fit9 x) :
    Calls Try.prog 13 #[v, .string q.path, .agg #[.int .i64 q.a, .int .i64 q.b, .int .i64 q.c, .string q.pre]] w fun e w' => ∃ u', e = .returned (.tuple #[.agg #[.string (res15 q l).1.path, .int .i64 (res15 q l).1.a, .int .i64 (res15 q l).1.b, .int .i64 (res15 q l).1.c, .string (res15 q l).1.pre, u'], .bool (res15 q l).2.2]) ∧ Od w' w.heap.size w'.heap.size u' (res15 q l).2.1 ∧ Below w.heap.size w w' := callsIn_wide.1 (find_in w v l q h hl hz)

end Go.Proofs.Ytlhmemnaiobgkaa.Fe

/- Chapter 16, the landed code: is a list closed. -/
namespace Go.Proofs.Ytlhmemnaiobgkaa.Se
open Go.RowKit Go.Proofs.Ytlhmemnaiobgkaa.Mem Go.Proofs.Ytlhmemnaiobgkaa.Laws Go.Proofs.Ytlhmemnaiobgkaa.Ver Go.Proofs.Ytlhmemnaiobgkaa.Ent Go.Proofs.Ytlhmemnaiobgkaa.Fe
set_option linter.unusedVariables false
set_option linter.unusedSimpArgs false

def shutI (l : List Ev) (list : List Nd) (q : Nd) : Bool := (res15 q l).2.2 && coversI list (res15 q l).2.1
def closedI (l : List Ev) (list : List Nd) : Bool := list.all (shutI l list)
theorem closedI_no {l : List Ev} {s : List Nd} {q : Nd} {j : Nat} (h : s[j]? = some q) (hn : shutI l s q = false) : closedI l s = false := by
  unfold closedI
  rw [List.all_eq_false]
  exact ⟨q, List.mem_of_getElem? h, by rw [hn]; decide⟩
theorem closedI_yes {l : List Ev} {s : List Nd} (h : ∀ q ∈ s, shutI l s q = true) : closedI l s = true := by
  unfold closedI
  rw [List.all_eq_true]
  exact h
/-- of versions that are right: as the specification tells it -/
theorem closedI_eq {l : List Ev} {list : List Nd} (h1 : ∀ x ∈ list, okN x) (h2 : ∀ e ∈ l, ∀ x ∈ e.l, okN x) : closedI l list = closed16 l list := by
  have hc : ∀ q, shutI l list q = shut1 l list q := by
    intro q
    unfold shutI shut1 res15 find15
    cases hf : l.find? (fun x => isN q x.n) with
    | none => rfl
    | some e =>
      show (true && coversI list e.l) = covers16 list e.l
      rw [Bool.true_and]
      exact coversI_eq h1 (h2 e (List.mem_of_find?_eq_some hf))
  have e : closed16 l list = list.all (shut1 l list) := rfl
  rw [e]
  unfold closedI
  congr 1
  funext q
  exact hc q
theorem res_facts {P : Nd → Prop} {l : List Ev} (h : ∀ e ∈ l, e.l.length ≤ 1000000000000 ∧ ∀ x ∈ e.l, P x) (q : Nd) : (res15 q l).2.1.length ≤ 1000000000000 ∧ ∀ x ∈ (res15 q l).2.1, P x := by
  unfold res15
  cases hf : l.find? (fun x => isN q x.n) with
  | none => exact ⟨by simp, fun n hn => (List.not_mem_nil hn).elim⟩
  | some e => exact h e (List.mem_of_find?_eq_some hf)

set_option maxRecDepth 1000000 in
set_option maxHeartbeats 4000000 in
theorem closed_impl (w : World) (v1 v2 : Value) (l : List Ev) (s : List Nd) (h1 : Se w v1 l) (h2 : Sd w v2 s) (hl : l.length ≤ 1000000000) (hz : ∀ x ∈ l, Fit9 x) (hs : s.length ≤ 1000000000000) (hz1 : ∀ e ∈ l, e.l.length ≤ 1000000000000 ∧ ∀ x ∈ e.l, x.pre.size ≤ 1000000000000) (hz2 : ∀ x ∈ s, x.pre.size ≤ 1000000000000) :
    Calls Try.prog 11 #[v1, v2] w fun e w' => e = .returned (.bool (closedI l s)) ∧ Below w.heap.size w w' := by
  have HS1 : Hid (Se w v1 l) := h1
  have HS2 : Hid (Sd w v2 s) := h2
  obtain ⟨ao, cap, rfl, hcap⟩ := h1.form
  obtain ⟨_, ao2, cap2, rfl, hcap2, _, _⟩ := h2
  have B0 : Hid (Below w.heap.size w w) := Below.refl _ _
  go_enter Try.func11, Try.ntmps11
  go_wp2_with fail
  go_loopw [11] (fun i wr => ∃ k : Nat, k ≤ s.length ∧ i = .int .i64 (k : Int) ∧ Hid (∀ y ∈ s.take k, shutI l s y = true) ∧ Hid (Below w.heap.size w wr)) (fun i _ => s.length - (intOf i).toNat)
  case atStart => exact ⟨0, Nat.zero_le _, rfl, (fun x hx => by simp at hx), B0⟩
  case round =>
    obtain ⟨k, hk, rfl, HN, B1⟩ := hrel
    obtain ⟨W1, hW1⟩ : ∃ X, X = wr := ⟨_, rfl⟩
    subst hW1
    by_cases hkt : k < s.length
    · have hkt2 : (k : Int) < (s.length : Int) := by omega
      obtain ⟨q, hq⟩ : ∃ q, s[k]? = some q := ⟨s[k], by simp [hkt]⟩
      have HQ : Hid (s[k]? = some q) := hq
      obtain ⟨b2_, off2, cap9, he, _, p0, p1, p2, p3, p4⟩ := Sd.at (HS2.out.later B1.out) hq
      simp only [Value.slice.injEq] at he
      obtain ⟨rfl, _, rfl⟩ := he
      clear hq
      obtain ⟨W2, HW2, b2, y2, hS2, r2⟩ := Ke.l1 W1 #[.string q.path, .int .i64 q.a, .int .i64 q.b, .int .i64 q.c, .string q.pre] 32
      have B2 := Ke.b B1 b2
      have q1 := find_impl W2 _ l q (HS1.out.later B2.out) hl hz
      obtain ⟨fl, fp⟩ := res_facts hz1 q
      obtain ⟨R, hR⟩ : ∃ R, (res15 q l).1 = R := ⟨_, rfl⟩
      obtain ⟨t, ht⟩ : ∃ t, (res15 q l).2.1 = t := ⟨_, rfl⟩
      obtain ⟨ok, hok⟩ : ∃ ok, (res15 q l).2.2 = ok := ⟨_, rfl⟩
      have HU : Hid (shutI l s q = (ok && coversI s t)) := by show _ = _; unfold shutI; rw [ht, hok]
      rw [hR, ht, hok] at q1
      rw [ht] at fl fp
      have HP := Ke.h fp
      clear hR ht hok fp
      go_upto_region 4 with fail
      rw [HW2.out]
      clear p0 p1 p2 p3 p4
      have c2 := Ke.c r2
      go_wp2_with fail
      refine q1.mono ?_
      rintro e W3 ⟨u, rfl, o3, b3⟩
      clear q1
      obtain ⟨ao3, cap3, rfl⟩ := Od.slice o3
      have HO : Hid (Od W3 W2.heap.size W3.heap.size (.slice ao3 t.length cap3) t) := o3
      clear o3
      have B3 := Ke.b B2 b3
      obtain ⟨W4, HW4, b4, y4, hS4, r4⟩ := Ke.l1 W3 #[.string R.path, .int .i64 R.a, .int .i64 R.b, .int .i64 R.c, .string R.pre, .slice ao3 t.length cap3] 38
      have B4 := Ke.b B3 b4
      have HO4 := Ke.h (On.later HO.out b4 (Nat.le_refl _))
      go_upto_region 5 with fail
      rw [HW4.out]
      have c4 := Ke.c r4
      cases ok
      · go_wp2
        go_ret
        exact ⟨by rw [closedI_no HQ.out (by rw [HU.out]; rfl)]; rfl, B4.out⟩
      · have q4 := covers_impl W4 _ _ s t (HS2.out.later B4.out) (Od.sd HO4.out) hs fl hz2 HP.out
        obtain ⟨V, hV⟩ : ∃ V, coversI s t = V := ⟨_, rfl⟩
        rw [hV] at q4
        have HU2 : Hid (shutI l s q = V) := by show _ = _; rw [HU.out, hV]; rfl
        clear hV
        go_wp2_with fail
        refine q4.mono ?_
        rintro e W5 ⟨rfl, b5⟩
        clear q4
        have B5 := Ke.b B4 b5
        cases V
        · go_wp2
          go_ret
          exact ⟨by rw [closedI_no HQ.out HU2.out]; rfl, B5.out⟩
        · go_wp2
          go_roundw
          case rel => exact ⟨k + 1, by omega, by go_num, fun y hy => by rw [take_snoc15 HQ.out] at hy; rcases List.mem_append.1 hy with h9 | h9; exact HN.out y h9; rw [List.mem_singleton.1 h9]; exact HU2.out, B5⟩
          case measure => simp [intOf]; omega
    · have hkt2 : ¬ (k : Int) < (s.length : Int) := by omega
      have HE : Hid (k = s.length) := by show _ = _; omega
      go_wp2
      go_ret
      exact ⟨by rw [closedI_yes (fun y hy => HN.out y (by rw [HE.out, List.take_length]; exact hy))]; rfl, B1.out⟩

end Go.Proofs.Ytlhmemnaiobgkaa.Se
