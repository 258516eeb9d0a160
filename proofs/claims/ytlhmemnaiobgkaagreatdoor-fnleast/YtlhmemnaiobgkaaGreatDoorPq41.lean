/- Texts in one: Rin, Gs4, Gs5, Me3. -/
import Derived.Test.YtlhmemnaiobgkaaGreatDoorPq8
import Derived.Test.YtlhmemnaiobgkaaGreatDoorPq40
import Derived.Test.YtlhmemnaiobgkaaGreatDoorPq24
import Derived.Test.YtlhmemnaiobgkaaGreatDoorPq25
import Derived.Test.YtlhmemnaiobgkaaGreatDoorPq26
import Derived.Test.YtlhmemnaiobgkaaGreatDoorPq27
import Derived.Test.YtlhmemnaiobgkaaGreatDoorPq38
import Derived.Test.YtlhmemnaiobgkaaGreatDoorPq39
import Derived.RangeFuncCalls
import Derived.TacticsIn
import Derived.OrdersIn
import Derived.Deep.RegionHeld
import Derived.Deep.DeepCutAuto
/- A region that draws its order, inside a round of a range over a function: walked by the plain laws; no program is named here. -/
namespace Go.Proofs.YtlhmemnaiobgkaaGreatDoor.Mem
open Go.RowKit
set_option linter.unusedVariables false

theorem oper_in {P : Program} {o : Oper} {a : Act} {w : World} {K : Act → World → Prop} {Q : Exit → Act → World → Prop} (l n : Nat) (hnd : ∀ c, o.op ≠ .defer c) (h : o.wp P a w K Q) : o.wpIn (Fence.wide.inRound l) n P a w K Q := by
  refine ⟨fun _ _ => trivial, ?_⟩
  rw [Fence.inRound_round, Oper.semAt_some l _ _ hnd]
  unfold Oper.wp at h
  generalize (execOp a.eval o).run P w = r at h ⊢
  cases r with
  | ok x w' =>
    cases x with
    | value v => exact h
    | skip => exact h
    | defer d => exact h
    | enter f args =>
      refine ⟨fun h9 => (by cases h9), CallsIn.inRound l (callsIn_wide.2 ?_)⟩
      exact Calls.mono h (fun e w'' he => by cases e <;> exact he)
    | row row args => exact ⟨fun h9 => (by cases h9), fun c cs _ => let ⟨v, w', r, s⟩ := h c cs; ⟨v, w', r, stepsIn_wide.2 s⟩⟩
    | _ => exact h.elim
  | halt x w' => cases x <;> first | exact h | exact h.elim

theorem ops_in {P : Program} {ops : Array Oper} {Q : Exit → Act → World → Prop} (l n : Nat) (hd : ∀ (i : Nat) (o : Oper), ops[i]? = some o → ∀ c, o.op ≠ .defer c) (hl : ¬ LetsOut Q) : ∀ (is : List Nat) (a : Act) (w : World), wpOps P ops Q is a w → wpOpsIn (Fence.wide.inRound l) n P ops Q is a w := by
  intro is
  induction is with
  | nil => intro a w h; exact h
  | cons i r ih =>
    intro a w h
    unfold wpOps at h
    unfold wpOpsIn
    cases ho : ops[i]? with
    | none => simp only [ho] at h ⊢; exact ih a w h
    | some o =>
      simp only [ho] at h ⊢
      split
      · rename_i hw
        rw [if_pos hw] at h
        rcases h with h | h
        · exact oper_in l n (hd i o ho) (Oper.wp_mono (fun a w => ih a w) h)
        · exact absurd h.2 hl
      · rename_i hw
        rw [if_neg hw] at h
        exact ⟨fun _ _ => trivial, ih _ _ h⟩
/-- no operation of these puts off a call -/
def noDefer (ops : Array Oper) : Bool := ops.all fun o => match o.op with | .defer _ => false | _ => true
theorem noDefer_at {ops : Array Oper} (h : noDefer ops = true) : ∀ (i : Nat) (o : Oper), ops[i]? = some o → ∀ c, o.op ≠ .defer c := by
  intro i o ho c hc
  unfold noDefer at h
  rw [Array.all_eq_true] at h
  obtain ⟨hi, e⟩ := Array.getElem?_eq_some_iff.1 ho
  have := h i hi
  rw [e, hc] at this
  cases this
theorem region_round {P : Program} {ops : Array Oper} {Q : Exit → Act → World → Prop} {S : World → Prop} {id l n : Nat} {a : Act} {w : World} (hm : P.follows .mixedOrders = true) (hd : noDefer ops = true) (hl : ¬ LetsOut Q) (hS : S w.drew)
    (h : S w.drew → wpAnyH P .any ops Q S ops.size (Array.replicate ops.size false) a w.drew) : (Code.region id ops true).wpIn (Fence.wide.inRound l) n P Q a w :=
  wpIn_region_draw fun t => ops_in l n (noDefer_at hd) hl _ _ _ (by
    simp only [Region.schedule, hm, Bool.true_or, if_true]
    exact wpAny_sound ops.size t _ a _ (wpAny_of_held _ _ _ _ (h hS)))

theorem oper_wide {P : Program} {o : Oper} {a : Act} {w : World} {K : Act → World → Prop} {Q : Exit → Act → World → Prop} (n : Nat) (hnd : ∀ c, o.op ≠ .defer c) (h : o.wp P a w K Q) : o.wpIn Fence.wide n P a w K Q := by
  have h2 := oper_in 0 n hnd h
  unfold Oper.wpIn at h2 ⊢
  refine ⟨fun _ _ => trivial, ?_⟩
  have h3 := h2.2
  rw [Fence.inRound_round, Oper.semAt_some 0 _ _ hnd] at h3
  show Oper.uponIn Fence.wide n P o a K Q ((Oper.semAt none a.eval o).run P w)
  rw [Oper.semAt_none]
  generalize (execOp a.eval o).run P w = r at h3 ⊢
  cases r with
  | ok x w' => cases x <;> exact h3
  | halt x w' => cases x <;> exact h3
/-- a record is stored into a row, in a round -/
theorem wplIn_partG {P : Program} {ops : Array Oper} {rest : List Oper} {op : Oper} {a : Act} {w : World} {l n : Nat} {Q : Exit → Act → World → Prop} (hgd : op.guard = none) (ty : TypeId) (x y : Operand) (ho : op.op = .store ty x y)
    (b o : Nat) (cells : Array Value) (hx : a.eval x = .pointer (some ⟨b, o, none⟩)) (hy : a.eval y = .agg cells) (cur : List Value) (t : TypeId) (hr : w.heap[b]? = some (.cells cur.toArray t (0, 0)))
    (hn : o + cells.size ≤ cur.length) (hi : (P.info? ty).map (·.size) = some cells.size) (h1 : cells.all (·.oneCell') = true) (new : List Value) (hnew : putL cur o cells.toList = new)
    (h : ∀ w', w'.heap[b]? = some (.cells new.toArray t (0, 0)) → w.grownBy w' (some b) → wpListIn (Fence.wide.inRound l) n P ops Q rest (a.put op.dst undef) w') : wpListIn (Fence.wide.inRound l) n P ops Q (op :: rest) a w :=
  wpListIn_plain hgd fun _ hK => oper_in l n (by rw [ho]; intro c hc; cases hc) (wp_partG ty x y ho b o cells hx hy cur t hr hn hi h1 new hnew (fun w' r g => hK _ _ (h w' r g)))
/-- and outside of one -/
theorem wplIn_partW {P : Program} {ops : Array Oper} {rest : List Oper} {op : Oper} {a : Act} {w : World} {n : Nat} {Q : Exit → Act → World → Prop} (hgd : op.guard = none) (ty : TypeId) (x y : Operand) (ho : op.op = .store ty x y)
    (b o : Nat) (cells : Array Value) (hx : a.eval x = .pointer (some ⟨b, o, none⟩)) (hy : a.eval y = .agg cells) (cur : List Value) (t : TypeId) (hr : w.heap[b]? = some (.cells cur.toArray t (0, 0)))
    (hn : o + cells.size ≤ cur.length) (hi : (P.info? ty).map (·.size) = some cells.size) (h1 : cells.all (·.oneCell') = true) (new : List Value) (hnew : putL cur o cells.toList = new)
    (h : ∀ w', w'.heap[b]? = some (.cells new.toArray t (0, 0)) → w.grownBy w' (some b) → wpListIn Fence.wide n P ops Q rest (a.put op.dst undef) w') : wpListIn Fence.wide n P ops Q (op :: rest) a w :=
  wpListIn_plain hgd fun _ hK => oper_wide n (by rw [ho]; intro c hc; cases hc) (wp_partG ty x y ho b o cells hx hy cur t hr hn hi h1 new hnew (fun w' r g => hK _ _ (h w' r g)))

end Go.Proofs.YtlhmemnaiobgkaaGreatDoor.Mem

/- Chapter 15, the landed code: is there an entry of a name; FindEntry. -/
namespace Go.Proofs.YtlhmemnaiobgkaaGreatDoor.Fe
open Go.RowKit Go.Shelf Go.Proofs.YtlhmemnaiobgkaaGreatDoor.Mem Go.Proofs.YtlhmemnaiobgkaaGreatDoor.Laws Go.Proofs.YtlhmemnaiobgkaaGreatDoor.Ver Go.Proofs.YtlhmemnaiobgkaaGreatDoor.Ent
set_option linter.unusedVariables false
set_option linter.unusedSimpArgs false
attribute [local go_sem] Oper.semAt_some

set_option maxRecDepth 1000000 in
theorem sought_in (n : Nat) (W : World) (ao : Option Addr) (L cap : Nat) (f : Fn) (b c : Array Value) : CallsIn Fence.wide n Tryz.prog 48 #[.slice ao L cap, .func f b c] W fun e w' => e = .returned (.func (.func 77) #[] #[.pointer (some ⟨W.heap.size, 0, none⟩), .pointer (some ⟨W.heap.size + 1, 0, none⟩)]) ∧ Below W.heap.size W w' ∧ W.heap.size + 2 ≤ w'.heap.size ∧ Boxed w' W.heap.size 24 (.slice ao L cap) ∧ Boxed w' (W.heap.size + 1) 71 (.func f b c) := by
  obtain ⟨W1, HW1, b1, y1, hS1, r1, r2⟩ := Ke.l2 W #[.slice ao L cap] 24 #[.func f b c] 71
  refine callsIn_wide.2 ?_
  go_enter Tryz.func48, Tryz.ntmps48
  go_wp2
  go_ret
  rw [HW1.out]
  exact ⟨rfl, b1, y1, r1.out, r2.out⟩

theorem row_own {β : Type} (g : Nat) (cs : Array Value) (t : TypeId) (fr : Nat × Nat) : Own (fun (_ : β) W => W.heap[g]? = some (.cells cs t fr)) := fun s X Y row hs hg hrow => by
  refine (hg.block g (Array.getElem?_eq_some_iff.1 hs).1 (fun e => ?_)).trans hs
  obtain ⟨o, ho, hc⟩ := hrow g e.symm
  rw [hs] at ho
  cases ho
  cases hc

/-- an entry whose texts are not too long, with not too many needs -/
def Fit9 (x : Ev) : Prop := x.n.path.size ≤ 1000000000000 ∧ x.n.pre.size ≤ 1000000000000 ∧ x.l.length ≤ 1000000000 ∧ ∀ n ∈ x.l, n.path.size ≤ 1000000000000 ∧ n.pre.size ≤ 1000000000000

theorem any_find (q : Nd) (l : List Ev) {xs : List { x // x ∈ l }} (h : xs.map Subtype.val = l.filter (fun x => isN q x.n)) : l.any (fun x => isN q x.n) = !xs.isEmpty := by
  cases xs with
  | nil =>
    have h9 : l.filter (fun x => isN q x.n) = [] := h.symm
    rw [List.filter_eq_nil_iff] at h9
    rw [List.any_eq_false.2 h9]
    rfl
  | cons y r =>
    have hm : y.1 ∈ l.filter (fun x => isN q x.n) := by rw [← h]; exact List.mem_cons_self ..
    rw [List.any_eq_true.2 ⟨y.1, y.2, (List.mem_filter.1 hm).2⟩]
    rfl

end Go.Proofs.YtlhmemnaiobgkaaGreatDoor.Fe

/- Chapter 15, the landed code: FindEntry. -/
namespace Go.Proofs.YtlhmemnaiobgkaaGreatDoor.Fe
open Go.RowKit Go.Shelf Go.Proofs.YtlhmemnaiobgkaaGreatDoor.Mem Go.Proofs.YtlhmemnaiobgkaaGreatDoor.Laws Go.Proofs.YtlhmemnaiobgkaaGreatDoor.Ver Go.Proofs.YtlhmemnaiobgkaaGreatDoor.Ent
set_option linter.unusedVariables false
set_option linter.unusedSimpArgs false
attribute [local go_sem] Oper.semAt_some

theorem On.turn {n m : Nat} {w w' : World} {lo hi : Nat} {e : TypeId} {v : Value} {cs : List Value} {row : Option Nat} (h : On n w lo hi e v m cs) (hg : w.grownBy w' row) (hr : ∀ r, row = some r → ∃ o : Obj, w.heap[r]? = some o ∧ o.isCells = false) : On n w' lo hi e v m cs := by
  refine On.keep1 h (fun j hj => hg.block j (On.lt h hj).2.2 (fun e9 => ?_))
  obtain ⟨o, ho, hc⟩ := hr j e9.symm
  rcases h.1.2 with ⟨rfl, _⟩ | ⟨g, cap, cur, rfl, _, hgb, _⟩
  · simp [Value.ownBlock] at hj
  · simp [Value.ownBlock] at hj
    subst hj
    rw [hgb] at ho
    cases ho
    cases hc
theorem row_turn {w w' : World} {row : Option Nat} {g : Nat} {cs : Array Value} {t : TypeId} {fr : Nat × Nat} (h : w.heap[g]? = some (.cells cs t fr)) (hg : w.grownBy w' row) (hr : ∀ r, row = some r → ∃ o : Obj, w.heap[r]? = some o ∧ o.isCells = false) : w'.heap[g]? = some (.cells cs t fr) := row_own g cs t fr () w w' row h hg hr
theorem others_below9 {A B : World} (h : Below A.heap.size A B) : KeepsOthers A B := ⟨h.size, fun k o hk _ => (h.block k (Array.getElem?_eq_some_iff.1 hk).1).trans hk⟩
theorem others_row {A B : World} {g : Nat} {cs : Array Value} {t : TypeId} {fr : Nat × Nat} (h : A.grownBy B (some g)) (hr : A.heap[g]? = some (.cells cs t fr)) : KeepsOthers A B := KeepsOthers.of_grownBy h fun j o ej hj => by cases ej; rw [hr] at hj; cases hj; rfl
theorem res_cb {P : Program} {fn : Func} {p u : Tmp} {ty tz : TypeId} (h : fn.results = #[.cell p ty, .cell u tz]) (tmps : Array Value) (w : World) (g1 g2 : Nat) (t : TypeId) (c1 : Array Value) (v2 : Value) (fr : Nat × Nat) (d : TypeDesc)
    (hp : tmps.getD p undef = .pointer (some ⟨g1, 0, none⟩)) (hg1 : w.heap[g1]? = some (.cells c1 t fr))
    (hu : P.underlying ty = some d) (hd : (match d with | .struct _ | .array _ _ => true | _ => false) = true) (hi1 : (P.info? ty).map (·.size) = some c1.size)
    (hq : tmps.getD u undef = .pointer (some ⟨g2, 0, none⟩)) (hv : (loadVar tz ⟨g2, 0, none⟩).run P w = .ok v2 w) :
    (results fn tmps).run P w = .ok (.tuple #[.agg c1, v2]) w := by
  have hp' : tmps[p]?.getD undef = .pointer (some ⟨g1, 0, none⟩) := by simpa using hp
  have hq' : tmps[u]?.getD undef = .pointer (some ⟨g2, 0, none⟩) := by simpa using hq
  simp [results, h, hp', hq', asAddr, run_loadVar_row w g1 t ty c1 fr d hg1 hu hd hi1, hv]
theorem load_bool (w : World) (g : Nat) (v : Value) (h : w.cell? ⟨g, 0, none⟩ = some v) : (loadVar 4 ⟨g, 0, none⟩).run Tryz.prog w = .ok v w := by
  simp [go_sem, h]

set_option maxRecDepth 1000000 in
set_option maxHeartbeats 4000000 in
theorem find_in (w : World) (v : Value) (l : List Ev) (q : Nd) (h : Se w v l) (hl : l.length ≤ 1000000000) (hz : ∀ x ∈ l, Fit9 x) :
    CallsIn Fence.wide 6 Tryz.prog 12 #[v, .string q.path, .agg #[.int .i64 q.a, .int .i64 q.b, .int .i64 q.c, .string q.pre]] w fun e w' => ∃ u', e = .returned (.tuple #[.agg #[.string (res15 q l).1.path, .int .i64 (res15 q l).1.a, .int .i64 (res15 q l).1.b, .int .i64 (res15 q l).1.c, .string (res15 q l).1.pre, u'], .bool (res15 q l).2.2]) ∧ Od w' w.heap.size w'.heap.size u' (res15 q l).2.1 ∧ Below w.heap.size w w' := by
  have h1 : 1 ≤ 6 := by omega
  have HS : Hid (Se w v l) := h
  have HZ : Hid (∀ x ∈ l, Fit9 x) := hz
  obtain ⟨ao, cap, rfl, hcap⟩ := h.form
  clear h hz
  obtain ⟨W1, HW1, b1, y1, hS1, rv, re, rb⟩ := Ke.l3 w #[.int .i64 q.a, .int .i64 q.b, .int .i64 q.c, .string q.pre] 32 #[.string ⟨#[]⟩, .int .i64 0, .int .i64 0, .int .i64 0, .string ⟨#[]⟩, .slice none 0 0] 34 #[.bool false] 4
  refine callsIn_of_wp_marks Tryz.func12 rfl trivial ?_ rfl
  simp only [Tryz.ntmps12, List.size_toArray, List.length_cons, List.length_nil, Nat.reduceAdd, Nat.reduceSub, Array.replicate_succ, Array.replicate_zero, List.push_toArray, List.append_toArray, List.nil_append, List.cons_append]
  gi_wp2_with fail
  refine ⟨trivial, ?_⟩
  rw [HW1.out]
  refine (sought_in _ _ _ _ _ _ _ _).mono ?_
  rintro e W2 ⟨rfl, b2, y2, x1, x2⟩
  have B2 : Below w.heap.size w W2 := b1.trans (b2.mono b1.size)
  have rb2 : Boxed W2 (w.heap.size + 1 + 1) 4 (.bool false) := rowKeep rb.out b2
  have re2 : W2.heap[w.heap.size + 1]? = some (.cells #[.string ⟨#[]⟩, .int .i64 0, .int .i64 0, .int .i64 0, .string ⟨#[]⟩, .slice none 0 0] 34 (0, 0)) := rowKeep re.out b2
  have hst := stops_name 5 (by omega) w W2 B2 _ l HS.out (by omega) q W1.heap.size b1.size x1 x2
  clear rb re rv HW1 hS1 b2 x1 x2
  gi_wp2_with fail
  refine wpIn_rangeFunc_ownH rfl h1 (gf := 77) (lb := #[.pointer (some ⟨W1.heap.size, 0, none⟩), .pointer (some ⟨W1.heap.size + 1, 0, none⟩)]) rfl trivial (enters_of Tryz.func77 (by kernel_rfl) rfl)
    hst Ks_t (fun W l o o' h => Ks_b B2.size W l o o' h) (Below.refl _ _) (fun _ => rfl)
    (fun pre W => (pre = [] ∧ W.heap[w.heap.size + 1]? = some (.cells #[.string ⟨#[]⟩, .int .i64 0, .int .i64 0, .int .i64 0, .string ⟨#[]⟩, .slice none 0 0] 34 (0, 0)) ∧ Boxed W (w.heap.size + 1 + 1) 4 (.bool false)) ∧ Below w.heap.size w W)
    (fun c pre W => (c = .ret ∧ ∃ (x : { x // x ∈ l }) (a9 : Option Addr) (L9 c9 hi : Nat), pre = [x] ∧ W.heap[w.heap.size + 1]? = some (.cells #[.string x.1.n.path, .int .i64 x.1.n.a, .int .i64 x.1.n.b, .int .i64 x.1.n.c, .string x.1.n.pre, .slice a9 L9 c9] 34 (0, 0)) ∧ Boxed W (w.heap.size + 1 + 1) 4 (.bool true) ∧ Od W w.heap.size hi (.slice a9 L9 c9) x.1.l ∧ hi ≤ W.heap.size) ∧ Below w.heap.size w W)
    (OwnFrom.and (Own.from (fun s A B row hs hg hr => ⟨hs.1, row_turn hs.2.1 hg hr, boxed_own _ _ (fun _ => _) () A B row hs.2.2 hg hr⟩) _) (ownFrom_below (Nat.le_refl _) B2.size))
    (fun c => OwnFrom.and (Own.from (fun s A B row hs hg hr => by
      obtain ⟨hc, x, a9, L9, c9, hi, hp, hrow, hbx, hod, hhi⟩ := hs
      exact ⟨hc, x, a9, L9, c9, hi, hp, row_turn hrow hg hr, boxed_own _ _ (fun _ => _) () A B row hbx hg hr, On.turn hod hg hr, Nat.le_trans hhi hg.size⟩) _) (ownFrom_below (Nat.le_refl _) B2.size))
    ⟨⟨rfl, re2, rb2⟩, B2⟩
    (fun x a' W => ∃ g, w.heap.size + 3 ≤ g ∧ W.heap[g]? = some (.cells #[.string x.1.n.path, .int .i64 x.1.n.a, .int .i64 x.1.n.b, .int .i64 x.1.n.c, .string x.1.n.pre, x.1.u] 34 (0, 0)) ∧ a' = { tmps := #[.slice ao l.length cap, .string q.path, .agg #[.int .i64 q.a, .int .i64 q.b, .int .i64 q.c, .string q.pre], undef, undef, .pointer (some ⟨w.heap.size, 0, none⟩), .pointer (some ⟨w.heap.size + 1, 0, none⟩), .pointer (some ⟨w.heap.size + 1 + 1, 0, none⟩), .pointer (some ⟨g, 0, none⟩), .slice ao l.length cap, .string q.path, .agg #[.int .i64 q.a, .int .i64 q.b, .int .i64 q.c, .string q.pre], .agg #[.string q.path, .int .i64 q.a, .int .i64 q.b, .int .i64 q.c, .string q.pre], .func (.func 49) #[.agg #[.string q.path, .int .i64 q.a, .int .i64 q.b, .int .i64 q.c, .string q.pre]] #[], .func (.func 77) #[] #[.pointer (some ⟨W1.heap.size, 0, none⟩), .pointer (some ⟨W1.heap.size + 1, 0, none⟩)], .agg #[.string x.1.n.path, .int .i64 x.1.n.a, .int .i64 x.1.n.b, .int .i64 x.1.n.c, .string x.1.n.pre, x.1.u], undef, undef, undef], defers := [] })
    (fun x a' => fun s A B row hs hg hr => by
      obtain ⟨g, hg1, hrow, ha⟩ := hs
      exact ⟨g, hg1, row_turn hrow hg (fun r e => (hr r e).2), ha⟩)
    ?assign ?body ?done ?stop
  case assign =>
    rintro lr pre ⟨⟨xn, xu, xl⟩, hm⟩ W K hI hK
    obtain ⟨⟨rfl, e0, b0⟩, hB⟩ := hI
    obtain ⟨_, au, cu, hu, _⟩ := HS.out.2 _ hm
    have hu2 : xu = .slice au xl.length cu := hu
    subst hu2
    have hWs := hB.size
    have hk2 := hK { tmps := #[.slice ao l.length cap, .string q.path, .agg #[.int .i64 q.a, .int .i64 q.b, .int .i64 q.c, .string q.pre], undef, undef, .pointer (some ⟨w.heap.size, 0, none⟩), .pointer (some ⟨w.heap.size + 1, 0, none⟩), .pointer (some ⟨w.heap.size + 1 + 1, 0, none⟩), .pointer (some ⟨W.heap.size, 0, none⟩), .slice ao l.length cap, .string q.path, .agg #[.int .i64 q.a, .int .i64 q.b, .int .i64 q.c, .string q.pre], .agg #[.string q.path, .int .i64 q.a, .int .i64 q.b, .int .i64 q.c, .string q.pre], .func (.func 49) #[.agg #[.string q.path, .int .i64 q.a, .int .i64 q.b, .int .i64 q.c, .string q.pre]] #[], .func (.func 77) #[] #[.pointer (some ⟨W1.heap.size, 0, none⟩), .pointer (some ⟨W1.heap.size + 1, 0, none⟩)], .agg #[.string xn.path, .int .i64 xn.a, .int .i64 xn.b, .int .i64 xn.c, .string xn.pre, .slice au xl.length cu], undef, undef, undef], defers := [] } (W.alloc (.cells #[.string xn.path, .int .i64 xn.a, .int .i64 xn.b, .int .i64 xn.c, .string xn.pre, .slice au xl.length cu] 34)) ((KeepsOthers.alloc _ _).from _) (Ks_below ((Below.refl _ _).alloc (Nat.le_refl _) _) hWs) ⟨⟨rfl, rowKeep e0 ((Below.refl _ _).alloc (Nat.le_refl _) _), Boxed.alloc b0 _⟩, hB.alloc hWs _⟩ ⟨W.heap.size, by have := b0.lt; omega, heap_alloc_new W _, rfl⟩
    gi_wp2
    exact hk2
  case body =>
    rintro lr pre ⟨⟨xn, xu, xl⟩, hm⟩ a' W hlr hrec ⟨⟨rfl, e0, b0⟩, hB⟩ ⟨g, hg, rx, rfl⟩ hlt
    have hsd : Sd W xu xl := (HS.out.2 _ hm).later hB
    obtain ⟨f1, f2, f3, f4⟩ := HZ.out _ hm
    have q3 := owne_impl W xn xu xl hsd f3 f1 f2 f4
    have cx := row_at rx
    have hBs := hB.size
    dsimp only at cx
    gi_wp2_with fail
    refine ⟨trivial, ?_⟩
    refine (CallsIn.inRound lr (callsIn_wide.2 q3)).mono ?_
    rintro e w3 ⟨u3, rfl, o3, b3⟩
    obtain ⟨a9, c9, rfl⟩ := Od.slice o3
    have e3 := rowKeep e0 b3
    have b03 : Boxed w3 (w.heap.size + 1 + 1) 4 (.bool false) := Boxed.same9 b0 b3
    have B3 := hB.trans (b3.mono hB.size)
    have K3 := others_below9 b3
    clear q3 cx rx e0 b0 hB b3
    gi_wp2_with (refine wplIn_partG rfl 34 _ _ rfl (w.heap.size + 1) 0 (ec xn (.slice a9 xl.length c9)) rfl rfl [.string ⟨#[]⟩, .int .i64 0, .int .i64 0, .int .i64 0, .string ⟨#[]⟩, .slice none 0 0] 34 e3 (Nat.le_of_ble_eq_true rfl) (sizeE _ _) (oneE _ rfl) [.string xn.path, .int .i64 xn.a, .int .i64 xn.b, .int .i64 xn.c, .string xn.pre, .slice a9 xl.length c9] rfl ?_)
    intro w4 r4 g4
    have b04 : Boxed w4 (w.heap.size + 1 + 1) 4 (.bool false) := rowGro b03 g4 (by intro h9; injection h9 with h9; omega)
    have k4 := b04.cell
    have f4 := b04.frozen
    have B4 : Below w.heap.size w w4 := belowGro B3 g4 B3.size (fun k9 h9 => by injection h9 with h9; omega)
    have K4 := K3.trans (others_row g4 e3)
    have o4 : Od w4 W.heap.size w3.heap.size (.slice a9 xl.length c9) xl := On.keep1 o3 (fun j hj => g4.block j (On.lt o3 hj).2.2 (fun e9 => On.neRow o3 e3 (by decide) (hj.trans e9)))
    have z4 := g4.size
    clear e3 b03 B3 K3 g4 o3
    have g5 := grownBy_setCell' w4 (w.heap.size + 1 + 1) (.bool true)
    have o5 : Od (w4.setCell ⟨w.heap.size + 1 + 1, 0, none⟩ (.bool true)) W.heap.size w3.heap.size (.slice a9 xl.length c9) xl := On.keep1 o4 (fun j hj => g5.block j (On.lt o4 hj).2.2 (fun e9 => On.neRow o4 b04 (by decide) (hj.trans e9)))
    have r5 := rowGro r4 g5 (by intro h9; injection h9 with h9; omega)
    have HO5 := Ke.h (On.mono o5 hBs (Nat.le_refl _))
    have HR5 := Ke.h r5
    have HB5 := Ke.h (B4.setCell (p := ⟨w.heap.size + 1 + 1, 0, none⟩) (by show _ ≤ w.heap.size + 1 + 1; omega) (.bool true))
    have HK5 := Ke.h ((K4.trans (KeepsOthers.setCell w4 ⟨w.heap.size + 1 + 1, 0, none⟩ (.bool true))).from W2.heap.size)
    have HX5 := Ke.h (Boxed.set (.bool true) b04)
    have HZ5 := Ke.h (Nat.le_trans z4 g5.size)
    clear o4 o5 r5 g5 K4 B4
    gi_wp2
    exact ⟨HK5.out, ⟨rfl, ⟨⟨xn, xu, xl⟩, hm⟩, a9, xl.length, c9, w3.heap.size, rfl, HR5.out, HX5.out, HO5.out, HZ5.out⟩, HB5.out⟩
  case done =>
    rintro D ys W hD hy ⟨⟨rfl, e0, b0⟩, hB⟩ hK
    have hR : Hid (res15 q l = (none15, [], false)) := by
      show _ = _
      unfold res15
      have h9 : l.filter (fun x => isN q x.n) = [] := hy.symm
      rw [List.filter_eq_nil_iff] at h9
      rw [List.find?_eq_none.2 (fun x hx => h9 x hx)]
    gi_wp2_with (refine wplIn_partW rfl 34 _ _ rfl (w.heap.size + 1) 0 (ec none15 (.slice none 0 0)) rfl rfl [.string ⟨#[]⟩, .int .i64 0, .int .i64 0, .int .i64 0, .string ⟨#[]⟩, .slice none 0 0] 34 e0 (Nat.le_of_ble_eq_true rfl) (sizeE _ _) (oneE _ rfl) [.string ⟨#[]⟩, .int .i64 0, .int .i64 0, .int .i64 0, .string ⟨#[]⟩, .slice none 0 0] rfl ?_)
    intro w4 r4 g4
    have b04 : Boxed w4 (w.heap.size + 1 + 1) 4 (.bool false) := rowGro b0 g4 (by intro h9; injection h9 with h9; omega)
    have k4 := b04.cell
    have f4 := b04.frozen
    have B4 : Below w.heap.size w w4 := belowGro hB g4 hB.size (fun k9 h9 => by injection h9 with h9; omega)
    have hK4 := (others_row g4 e0).same D _ hK rfl
    gi_wp2
    have hK5 := (KeepsOthers.setCell w4 ⟨w.heap.size + 1 + 1, 0, none⟩ (.bool false)).same D _ hK4 rfl
    refine ⟨by simp, .inl ⟨_, _, rfl, run_takeDeferred hK5, ?_⟩⟩
    have g5 := grownBy_setCell' w4 (w.heap.size + 1 + 1) (.bool false)
    have r5 := rowGro r4 g5 (by intro h9; injection h9 with h9; omega)
    have r6 := row_turn r5 (grownBy_putObj' _ D (.deferred none)) (fun r e => by cases e; exact ⟨_, hK5, rfl⟩)
    have c6 := cell_kept (Boxed.set (.bool false) b04).cell (grownBy_putObj' _ D (.deferred none)) (fun r e => by cases e; exact ⟨_, hK5, rfl⟩)
    have B6 : Below w.heap.size w ((w4.setCell ⟨w.heap.size + 1 + 1, 0, none⟩ (.bool false)).putObj D (.deferred none)) := (B4.setCell (p := ⟨w.heap.size + 1 + 1, 0, none⟩) (by show _ ≤ w.heap.size + 1 + 1; omega) _).trans (belowK_b (w := w) (Nat.le_refl _) _ D _ _ (by have := B2.size; omega) hK5 rfl rfl)
    refine ⟨_, res_cb rfl _ _ (w.heap.size + 1) (w.heap.size + 1 + 1) 34 _ _ (0, 0) _ rfl r6 Tryz.underlying34 rfl (sizeE none15 _) rfl (load_bool _ _ _ c6), ?_⟩
    rw [hR.out]
    exact ⟨_, rfl, Od.empty _ _ _, B6⟩
  case stop =>
    rintro D c pre W hD hpre ⟨⟨rfl, x, a9, L9, c9, hi, rfl, r4, b04, o4, hhi⟩, hB⟩ hK
    have hR : Hid (res15 q l = (x.1.n, x.1.l, true)) := by
      show _ = _
      unfold res15
      obtain ⟨t, ht⟩ := hpre
      have hf : l.find? (fun x => isN q x.n) = some x.1 := by rw [← List.head?_filter, ← ht]; rfl
      rw [hf]
    gi_wp2
    refine ⟨by simp, .inl ⟨_, _, rfl, run_takeDeferred hK, ?_⟩⟩
    have gr := grownBy_putObj' W D (.deferred none)
    have hgr : ∀ r, some D = some r → ∃ o : Obj, W.heap[r]? = some o ∧ o.isCells = false := fun r e => by cases e; exact ⟨_, hK, rfl⟩
    have r6 := row_turn r4 gr hgr
    have c6 := cell_kept b04.cell gr hgr
    have o6 := On.turn o4 gr hgr
    have B6 : Below w.heap.size w (W.putObj D (.deferred none)) := hB.trans (belowK_b (w := w) (Nat.le_refl _) W D _ _ (by have := B2.size; omega) hK rfl rfl)
    refine ⟨_, res_cb rfl _ _ (w.heap.size + 1) (w.heap.size + 1 + 1) 34 _ _ (0, 0) _ rfl r6 Tryz.underlying34 rfl (sizeE x.1.n _) rfl (load_bool _ _ _ c6), ?_⟩
    rw [hR.out]
    exact ⟨_, rfl, On.mono o6 (Nat.le_refl _) (Nat.le_trans hhi gr.size), B6⟩

theorem find_impl (w : World) (v : Value) (l : List Ev) (q : Nd) (h : Se w v l) (hl : l.length ≤ 1000000000) (hz : ∀ x ∈ l, Fit9 x) :
    Calls Tryz.prog 12 #[v, .string q.path, .agg #[.int .i64 q.a, .int .i64 q.b, .int .i64 q.c, .string q.pre]] w fun e w' => ∃ u', e = .returned (.tuple #[.agg #[.string (res15 q l).1.path, .int .i64 (res15 q l).1.a, .int .i64 (res15 q l).1.b, .int .i64 (res15 q l).1.c, .string (res15 q l).1.pre, u'], .bool (res15 q l).2.2]) ∧ Od w' w.heap.size w'.heap.size u' (res15 q l).2.1 ∧ Below w.heap.size w w' := callsIn_wide.1 (find_in w v l q h hl hz)

end Go.Proofs.YtlhmemnaiobgkaaGreatDoor.Fe

/- Chapter 16, the landed code: what is reached. -/
namespace Go.Proofs.YtlhmemnaiobgkaaGreatDoor.Se
open Go.RowKit Go.Proofs.YtlhmemnaiobgkaaGreatDoor.Mem Go.Proofs.YtlhmemnaiobgkaaGreatDoor.Laws Go.Proofs.YtlhmemnaiobgkaaGreatDoor.Ver Go.Proofs.YtlhmemnaiobgkaaGreatDoor.Ent Go.Proofs.YtlhmemnaiobgkaaGreatDoor.Fe
set_option linter.unusedVariables false
set_option linter.unusedSimpArgs false

theorem put_ge (R : List Nd) (n : Nd) : R.length ≤ (put16 R n).length := by unfold put16; split <;> simp
theorem fold_ge : ∀ (ns R : List Nd), R.length ≤ (ns.foldl put16 R).length := by
  intro ns
  induction ns with
  | nil => intro R; exact Nat.le_refl _
  | cons n r ih => intro R; rw [List.foldl_cons]; exact Nat.le_trans (put_ge R n) (ih _)
/-- told behind all of an entry's needs what is told behind each -/
theorem add_fold : ∀ (ns R : List Nd), R.length ≤ 60 → add16 R ns = if 60 < (ns.foldl put16 R).length then none else some (ns.foldl put16 R) := by
  intro ns
  induction ns with
  | nil => intro R h; rw [add16, List.foldl_nil, if_neg (by omega)]
  | cons n r ih =>
    intro R h
    rw [add16, List.foldl_cons]
    by_cases h1 : 60 < (put16 R n).length
    · rw [if_pos h1, if_pos (Nat.lt_of_lt_of_le h1 (fold_ge _ _))]
    · rw [if_neg h1, ih _ (by omega)]
theorem fold_nodup : ∀ (s R : List Nd), (R ++ s).Nodup → s.foldl put16 R = R ++ s := by
  intro s
  induction s with
  | nil => intro R _; simp
  | cons n r ih =>
    intro R h
    have hn : has16 R n = false := by
      rw [← Bool.not_eq_true, not_congr (has16_iff R n)]
      intro hm
      have := (List.nodup_append.1 h).2.2 n hm n (by simp)
      exact this rfl
    rw [List.foldl_cons, show put16 R n = R ++ [n] by unfold put16; rw [if_neg (by rw [hn]; decide)], ih _ (by simpa using h)]
    simp
theorem Sr.low2 {w : World} {g m lo : Nat} {v : Value} {R Q : List Nd} (h : Sr w g m lo v R Q) {B : Nat} (h1 : B ≤ lo) (h2 : B ≤ g) (h3 : B ≤ m) : ∀ k, k < B → ¬ Xr g m v k := by
  rintro k hk (h9 | h9 | h9)
  · omega
  · omega
  · have := (On.lt h.own h9).1; omega
theorem res_some {q : Nd} {l : List Ev} {N : Nd} {t : List Nd} (h : res15 q l = (N, t, true)) : ∃ e, find15 q l = some e ∧ e.n = N ∧ e.l = t ∧ e ∈ l := by
  unfold res15 at h
  unfold find15
  cases hf : l.find? (fun x => isN q x.n) with
  | none => rw [hf] at h; simp at h
  | some e =>
    rw [hf] at h
    simp only [Prod.mk.injEq] at h
    exact ⟨e, rfl, h.1, h.2.1, List.mem_of_find?_eq_some hf⟩
theorem res_none {q : Nd} {l : List Ev} {N : Nd} {t : List Nd} (h : res15 q l = (N, t, false)) : find15 q l = none := by
  unfold res15 at h
  unfold find15
  cases hf : l.find? (fun x => isN q x.n) with
  | none => rfl
  | some e => rw [hf] at h; simp at h
/-- how the answer is told -/
def RcP (l : List Ev) (s : List Nd) (w : World) (e : Ending) (w' : World) : Prop := ∃ v', e = .returned (.tuple #[v', .int .i64 (reach16 l s).2]) ∧ Od w' w.heap.size w'.heap.size v' (reach16 l s).1 ∧ Below w.heap.size w w'
theorem RcP.bad {l : List Ev} {s : List Nd} {w w' : World} {e : Ending} {c : Int} (h : reach16 l s = ([], c)) (he : e = .returned (.tuple #[.slice none 0 0, .int .i64 c])) (b : Below w.heap.size w w') : RcP l s w e w' :=
  ⟨.slice none 0 0, by rw [h, he], by rw [h]; exact On.nil 5 _ _ _ _, b⟩

set_option maxRecDepth 1000000 in
set_option maxHeartbeats 8000000 in
theorem reach_impl (w : World) (hg : As.Hand w) (v1 v2 : Value) (l : List Ev) (s : List Nd) (h1 : Se w v1 l) (h2 : Sd w v2 s) (hl : l.length ≤ 1000000000) (hz : ∀ x ∈ l, Fit9 x) (hs : s.length ≤ 900000000) (hz2 : ∀ x ∈ s, x.path.size ≤ 1000000000000 ∧ x.pre.size ≤ 1000000000000) :
    Calls Tryz.prog 9 #[v1, v2] w fun e w' => RcP l s w e w' := by
  have HG : Hid (As.Hand w) := hg
  have HS1 : Hid (Se w v1 l) := h1
  have HS2 : Hid (Sd w v2 s) := h2
  obtain ⟨ao, cap, rfl, hcap⟩ := h1.form
  obtain ⟨_, ao2, cap2, rfl, hcap2, _, _⟩ := h2
  clear h1 hg
  have q0 := needs_impl w (.slice ao2 s.length cap2) s HS2.out (by omega) hz2
  obtain ⟨N0, hN0⟩ : ∃ N, needs5 s = N := ⟨_, rfl⟩
  rw [hN0] at q0
  have HN : Hid (needs5 s = N0) := hN0
  clear hN0
  go_enter Tryz.func9, Tryz.ntmps9
  go_wp2_with fail
  refine q0.mono ?_
  rintro e W1 ⟨rfl, b1⟩
  clear q0
  have B1 : Hid (Below w.heap.size w W1) := b1
  have z1 := b1.size
  clear b1
  cases N0
  · have HE : Hid (reach16 l s = ([], 1)) := by show _ = _; unfold reach16; rw [HN.out]; rfl
    go_wp2
    first | go_ret2 | go_ret
    exact RcP.bad HE.out rfl B1.out
  · have hmk := run_makeMap_plain (P := Tryz.prog) W1 67
    obtain ⟨W3, HW3, b3, hs3, hm3, hg3⟩ : ∃ X, Hid ((W1.alloc (.map #[] 0)).alloc (.cells #[.slice none 0 0, .map (some W1.heap.size)] 69) = X) ∧ Below W1.heap.size W1 X ∧ X.heap.size = W1.heap.size + 1 + 1 ∧ X.heap[W1.heap.size]? = some (.map #[] 0) ∧ X.heap[W1.heap.size + 1]? = some (.cells #[.slice none 0 0, .map (some W1.heap.size)] 69 (0, 0)) :=
      ⟨_, rfl, ((Below.refl _ _).alloc (Nat.le_refl _) _).alloc (by simp) _, by simp, heap_alloc2_old W1 _ _, heap_alloc2_new W1 _ _⟩
    have B3 : Hid (Below w.heap.size w W3) := B1.out.trans (b3.mono B1.out.size)
    have H3 : Hid (Sr W3 (W1.heap.size + 1) W1.heap.size W3.heap.size (.slice none 0 0) [] []) := ⟨hg3, hm3, On.nil 5 _ _ _ _, Nat.le_refl _⟩
    have hup := needs_up HN.out
    have q1 := meet_impl W3 (W1.heap.size + 1) W1.heap.size W3.heap.size (.slice none 0 0) (.slice ao2 s.length cap2) [] s H3.out (fun w' K => HS2.out.later (B3.out.trans (K.below (B := w.heap.size) B3.out.size (H3.out.low2 (by omega) (by omega) (by omega))))) (by simp; omega) hz2
    have hfold : s.foldl put16 [] = s := fold_nodup s [] (by simpa using hup.1.nodup)
    rw [hfold] at q1
    obtain ⟨gR, hgR⟩ : ∃ g, g = W1.heap.size + 1 := ⟨_, rfl⟩
    obtain ⟨gM, hgM⟩ : ∃ g, g = W1.heap.size := ⟨_, rfl⟩
    obtain ⟨lo, hlo⟩ : ∃ g, g = W3.heap.size := ⟨_, rfl⟩
    have HW0 : Hid (reach16 l s = walk16 l 61 s 0) := by show _ = _; unfold reach16; rw [if_pos HN.out]
    go_upto_region 4 with fail
    rw [HW3.out]
    clear hmk b3 hm3 hg3 hfold HW3
    rw [← hgR, ← hgM, ← hlo] at q1
    have H3 : Hid (Sr W3 gR gM lo (.slice none 0 0) [] []) := by rw [hgR, hgM, hlo]; exact H3
    have l1 : w.heap.size ≤ gR := by omega
    have l2 : w.heap.size ≤ gM := by omega
    have l3 : w.heap.size ≤ lo := by omega
    try rw [← hgR]
    clear hgR hgM hlo
    go_wp2_with fail
    refine q1.mono ?_
    rintro e W4 ⟨rfl, v4, h4, k4, hV4⟩
    clear q1
    have H4 := Ke.h h4
    have B4 : Hid (Below w.heap.size w W4) := B3.out.trans (k4.below (B := w.heap.size) B3.out.size (H3.out.low2 l3 l1 l2))
    have hs20 := hup.2
    clear h4 k4 hV4 hup H3 B3
    go_wp2_with fail
    go_loopw [7] (fun iv wr => ∃ (i : Nat) (v : Value) (R : List Nd), iv = .int .i64 (i : Int) ∧ i ≤ R.length ∧ R.length ≤ 60 ∧ Hid (walk16 l 61 s 0 = walk16 l (61 - i) R i) ∧ Hid (Sr wr gR gM lo v R R) ∧ Hid (Below w.heap.size w wr)) (fun iv _ => 61 - (intOf iv).toNat)
    case atStart => exact ⟨0, v4, s, rfl, Nat.zero_le _, by omega, (by show _ = _; rfl), H4, B4⟩
    case round =>
      obtain ⟨i, v, R, rfl, hiR, hR6, HWK, H5, B5⟩ := hrel
      obtain ⟨W5, hW5⟩ : ∃ X, X = wr := ⟨_, rfl⟩
      subst hW5
      clear H4 B4 v4
      have zw := B5.out.size
      obtain ⟨av, cv, rfl⟩ := Od.slice H5.out.own
      have cg5 := Ke.c (Ke.h H5.out.row)
      by_cases hlt : i < R.length
      · have hlt2 : (i : Int) < (R.length : Int) := by omega
        obtain ⟨q, hq⟩ : ∃ q, R[i]? = some q := ⟨R[i], by simp [hlt]⟩
        have HX := Ke.h hq
        obtain ⟨b, off, cap9, he, _, m0, m1, m2, m3, m4⟩ := Sd.at (Od.sd H5.out.own) hq
        simp only [Value.slice.injEq] at he
        obtain ⟨rfl, _, rfl⟩ := he
        clear hq
        obtain ⟨N, t, ok, hR⟩ : ∃ N t ok, res15 q l = (N, t, ok) := ⟨_, _, _, rfl⟩
        have q3 : ∀ W, Below W5.heap.size W5 W → _ := fun W hW => find_impl W (.slice ao l.length cap) l q (HS1.out.later (B5.out.trans (hW.mono B5.out.size))) hl hz
        simp only [hR] at q3
        have HRS := Ke.h hR
        clear hR
        go_upto_region 8 with fail
        go_cut [8, 9] (fun s8 s9 wx => ∃ g : Nat, s8 = .pointer (some ⟨g, 0, none⟩) ∧ s9 = .bool ok ∧ W5.heap.size ≤ g ∧ g < wx.heap.size ∧ Below W5.heap.size W5 wx ∧ ∃ (lo2 hi2 : Nat) (ao5 : Option Addr) (L5 cap5 : Nat), W5.heap.size ≤ lo2 ∧ lo2 ≤ hi2 ∧ hi2 ≤ wx.heap.size ∧ Od wx lo2 hi2 (.slice ao5 L5 cap5) t ∧ (g < lo2 ∨ hi2 ≤ g) ∧ wx.heap[g]? = some (.cells #[.string N.path, .int .i64 N.a, .int .i64 N.b, .int .i64 N.c, .string N.pre, .slice ao5 L5 cap5] 34 (0, 0)))
        case first =>
          refine wp_region_held_drew (S := fun w' => (∀ j, w'.cell? ⟨gR, j, none⟩ = #[.slice (some ⟨b, off, none⟩) R.length cv, .map (some gM)][j]?) ∧ w'.cell? ⟨b, off + i * 5, none⟩ = some (.string q.path) ∧ w'.cell? ⟨b, off + i * 5 + 1, none⟩ = some (.int .i64 q.a) ∧ w'.cell? ⟨b, off + i * 5 + 2, none⟩ = some (.int .i64 q.b) ∧ w'.cell? ⟨b, off + i * 5 + 3, none⟩ = some (.int .i64 q.c) ∧ w'.cell? ⟨b, off + i * 5 + 4, none⟩ = some (.string q.pre)) (by kernel_rfl) ⟨cg5, m0, m1, m2, m3, m4⟩ (fun hHeld => ?_)
          refine Ke.y 0 rfl (fun _ _ _ h => h) ?_
          try simp only [Act.put, pu1, pu2, pu3, pu4, pu5, pu6]
          refine Ke.y 1 rfl (fun _ _ _ h => h) ?_
          try simp only [Act.put, pu1, pu2, pu3, pu4, pu5, pu6]
          refine Ke.y 2 rfl (fun _ _ _ h => h) ?_
          try simp only [Act.put, pu1, pu2, pu3, pu4, pu5, pu6]
          refine Ke.y 3 rfl (fun _ _ _ h => h) ?_
          try simp only [Act.put, pu1, pu2, pu3, pu4, pu5, pu6]
          refine Ke.y 4 rfl (fun _ _ _ h => h) ?_
          try simp only [Act.put, pu1, pu2, pu3, pu4, pu5, pu6]
          refine Ke.y 5 rfl (fun _ _ _ h => h) ?_
          try simp only [Act.put, pu1, pu2, pu3, pu4, pu5, pu6]
          refine Ke.y 6 rfl (fun _ _ _ h => h) ?_
          try simp only [Act.put, pu1, pu2, pu3, pu4, pu5, pu6]
          refine Ke.y 7 rfl (fun _ _ _ h => h) ?_
          try simp only [Act.put, pu1, pu2, pu3, pu4, pu5, pu6]
          refine Ke.y 8 rfl (fun _ _ _ h => h) ?_
          try simp only [Act.put, pu1, pu2, pu3, pu4, pu5, pu6]
          refine Ke.y 9 rfl (fun _ _ _ h => h) ?_
          try simp only [Act.put, pu1, pu2, pu3, pu4, pu5, pu6]
          refine Ke.y 10 rfl (fun _ _ _ h => h) ?_
          try simp only [Act.put, pu1, pu2, pu3, pu4, pu5, pu6]
          refine Ke.y 11 rfl (fun _ _ _ h => h) ?_
          try simp only [Act.put, pu1, pu2, pu3, pu4, pu5, pu6]
          refine Ke.y 12 rfl (fun _ _ _ h => h) ?_
          try simp only [Act.put, pu1, pu2, pu3, pu4, pu5, pu6]
          obtain ⟨Wd, HWd, bd⟩ : ∃ X, Hid (W5.drew = X) ∧ Below W5.heap.size W5 X := ⟨_, rfl, Below.drew (Below.refl _ _)⟩
          have HHWd := HWd.out
          rw [HHWd] at hHeld ⊢
          clear HHWd
          have zd := bd.size
          have hbw : b < W5.heap.size := World.block_lt_of_cell? W5 _ m0
          have hgw : gR < W5.heap.size := (Array.getElem?_eq_some_iff.1 H5.out.row).1
          refine wpAnyH_two (i := 13) (k := 17) (by kernel_rfl) ?wJ ?wK
          case wJ =>
            refine wpOp_weak rfl (fun K hK => ?_)
            go_simp
            refine (q3 Wd bd).mono ?_
            rintro e W6 ⟨u2, rfl, o2, b2⟩
            obtain ⟨ao5, L5, cap5, rfl⟩ : ∃ ao L cap, u2 = .slice ao L cap := by obtain ⟨ao, cap, e9⟩ := Od.slice o2; exact ⟨ao, _, cap, e9⟩
            have z6 := b2.size
            have D6 : Below W5.heap.size W5 W6 := bd.trans (b2.mono bd.size)
            have od := o2
            refine hK.out _ _ ⟨⟨Ke.k hHeld.1 b2, S5.keep (b := b) (o := off + i * 5) (x := q) hHeld.2 b2⟩, ?_⟩
            have hHeld := (show _ ∧ S5 b (off + i * 5) q W6 from ⟨Ke.k hHeld.1 b2, S5.keep (b := b) (o := off + i * 5) (x := q) hHeld.2 b2⟩)
            unfold S5 at hHeld
            clear hK K
            try simp only [Act.put, pu1, pu2, pu3, pu4, pu5, pu6]
            refine Ke.y 14 rfl (fun _ _ _ h => h) ?_
            try simp only [Act.put, pu1, pu2, pu3, pu4, pu5, pu6]
            refine Ke.y 15 rfl (fun _ _ _ h => h) ?_
            try simp only [Act.put, pu1, pu2, pu3, pu4, pu5, pu6]
            refine Ke.y 16 rfl (fun _ _ _ h => h) ?_
            try simp only [Act.put, pu1, pu2, pu3, pu4, pu5, pu6]
            refine Ke.z 17 rfl (fun K hK => ?_)
            go_simp
            obtain ⟨W7, HW7, b7, y7, hS7, rr⟩ := Ke.l1 W6 #[.string ⟨#[]⟩, .int .i64 0, .int .i64 0, .int .i64 0, .string ⟨#[]⟩, .slice none 0 0] 34
            refine hK.out _ _ ⟨Ke.k hHeld.1 ((Below.refl _ _).alloc (Nat.le_refl _) _), S5.keep (b := b) (o := off + i * 5) (x := q) hHeld.2 ((Below.refl _ _).alloc (Nat.le_refl _) _)⟩ (fun hHeld => ?_)
            clear hK K
            try simp only [Act.put, pu1, pu2, pu3, pu4, pu5, pu6]
            have HHW := HW7.out
            rw [HHW] at hHeld ⊢
            clear HHW
            have od : Od W7 Wd.heap.size W6.heap.size (.slice ao5 L5 cap5) t := On.later od b7 (by omega)
            have D7 : Below W5.heap.size W5 W7 := D6.trans (b7.mono D6.size)
            have zz : W6.heap.size ≤ W7.heap.size := b7.size
            have hg3 := rr.out
            refine Ke.z 18 rfl (fun K hK => ?_)
            rw [if_pos (by rfl)]
            refine wp_partG 34 _ _ rfl (W6.heap.size) 0 (ec N (.slice ao5 L5 cap5)) rfl rfl [.string ⟨#[]⟩, .int .i64 0, .int .i64 0, .int .i64 0, .string ⟨#[]⟩, .slice none 0 0] 34 hg3 (Nat.le_of_ble_eq_true rfl) (sizeE _ _) (oneE _ rfl) [.string N.path, .int .i64 N.a, .int .i64 N.b, .int .i64 N.c, .string N.pre, .slice ao5 L5 cap5] rfl ?_
            intro WZ rz gz
            refine hK.out _ _ ⟨Ke.g hHeld.1 gz (by intro h9; injection h9 with h9; first | (replace h9 : (W6.heap.size) = gR := h9; omega) | (replace h9 : gR = (W6.heap.size) := h9; omega)), cellGro hHeld.2.1 gz (by intro h9; injection h9 with h9; first | (replace h9 : (W6.heap.size) = b := h9; omega) | (replace h9 : b = (W6.heap.size) := h9; omega)), cellGro hHeld.2.2.1 gz (by intro h9; injection h9 with h9; first | (replace h9 : (W6.heap.size) = b := h9; omega) | (replace h9 : b = (W6.heap.size) := h9; omega)), cellGro hHeld.2.2.2.1 gz (by intro h9; injection h9 with h9; first | (replace h9 : (W6.heap.size) = b := h9; omega) | (replace h9 : b = (W6.heap.size) := h9; omega)), cellGro hHeld.2.2.2.2.1 gz (by intro h9; injection h9 with h9; first | (replace h9 : (W6.heap.size) = b := h9; omega) | (replace h9 : b = (W6.heap.size) := h9; omega)), cellGro hHeld.2.2.2.2.2 gz (by intro h9; injection h9 with h9; first | (replace h9 : (W6.heap.size) = b := h9; omega) | (replace h9 : b = (W6.heap.size) := h9; omega))⟩ (fun hHeld => ?_)
            clear hK K
            try simp only [Act.put, pu1, pu2, pu3, pu4, pu5, pu6]
            have hzz := gz.size
            have oz := od_gro9 od gz (fun k9 h9 => by injection h9 with h9; omega)
            have Dz : Below W5.heap.size W5 WZ := belowGro D7 gz D7.size (fun k9 h9 => by injection h9 with h9; omega)
            refine Ke.y 19 rfl (fun _ _ _ h => h) ?_
            try simp only [Act.put, pu1, pu2, pu3, pu4, pu5, pu6]
            refine wpAnyH_done (by kernel_rfl) ?_ _
            clear hHeld
            go_wp2_with fail
            go_meet
            exact ⟨W6.heap.size, rfl, rfl, by omega, (Array.getElem?_eq_some_iff.1 rz).1, Dz, Wd.heap.size, W6.heap.size, ao5, L5, cap5, by omega, by omega, by omega, oz, by omega, rz⟩
          case wK =>
            refine wpOp_weak rfl (fun K hK => ?_)
            go_simp
            obtain ⟨Wa, HWa, ba, ya, hSa, ra⟩ := Ke.l1 Wd #[.string ⟨#[]⟩, .int .i64 0, .int .i64 0, .int .i64 0, .string ⟨#[]⟩, .slice none 0 0] 34
            refine hK.out _ _ ⟨⟨Ke.k hHeld.1 ((Below.refl _ _).alloc (Nat.le_refl _) _), S5.keep (b := b) (o := off + i * 5) (x := q) hHeld.2 ((Below.refl _ _).alloc (Nat.le_refl _) _)⟩, ?_⟩
            have hHeld := (show _ ∧ S5 b (off + i * 5) q (Wd.alloc (.cells #[.string ⟨#[]⟩, .int .i64 0, .int .i64 0, .int .i64 0, .string ⟨#[]⟩, .slice none 0 0] 34)) from ⟨Ke.k hHeld.1 ((Below.refl _ _).alloc (Nat.le_refl _) (.cells #[.string ⟨#[]⟩, .int .i64 0, .int .i64 0, .int .i64 0, .string ⟨#[]⟩, .slice none 0 0] 34)), S5.keep (b := b) (o := off + i * 5) (x := q) hHeld.2 ((Below.refl _ _).alloc (Nat.le_refl _) (.cells #[.string ⟨#[]⟩, .int .i64 0, .int .i64 0, .int .i64 0, .string ⟨#[]⟩, .slice none 0 0] 34))⟩)
            unfold S5 at hHeld
            clear hK K
            try simp only [Act.put, pu1, pu2, pu3, pu4, pu5, pu6]
            have HHW := HWa.out
            rw [HHW] at hHeld ⊢
            clear HHW
            have za := ba.size
            have Da : Below W5.heap.size W5 Wa := bd.trans (ba.mono bd.size)
            refine Ke.z 13 rfl (fun K hK => ?_)
            go_simp
            refine (q3 Wa Da).mono ?_
            rintro e W6 ⟨u2, rfl, o2, b2⟩
            obtain ⟨ao5, L5, cap5, rfl⟩ : ∃ ao L cap, u2 = .slice ao L cap := by obtain ⟨ao, cap, e9⟩ := Od.slice o2; exact ⟨ao, _, cap, e9⟩
            have z6 := b2.size
            have D6 : Below W5.heap.size W5 W6 := Da.trans (b2.mono Da.size)
            have od := o2
            have hg3 := (Ke.r ra b2).out
            refine hK.out _ _ ⟨Ke.k hHeld.1 b2, S5.keep (b := b) (o := off + i * 5) (x := q) hHeld.2 b2⟩ (fun hHeld => ?_)
            clear hK K
            try simp only [Act.put, pu1, pu2, pu3, pu4, pu5, pu6]
            refine Ke.y 14 rfl (fun _ _ _ h => h) ?_
            try simp only [Act.put, pu1, pu2, pu3, pu4, pu5, pu6]
            refine Ke.y 15 rfl (fun _ _ _ h => h) ?_
            try simp only [Act.put, pu1, pu2, pu3, pu4, pu5, pu6]
            refine Ke.y 16 rfl (fun _ _ _ h => h) ?_
            try simp only [Act.put, pu1, pu2, pu3, pu4, pu5, pu6]
            refine Ke.z 18 rfl (fun K hK => ?_)
            rw [if_pos (by rfl)]
            refine wp_partG 34 _ _ rfl (Wd.heap.size) 0 (ec N (.slice ao5 L5 cap5)) rfl rfl [.string ⟨#[]⟩, .int .i64 0, .int .i64 0, .int .i64 0, .string ⟨#[]⟩, .slice none 0 0] 34 hg3 (Nat.le_of_ble_eq_true rfl) (sizeE _ _) (oneE _ rfl) [.string N.path, .int .i64 N.a, .int .i64 N.b, .int .i64 N.c, .string N.pre, .slice ao5 L5 cap5] rfl ?_
            intro WZ rz gz
            refine hK.out _ _ ⟨Ke.g hHeld.1 gz (by intro h9; injection h9 with h9; first | (replace h9 : (Wd.heap.size) = gR := h9; omega) | (replace h9 : gR = (Wd.heap.size) := h9; omega)), cellGro hHeld.2.1 gz (by intro h9; injection h9 with h9; first | (replace h9 : (Wd.heap.size) = b := h9; omega) | (replace h9 : b = (Wd.heap.size) := h9; omega)), cellGro hHeld.2.2.1 gz (by intro h9; injection h9 with h9; first | (replace h9 : (Wd.heap.size) = b := h9; omega) | (replace h9 : b = (Wd.heap.size) := h9; omega)), cellGro hHeld.2.2.2.1 gz (by intro h9; injection h9 with h9; first | (replace h9 : (Wd.heap.size) = b := h9; omega) | (replace h9 : b = (Wd.heap.size) := h9; omega)), cellGro hHeld.2.2.2.2.1 gz (by intro h9; injection h9 with h9; first | (replace h9 : (Wd.heap.size) = b := h9; omega) | (replace h9 : b = (Wd.heap.size) := h9; omega)), cellGro hHeld.2.2.2.2.2 gz (by intro h9; injection h9 with h9; first | (replace h9 : (Wd.heap.size) = b := h9; omega) | (replace h9 : b = (Wd.heap.size) := h9; omega))⟩ (fun hHeld => ?_)
            clear hK K
            try simp only [Act.put, pu1, pu2, pu3, pu4, pu5, pu6]
            have hzz := gz.size
            have oz := od_gro9 od gz (fun k9 h9 => by injection h9 with h9; omega)
            have Dz : Below W5.heap.size W5 WZ := belowGro D6 gz D6.size (fun k9 h9 => by injection h9 with h9; omega)
            refine Ke.y 19 rfl (fun _ _ _ h => h) ?_
            try simp only [Act.put, pu1, pu2, pu3, pu4, pu5, pu6]
            refine wpAnyH_done (by kernel_rfl) ?_ _
            clear hHeld
            go_wp2_with fail
            go_meet
            exact ⟨Wd.heap.size, rfl, rfl, by omega, (Array.getElem?_eq_some_iff.1 rz).1, Dz, Wa.heap.size, W6.heap.size, ao5, L5, cap5, by omega, by omega, by omega, oz, by omega, rz⟩
        case rest =>
        obtain ⟨g5, rfl, rfl, hg1, hg2, b5, lo2, hi2, ao5, L5, cap5, d1, d2, d3, od, hgf, rr⟩ := hcut
        revert hg2 b5 d3 od rr
        generalize wc = W6
        intro hg2 b5 d3 od rr
        have H6 := Ke.h (H5.out.later b5)
        have B6 := Ke.b B5 b5
        have hgw : gR < W5.heap.size := (Array.getElem?_eq_some_iff.1 H5.out.row).1
        have hmw : gM < W5.heap.size := (Array.getElem?_eq_some_iff.1 H5.out.mp).1
        have HV : Hid (∀ j, (Value.slice (some ⟨b, off, none⟩) R.length cv).ownBlock = some j → j < W5.heap.size) := fun j hj => (On.lt H5.out.own hj).2.2
        have r_e := Ke.h rr
        have c_e := Ke.c r_e
        have HO : Hid (Od W6 lo2 hi2 (.slice ao5 L5 cap5) t) := od
        clear rr od m0 m1 m2 m3 m4 q3 b5 cg5
        cases ok
        · have HE : Hid (reach16 l s = ([], 2)) := by show _ = _; rw [HW0.out, HWK.out, show 61 - i = (60 - i) + 1 by omega, w_none HX.out (res_none HRS.out)]
          go_wp2
          first | go_ret2 | go_ret
          exact RcP.bad HE.out rfl B6.out
        · obtain ⟨ev, hf1, hf2, hf3, hf4⟩ := res_some HRS.out
          have hev := hz ev hf4
          unfold Fit9 at hev
          rw [hf2, hf3] at hev
          obtain ⟨hev1, hev2, hev3, hev4⟩ := hev
          have qe := entryok_impl W6 (As.Hand.later HG.out B6.out) N (.slice ao5 L5 cap5) t HO.out.sd (by omega) hev1 hev2 hev4
          obtain ⟨V, hV⟩ : ∃ V, entry5 N t = V := ⟨_, rfl⟩
          rw [hV] at qe
          have HF1 := Ke.h hf1
          have HVV := Ke.h hV
          clear hV hf1
          go_wp2_with fail
          refine qe.mono ?_
          rintro e W7 ⟨rfl, b7⟩
          clear qe c_e
          have H7 := Ke.h (H6.out.later b7)
          have B7 := Ke.b B6 b7
          have r_e7 := Ke.r r_e b7
          have c_e7 := Ke.c r_e7
          have HO7 := Ke.h (On.later HO.out b7 d3)
          have z7 := b7.size
          clear H6 r_e HO b7
          cases V
          · have HE : Hid (reach16 l s = ([], 2)) := by show _ = _; rw [HW0.out, HWK.out, show 61 - i = (60 - i) + 1 by omega, w_bad HX.out HF1.out (by rw [hf2, hf3]; exact HVV.out)]
            go_wp2
            first | go_ret2 | go_ret
            exact RcP.bad HE.out rfl B7.out
          · have ht8 : t.length ≤ 8 := by have h9 := HVV.out; unfold entry5 at h9; simp only [Bool.and_eq_true, decide_eq_true_eq] at h9; exact h9.1.2
            have qm := meet_impl W7 gR gM lo (.slice (some ⟨b, off, none⟩) R.length cv) (.slice ao5 L5 cap5) R t H7.out (fun w' K => Od.sd (On.keep1 HO7.out (fun j hj => by have h8 := On.lt HO7.out hj; exact K.2 j h8.2.2 (by rintro (h9 | h9 | h9); omega; omega; have := HV.out j h9; omega)))) (by omega) hev4
            have hadd := add_fold t R hR6
            obtain ⟨T, hT⟩ : ∃ T, t.foldl put16 R = T := ⟨_, rfl⟩
            rw [hT] at qm hadd
            have HA := Ke.h hadd
            have hTR : R.length ≤ T.length := by rw [← hT]; exact fold_ge _ _
            have HTT := fold_len t R
            rw [hT] at HTT
            clear hadd hT
            go_wp2_with fail
            refine qm.mono ?_
            rintro e W8 ⟨rfl, v8, h8, k8, hV8⟩
            clear qm c_e7
            have H8 := Ke.h h8
            have B8 : Hid (Below w.heap.size w W8) := B7.out.trans (k8.below (B := w.heap.size) B7.out.size (H7.out.low2 l3 l1 l2))
            clear h8 k8 hV8 H7 r_e7 HO7
            obtain ⟨av8, cv8, rfl⟩ := Od.slice H8.out.own
            have cg8 := Ke.c (Ke.h H8.out.row)
            by_cases hT6 : 60 < T.length
            · have HE : Hid (reach16 l s = ([], 3)) := by show _ = _; rw [HW0.out, HWK.out, show 61 - i = (60 - i) + 1 by omega, w_many HX.out HF1.out (by rw [hf2, hf3]; exact HVV.out) (by rw [hf3, HA.out, if_pos hT6])]
              have hT7 : (60 : Int) < (T.length : Int) := by omega
              clear hT6
              go_wp2
              first | go_ret2 | go_ret
              exact RcP.bad HE.out rfl B8.out
            · have HE : Hid (walk16 l 61 s 0 = walk16 l (61 - (i + 1)) T (i + 1)) := by show _ = _; rw [HWK.out, show 61 - i = (60 - i) + 1 by omega, w_go HX.out HF1.out (by rw [hf2, hf3]; exact HVV.out) (by rw [hf3, HA.out, if_neg hT6]), show 61 - (i + 1) = 60 - i by omega]
              have hT7 : ¬ (60 : Int) < (T.length : Int) := by omega
              have hT8 : T.length ≤ 60 := by omega
              clear hT6
              go_wp2
              go_roundw
              case rel => exact ⟨i + 1, _, T, by go_num, by omega, hT8, HE, H8, B8⟩
              case measure => simp [intOf]; omega
      · have hlt2 : ¬ (i : Int) < (R.length : Int) := by omega
        have HE : Hid (reach16 l s = (R, 0)) := by show _ = _; rw [HW0.out, HWK.out, show 61 - i = (60 - i) + 1 by omega, w_end (by omega)]
        go_wp2
        first | go_ret2 | go_ret
        exact ⟨_, by rw [HE.out]; rfl, by rw [HE.out]; exact On.mono H5.out.own l3 (Nat.le_refl _), B5.out⟩

end Go.Proofs.YtlhmemnaiobgkaaGreatDoor.Se
