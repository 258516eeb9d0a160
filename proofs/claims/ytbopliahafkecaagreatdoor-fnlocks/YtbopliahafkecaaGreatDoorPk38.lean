/- Texts in one: Rin, LmE, LmF, EfE, LmH, LmI. -/
import Derived.Test.YtbopliahafkecaaGreatDoorPk5
import Derived.Test.YtbopliahafkecaaGreatDoorPk37
import Derived.Test.YtbopliahafkecaaGreatDoorPk25
import Derived.Test.YtbopliahafkecaaGreatDoorPk26
import Derived.Test.YtbopliahafkecaaGreatDoorPk13
import Derived.Test.YtbopliahafkecaaGreatDoorPk35
import Derived.Test.YtbopliahafkecaaGreatDoorPk29
import Derived.Test.YtbopliahafkecaaGreatDoorPk21
import Derived.Test.YtbopliahafkecaaGreatDoorPk36
import Derived.Test.YtbopliahafkecaaGreatDoorPk30
import Derived.Test.YtbopliahafkecaaGreatDoorPk27
import Derived.RangeFuncCalls
import Derived.TacticsIn
import Derived.OrdersIn
import Derived.Deep.RegionHeld
import Derived.Shelf.Abstract
import Derived.Shelf.RegionOpen
import Derived.WalkKit
import Derived.OwnWalkIn
import Derived.TacticsInMore
import Derived.LoopNIn
import Derived.LoopIn
/- A region that draws its order, inside a round of a range over a function: walked by the plain laws; no program is named here. -/
namespace Go.Proofs.YtbopliahafkecaaGreatDoor.Mem
open Go.RowKit
set_option linter.unusedVariables false

theorem oper_in {P : Program} {o : Oper} {a : Act} {w : World} {K : Act → World → Prop} {Q : Exit → Act → World → Prop} (l n : Nat) (hnd : ∀ c, o.op ≠ .defer c) (h : o.wp P a w K Q) : o.wpIn (Fence.wide.inRound l) n P a w K Q := by
  refine ⟨fun _ _ => trivial, ?_⟩
  rw [Fence.inRound_round, Oper.semAt_some l _ _ hnd]
  unfold Oper.wp at h
  generalize (execOp a.eval o).run P w = r at h ⊢
  cases r with
  | ok x w' =>
    cases x with
    | value v => exact h
    | skip => exact h
    | defer d => exact h
    | enter f args =>
      refine ⟨fun h9 => (by cases h9), CallsIn.inRound l (callsIn_wide.2 ?_)⟩
      exact Calls.mono h (fun e w'' he => by cases e <;> exact he)
    | row row args => exact ⟨fun h9 => (by cases h9), fun c cs _ => let ⟨v, w', r, s⟩ := h c cs; ⟨v, w', r, stepsIn_wide.2 s⟩⟩
    | _ => exact h.elim
  | halt x w' => cases x <;> first | exact h | exact h.elim

theorem ops_in {P : Program} {ops : Array Oper} {Q : Exit → Act → World → Prop} (l n : Nat) (hd : ∀ (i : Nat) (o : Oper), ops[i]? = some o → ∀ c, o.op ≠ .defer c) (hl : ¬ LetsOut Q) : ∀ (is : List Nat) (a : Act) (w : World), wpOps P ops Q is a w → wpOpsIn (Fence.wide.inRound l) n P ops Q is a w := by
  intro is
  induction is with
  | nil => intro a w h; exact h
  | cons i r ih =>
    intro a w h
    unfold wpOps at h
    unfold wpOpsIn
    cases ho : ops[i]? with
    | none => simp only [ho] at h ⊢; exact ih a w h
    | some o =>
      simp only [ho] at h ⊢
      split
      · rename_i hw
        rw [if_pos hw] at h
        rcases h with h | h
        · exact oper_in l n (hd i o ho) (Oper.wp_mono (fun a w => ih a w) h)
        · exact absurd h.2 hl
      · rename_i hw
        rw [if_neg hw] at h
        exact ⟨fun _ _ => trivial, ih _ _ h⟩
/-- no operation of these puts off a call -/
def noDefer (ops : Array Oper) : Bool := ops.all fun o => match o.op with | .defer _ => false | _ => true
theorem noDefer_at {ops : Array Oper} (h : noDefer ops = true) : ∀ (i : Nat) (o : Oper), ops[i]? = some o → ∀ c, o.op ≠ .defer c := by
  intro i o ho c hc
  unfold noDefer at h
  rw [Array.all_eq_true] at h
  obtain ⟨hi, e⟩ := Array.getElem?_eq_some_iff.1 ho
  have := h i hi
  rw [e, hc] at this
  cases this
theorem region_round {P : Program} {ops : Array Oper} {Q : Exit → Act → World → Prop} {S : World → Prop} {id l n : Nat} {a : Act} {w : World} (hm : P.follows .mixedOrders = true) (hd : noDefer ops = true) (hl : ¬ LetsOut Q) (hS : S w.drew)
    (h : S w.drew → wpAnyH P .any ops Q S ops.size (Array.replicate ops.size false) a w.drew) : (Code.region id ops true).wpIn (Fence.wide.inRound l) n P Q a w :=
  wpIn_region_draw fun t => ops_in l n (noDefer_at hd) hl _ _ _ (by
    simp only [Region.schedule, hm, Bool.true_or, if_true]
    exact wpAny_sound ops.size t _ a _ (wpAny_of_held _ _ _ _ (h hS)))

theorem oper_wide {P : Program} {o : Oper} {a : Act} {w : World} {K : Act → World → Prop} {Q : Exit → Act → World → Prop} (n : Nat) (hnd : ∀ c, o.op ≠ .defer c) (h : o.wp P a w K Q) : o.wpIn Fence.wide n P a w K Q := by
  have h2 := oper_in 0 n hnd h
  unfold Oper.wpIn at h2 ⊢
  refine ⟨fun _ _ => trivial, ?_⟩
  have h3 := h2.2
  rw [Fence.inRound_round, Oper.semAt_some 0 _ _ hnd] at h3
  show Oper.uponIn Fence.wide n P o a K Q ((Oper.semAt none a.eval o).run P w)
  rw [Oper.semAt_none]
  generalize (execOp a.eval o).run P w = r at h3 ⊢
  cases r with
  | ok x w' => cases x <;> exact h3
  | halt x w' => cases x <;> exact h3
/-- a record is stored into a row, in a round -/
theorem wplIn_partG {P : Program} {ops : Array Oper} {rest : List Oper} {op : Oper} {a : Act} {w : World} {l n : Nat} {Q : Exit → Act → World → Prop} (hgd : op.guard = none) (ty : TypeId) (x y : Operand) (ho : op.op = .store ty x y)
    (b o : Nat) (cells : Array Value) (hx : a.eval x = .pointer (some ⟨b, o, none⟩)) (hy : a.eval y = .agg cells) (cur : List Value) (t : TypeId) (hr : w.heap[b]? = some (.cells cur.toArray t (0, 0)))
    (hn : o + cells.size ≤ cur.length) (hi : (P.info? ty).map (·.size) = some cells.size) (h1 : cells.all (·.oneCell') = true) (new : List Value) (hnew : putL cur o cells.toList = new)
    (h : ∀ w', w'.heap[b]? = some (.cells new.toArray t (0, 0)) → w.grownBy w' (some b) → wpListIn (Fence.wide.inRound l) n P ops Q rest (a.put op.dst undef) w') : wpListIn (Fence.wide.inRound l) n P ops Q (op :: rest) a w :=
  wpListIn_plain hgd fun _ hK => oper_in l n (by rw [ho]; intro c hc; cases hc) (wp_partG ty x y ho b o cells hx hy cur t hr hn hi h1 new hnew (fun w' r g => hK _ _ (h w' r g)))
/-- and outside of one -/
theorem wplIn_partW {P : Program} {ops : Array Oper} {rest : List Oper} {op : Oper} {a : Act} {w : World} {n : Nat} {Q : Exit → Act → World → Prop} (hgd : op.guard = none) (ty : TypeId) (x y : Operand) (ho : op.op = .store ty x y)
    (b o : Nat) (cells : Array Value) (hx : a.eval x = .pointer (some ⟨b, o, none⟩)) (hy : a.eval y = .agg cells) (cur : List Value) (t : TypeId) (hr : w.heap[b]? = some (.cells cur.toArray t (0, 0)))
    (hn : o + cells.size ≤ cur.length) (hi : (P.info? ty).map (·.size) = some cells.size) (h1 : cells.all (·.oneCell') = true) (new : List Value) (hnew : putL cur o cells.toList = new)
    (h : ∀ w', w'.heap[b]? = some (.cells new.toArray t (0, 0)) → w.grownBy w' (some b) → wpListIn Fence.wide n P ops Q rest (a.put op.dst undef) w') : wpListIn Fence.wide n P ops Q (op :: rest) a w :=
  wpListIn_plain hgd fun _ hK => oper_wide n (by rw [ho]; intro c hc; cases hc) (wp_partG ty x y ho b o cells hx hy cur t hr hn hi h1 new hnew (fun w' r g => hK _ _ (h w' r g)))

end Go.Proofs.YtbopliahafkecaaGreatDoor.Mem

/- Chapter 17, the landed code: the lines of a text, by the library's iterator, which keeps what is left in a captured variable. -/
namespace Go.Proofs.YtbopliahafkecaaGreatDoor.Lm
open Go.RowKit Go.Shelf Go.Proofs.YtbopliahafkecaaGreatDoor.Mem Go.Proofs.YtbopliahafkecaaGreatDoor.Laws Go.Proofs.YtbopliahafkecaaGreatDoor.Bytes Go.Proofs.YtbopliahafkecaaGreatDoor.Sha Go.Proofs.YtbopliahafkecaaGreatDoor.Ver Go.Proofs.YtbopliahafkecaaGreatDoor.Mod Go.Proofs.YtbopliahafkecaaGreatDoor.Ent Go.Proofs.YtbopliahafkecaaGreatDoor.He Go.Proofs.YtbopliahafkecaaGreatDoor.Lk
set_option linter.unusedVariables false
set_option linter.unusedSimpArgs false
attribute [local go_sem] Oper.semAt_some

theorem ops_wide {P : Program} {ops : Array Oper} {Q : Exit → Act → World → Prop} (n : Nat) (hd : ∀ (i : Nat) (o : Oper), ops[i]? = some o → ∀ c, o.op ≠ .defer c) (hl : ¬ LetsOut Q) : ∀ (is : List Nat) (a : Act) (w : World), wpOps P ops Q is a w → wpOpsIn Fence.wide n P ops Q is a w := by
  intro is
  induction is with
  | nil => intro a w h; exact h
  | cons i r ih =>
    intro a w h
    unfold wpOps at h
    unfold wpOpsIn
    cases ho : ops[i]? with
    | none => simp only [ho] at h ⊢; exact ih a w h
    | some o =>
      simp only [ho] at h ⊢
      split
      · rename_i hw
        rw [if_pos hw] at h
        rcases h with h | h
        · exact oper_wide n (hd i o ho) (Oper.wp_mono (fun a w => ih a w) h)
        · exact absurd h.2 hl
      · rename_i hw
        rw [if_neg hw] at h
        exact ⟨fun _ _ => trivial, ih _ _ h⟩
theorem region_wide {P : Program} {ops : Array Oper} {Q : Exit → Act → World → Prop} {S : World → Prop} {id n : Nat} {a : Act} {w : World} (hm : P.follows .mixedOrders = true) (hd : noDefer ops = true) (hl : ¬ LetsOut Q) (hS : S w.drew)
    (h : S w.drew → wpAnyH P .any ops Q S ops.size (Array.replicate ops.size false) a w.drew) : (Code.region id ops true).wpIn Fence.wide n P Q a w :=
  wpIn_region_draw fun t => ops_wide n (noDefer_at hd) hl _ _ _ (by
    simp only [Region.schedule, hm, Bool.true_or, if_true]
    exact wpAny_sound ops.size t _ a _ (wpAny_of_held _ _ _ _ (h hS)))

theorem wplIn_oneW {P : Program} {ops : Array Oper} {rest : List Oper} {op : Oper} {a : Act} {w : World} {n : Nat} {Q : Exit → Act → World → Prop} (hgd : op.guard = none) (ty : TypeId) (x y : Operand) (ho : op.op = .store ty x y)
    (b o : Nat) (v : Value) (hx : a.eval x = .pointer (some ⟨b, o, none⟩)) (hy : a.eval y = v) (cur : List Value) (t : TypeId) (hr : w.heap[b]? = some (.cells cur.toArray t (0, 0)))
    (hn : o + 1 ≤ cur.length) (hi : (P.info? ty).map (·.size) = some 1) (h1 : v.oneCell' = true) (new : List Value) (hnew : putL cur o [v] = new)
    (h : ∀ w', w'.heap[b]? = some (.cells new.toArray t (0, 0)) → w.grownBy w' (some b) → wpListIn Fence.wide n P ops Q rest (a.put op.dst undef) w') : wpListIn Fence.wide n P ops Q (op :: rest) a w :=
  wpListIn_plain hgd fun _ hK => oper_wide n (by rw [ho]; intro c hc; cases hc) (wp_oneG ty x y ho b o v hx hy cur t hr hn hi h1 new hnew (fun w' r g => hK _ _ (h w' r g)))

/-- a text that the iterator hands over -/
abbrev T20 := { t : ByteArray // t.size ≤ 1048576 }
def cut20 (t : T20) : ByteArray := cut10 t.1
/-- what a round keeps: the iterator's block -/
def Kpx (bx : Nat) (A B : World) : Prop := B.heap[bx]? = A.heap[bx]?
def szOf (w : World) (bx : Nat) : Nat := match w.cell? ⟨bx, 0, none⟩ with
  | some (.string R) => R.size
  | _ => 0
theorem szOf_eq {w : World} {bx : Nat} {R : ByteArray} (h : Boxed w bx 9 (.string R)) : szOf w bx = R.size := by
  unfold szOf
  rw [h.cell]

theorem box_set {w : World} {bx : Nat} {t : TypeId} {v : Value} (h : Boxed w bx t v) (u : Value) : ∃ X, Hid ((w.setCell ⟨bx, 0, none⟩ u).drew = X) ∧ w.grownBy X (some bx) ∧ Boxed X bx t u := by
  have g := grownBy_setCell' w bx u
  refine ⟨_, rfl, ⟨g.os, g.tape, g.output, g.size, g.block⟩, ?_⟩
  show (w.setCell ⟨bx, 0, none⟩ u).heap[bx]? = _
  have h2 : w.heap[bx]? = some (.cells #[v] t (0, 0)) := h
  simp [World.setCell, Array.getElem?_modify, h2]

set_option maxRecDepth 1000000 in
set_option maxHeartbeats 4000000 in
theorem feeds_lines (n : Nat) (hn : 1 ≤ n) (w : World) (bx : Nat) (s : ByteArray) (hs : s.size ≤ 1048576) (hb : Boxed w bx 9 (.string s)) :
    Feeds n Tryz.prog 87 #[.pointer (some ⟨bx, 0, none⟩)] (fun t : T20 => #[Value.string t.1]) (Kpx bx) (fun xs => xs.map cut20 = lines s) (s.size + 1) bx w := fun l J W hW hJ hY h0 => by
  have HX : Hid (Boxed W bx 9 (.string s)) := (hW.block bx hb.lt).trans hb
  refine callsIn_of_wp Tryz.func87 rfl trivial ?_ rfl
  simp only [Tryz.ntmps87, List.size_toArray, List.length_cons, List.length_nil, Nat.reduceAdd, Nat.reduceSub, Array.replicate_succ, Array.replicate_zero, List.push_toArray, List.append_toArray, List.nil_append, List.cons_append]
  gi_wp2
  gi_loopw [3] (fun fl wr => ∃ (R : ByteArray) (Q : List T20), Q.length + R.size ≤ s.size ∧ Hid (Q.map cut20 ++ lines R = lines s) ∧ Hid (Boxed wr bx 9 (.string R)) ∧ J Q wr) (fun _ wr => szOf wr bx)
  case atStart => exact ⟨s, [], by simp, rfl, HX.out, h0⟩
  case round =>
    obtain ⟨R, Q, hl1, HI, HB, hj⟩ := hrel
    clear HX
    have c0 := HB.out.cell
    have f0 := HB.out.frozen
    have HB9 := HB
    by_cases hp : 0 < R.size
    · have hp2 : (0 : Int) < (R.size : Int) := by omega
      have q : ∀ V, _ := fun V => ibs_impl V R
      cases hd : fst1 10 R with
      | none =>
        have e1 : at1 10 R = -1 := by unfold at1; rw [hd]
        simp only [e1] at q
        have hxs : R.size ≤ 1048576 := by omega
        have HN : Hid ((Q ++ [(⟨R, hxs⟩ : T20)]).map cut20 ++ lines ⟨#[]⟩ = lines s) := by
          show _ = _
          rw [← HI.out, lines_no hd hp, List.map_append, lines_nil rfl, List.append_nil]
          show _ ++ [cut10 R] = _
          rw [cut10_no hd]
        clear HI e1 hd
        gi_wp2_with fail
        refine ⟨trivial, ?_⟩
        refine (callsIn_wide.2 (q _)).mono ?_
        rintro e w2 ⟨rfl, rfl⟩
        clear q
        gi_wp2_with (refine wplIn_oneW rfl 9 _ _ rfl bx 0 (.string ⟨#[]⟩) rfl rfl [.string R] 9 HB.out (Nat.le_of_ble_eq_true rfl) rfl rfl [.string ⟨#[]⟩] rfl ?_)
        intro W2 r2 g2
        have hj2 : J Q W2 := hJ Q _ _ _ hj g2 (fun r e => by cases e; rfl)
        have HB2 : Hid (Boxed W2 bx 9 (.string ⟨#[]⟩)) := r2
        obtain ⟨fn, tmps, assign, body, hy, hR⟩ := hY Q ⟨R, hxs⟩ W2 hj2 (by omega)
        dsimp only at hy
        clear r2 g2 hj hj2 HB c0
        gi_wp2
        refine hR.mono ?_
        rintro e W3 ⟨rfl, hJ3, hk3⟩
        have HB3 : Hid (Boxed W3 bx 9 (.string ⟨#[]⟩)) := hk3.trans HB2.out
        have hz3 := szOf_eq HB3.out
        clear hk3 HB2 hy hR
        gi_wp2
        go_roundw
        case rel => exact ⟨⟨#[]⟩, Q ++ [⟨R, hxs⟩], (by have z : (⟨#[]⟩ : ByteArray).size = 0 := rfl; rw [z, List.length_append]; simp; omega), HN, HB3, hJ3⟩
        case measure => rw [hz3, szOf_eq HB9.out]; exact hp
      | some i =>
        have hi := fst1_lt hd
        have e1 : at1 10 R = (i : Int) := by unfold at1; rw [hd]
        simp only [e1] at q
        have h0i : (0 : Int) ≤ (i : Int) := by omega
        have z1 : (R.extract 0 (i + 1)).size = i + 1 := by simp; omega
        have z2 : (R.extract (i + 1) R.size).size = R.size - (i + 1) := by simp
        have hxs : (R.extract 0 (i + 1)).size ≤ 1048576 := by omega
        have HN : Hid (Q.map cut20 ++ [cut10 (R.extract 0 (i + 1))] ++ lines (R.extract (i + 1) R.size) = lines s) := by
          show _ = _
          rw [← HI.out, lines_yes hd, cut10_yes hd]
          simp
        have h1i : i + 1 ≤ R.size := by omega
        clear HI e1 hd
        gi_wp2_with fail
        refine ⟨trivial, ?_⟩
        refine (callsIn_wide.2 (q _)).mono ?_
        rintro e w2 ⟨rfl, rfl⟩
        clear q
        gi_wp2_with fail
        gi_region
        obtain ⟨W2, HW2, g2, r2⟩ := box_set HB.out (.string (R.extract (i + 1) R.size))
        have HHW2 := HW2.out
        rw [HHW2]
        have hj2 : J Q W2 := hJ Q _ _ _ hj g2 (fun r e => by cases e; rfl)
        have HB2 : Hid (Boxed W2 bx 9 (.string (R.extract (i + 1) R.size))) := r2
        obtain ⟨x, hx⟩ : ∃ x, R.extract 0 (i + 1) = x := ⟨_, rfl⟩
        obtain ⟨y, hy9⟩ : ∃ x, R.extract (i + 1) R.size = x := ⟨_, rfl⟩
        simp only [hx] at hxs HN z1 ⊢
        simp only [hy9] at HB2 HN z2 ⊢
        have HN2 : Hid ((Q ++ [(⟨x, hxs⟩ : T20)]).map cut20 ++ lines y = lines s) := by show _ = _; rw [List.map_append]; exact HN.out
        obtain ⟨fn, tmps, assign, body, hy, hR⟩ := hY Q ⟨x, hxs⟩ W2 hj2 (by omega)
        dsimp only at hy
        clear r2 g2 hj hj2 HB c0 f0 HW2 HHW2 hx hy9
        gi_wp2
        refine hR.mono ?_
        rintro e W3 ⟨rfl, hJ3, hk3⟩
        have HB3 : Hid (Boxed W3 bx 9 (.string y)) := hk3.trans HB2.out
        have hz3 := szOf_eq HB3.out
        clear hk3 HB2 hy hR
        gi_wp2
        go_roundw
        case rel => exact ⟨y, Q ++ [⟨x, hxs⟩], (by rw [List.length_append]; simp; omega), HN2, HB3, hJ3⟩
        case measure => rw [hz3, szOf_eq HB9.out]; omega
    · have hz : R.size = 0 := by omega
      have HN : Hid (Q.map cut20 = lines s) := by
        show _ = _
        rw [← HI.out, lines_nil hz, List.append_nil]
      have hp2 : ¬ (0 : Int) < (R.size : Int) := by omega
      clear HI
      gi_wp2
      go_end0
      exact ⟨⟨_, rfl⟩, Q, HN.out, hj⟩

end Go.Proofs.YtbopliahafkecaaGreatDoor.Lm

/- Chapter 17, the landed code: linesOf: each line of a text is put behind the one ahead. -/
namespace Go.Proofs.YtbopliahafkecaaGreatDoor.Lm
open Go.RowKit Go.Shelf Go.Proofs.YtbopliahafkecaaGreatDoor.Mem Go.Proofs.YtbopliahafkecaaGreatDoor.Laws Go.Proofs.YtbopliahafkecaaGreatDoor.Bytes Go.Proofs.YtbopliahafkecaaGreatDoor.Sha Go.Proofs.YtbopliahafkecaaGreatDoor.Ver Go.Proofs.YtbopliahafkecaaGreatDoor.Mod Go.Proofs.YtbopliahafkecaaGreatDoor.Ent Go.Proofs.YtbopliahafkecaaGreatDoor.He Go.Proofs.YtbopliahafkecaaGreatDoor.Lk
set_option linter.unusedVariables false
set_option linter.unusedSimpArgs false
attribute [local go_sem] Oper.semAt_some

set_option maxRecDepth 1000000 in
theorem lines_in (n : Nat) (s : ByteArray) (W : World) : CallsIn Fence.wide n Tryz.prog 63 #[.string s] W fun e w' => e = .returned (.func (.func 87) #[] #[.pointer (some ⟨W.heap.size, 0, none⟩)]) ∧ w' = W.alloc (.cells #[.string s] 9) := by
  refine callsIn_wide.2 ?_
  go_enter Tryz.func63, Tryz.ntmps63
  go_wp2
  go_ret
  exact ⟨rfl, rfl⟩

/-- the lines so far, behind the one ahead; the box tells the last -/
def Ahd (W : World) (A lb bx : Nat) (ts : List ByteArray) : Prop :=
  ∃ (D : List (Nat × ByteArray)) (b : Nat) (t : ByteArray) (L : List (Nat × ByteArray)), D ++ [(b, t)] = (A, ⟨#[]⟩) :: L ∧ L.map (·.2) = ts ∧ Lns W (D ++ [(b, t)]) ∧ Boxed W lb 51 (.pointer (some ⟨b, 0, none⟩)) ∧ (∀ x ∈ D ++ [(b, t)], x.1 ≠ bx) ∧ lb ≠ bx
theorem Ahd.turn {W W' : World} {A lb bx : Nat} {ts : List ByteArray} {row : Option Nat} (h : Ahd W A lb bx ts) (g : W.grownBy W' row) (hr : ∀ r, row = some r → r = bx ∨ ∃ o : Obj, W.heap[r]? = some o ∧ o.isCells = false) : Ahd W' A lb bx ts := by
  obtain ⟨D, b, t, L, h1, h2, h3, h4, h5, h6⟩ := h
  have hne : ∀ (x : Nat) (cs : Array Value) (ty : TypeId) (fr : Nat × Nat), x ≠ bx → W.heap[x]? = some (.cells cs ty fr) → row ≠ some x := by
    intro x cs ty fr hx hc e
    rcases hr x e with h9 | ⟨o, ho, hc2⟩
    · exact hx h9
    · rw [hc] at ho
      cases ho
      cases hc2
  refine ⟨D, b, t, L, h1, h2, h3.gro g (fun x hx => ?_), ?_, h5, h6⟩
  · obtain ⟨v, hv⟩ := h3.row x hx
    exact hne _ _ _ _ (h5 x hx) hv
  · exact (g.block lb h4.lt (fun e => hne lb _ _ _ h6 h4 e.symm)).trans h4
theorem kpx_t {bx : Nat} {A B C : World} (h : Kpx bx A B) (k : Kpx bx B C) : Kpx bx A C := Eq.trans k h

theorem lo_of {W : World} {A b : Nat} {t u : ByteArray} {D L : List (Nat × ByteArray)} (e : D ++ [(b, t)] = (A, u) :: L) (h : Lns W (D ++ [(b, t)])) : A ≤ b := by
  have hm : (b, t) ∈ (A, u) :: L := by rw [← e]; simp
  rw [e] at h
  rcases List.mem_cons.1 hm with h8 | h8
  · have := congrArg Prod.fst h8
    simp only at this
    omega
  · have h7 := h.2.1 _ h8
    simp only at h7
    omega
theorem ne_snoc {bx g : Nat} {y : ByteArray} {M : List (Nat × ByteArray)} (h : ∀ z ∈ M, z.1 ≠ bx) (hg : g ≠ bx) : ∀ z ∈ M ++ [(g, y)], z.1 ≠ bx := by
  intro z hz
  rcases List.mem_append.1 hz with h9 | h9
  · exact h z h9
  · simp only [List.mem_singleton] at h9
    subst h9
    exact hg

/-- what linesOf keeps from round to round -/
def If (w : World) (N bx : Nat) (pre : List T20) (W : World) : Prop := Ahd W w.heap.size (w.heap.size + 1) bx (pre.map cut20) ∧ Below w.heap.size w W ∧ N ≤ W.heap.size

set_option maxRecDepth 1000000 in
set_option maxHeartbeats 4000000 in
theorem linesof_in (w : World) (s : ByteArray) (hs : s.size ≤ 1048576) :
    CallsIn Fence.wide 6 Tryz.prog 35 #[.string s] w fun e w' => ∃ L, e = .returned (nx L) ∧ L.map (·.2) = lines s ∧ Lns w' L ∧ Below w.heap.size w w' := by
  have h1 : 1 ≤ 6 := by omega
  obtain ⟨W1, HW1, b1, y1, hS1, rA, rL⟩ := Ke.l2 w #[.string ⟨#[]⟩, .pointer none] 55 #[.pointer none] 51
  refine callsIn_of_wp_marks Tryz.func35 rfl trivial ?_ rfl
  simp only [Tryz.ntmps35, List.size_toArray, List.length_cons, List.length_nil, Nat.reduceAdd, Nat.reduceSub, Array.replicate_succ, Array.replicate_zero, List.push_toArray, List.append_toArray, List.nil_append, List.cons_append]
  gi_wp2_with (rw [HW1.out]; refine wplIn_oneW rfl 51 _ _ rfl (w.heap.size + 1) 0 (.pointer (some ⟨w.heap.size, 0, none⟩)) rfl rfl [.pointer none] 51 rL.out (Nat.le_of_ble_eq_true rfl) rfl rfl [.pointer (some ⟨w.heap.size, 0, none⟩)] rfl ?_)
  intro W2 r2 g2
  have z2 := g2.size
  have B2 : Hid (Below w.heap.size w W2) := belowGro b1 g2 b1.size (fun k e => by injection e with e; omega)
  have rA2 : Hid (W2.heap[w.heap.size]? = some (.cells #[.string ⟨#[]⟩, .pointer none] 55 (0, 0))) := Ke.s rA g2
  have rL2 : Hid (Boxed W2 (w.heap.size + 1) 51 (.pointer (some ⟨w.heap.size, 0, none⟩))) := r2
  clear r2 g2 rA rL HW1 b1 hS1
  gi_wp2_with fail
  refine ⟨trivial, ?_⟩
  refine (lines_in _ s W2).mono ?_
  rintro e W3 ⟨rfl, hw3⟩
  have b3 : Below W2.heap.size W2 W3 := by rw [hw3]; exact (Below.refl _ _).alloc (Nat.le_refl _) _
  have z3 : W2.heap.size < W3.heap.size := by rw [hw3]; simp
  have B3 : Hid (Below w.heap.size w W3) := B2.out.trans (b3.mono B2.out.size)
  have rX3 : Hid (Boxed W3 W2.heap.size 9 (.string s)) := by rw [hw3]; exact heap_alloc_new W2 _
  have rA3 := Ke.r rA2 b3
  have rL3 : Hid (Boxed W3 (w.heap.size + 1) 51 (.pointer (some ⟨w.heap.size, 0, none⟩))) := rowKeep rL2.out b3
  have HI0 : Hid (If w W3.heap.size W2.heap.size [] W3) := ⟨⟨[], w.heap.size, ⟨#[]⟩, [], rfl, rfl, ⟨rA3.out, (by intro y hy; cases hy), trivial⟩, rL3.out, by intro x hx; simp at hx; subst hx; show w.heap.size ≠ _; omega, by omega⟩, B3.out, Nat.le_refl _⟩
  have hst := feeds_lines 5 (by omega) W3 W2.heap.size s hs rX3.out
  clear hw3 b3 rA2 rL2 rA3 rL3 rX3 B2
  gi_wp2_with fail
  refine range_feeds h1 (gf := 87) (lb := #[.pointer (some ⟨W2.heap.size, 0, none⟩)]) rfl (enters_of Tryz.func87 (by kernel_rfl) rfl) hst (Below.refl _ _) z3 (fun _ => rfl) kpx_t ?kb (If w W3.heap.size W2.heap.size) ?stays HI0.out
    (fun x => { tmps := #[.string s, undef, .pointer none, .pointer (some ⟨w.heap.size, 0, none⟩), .pointer (some ⟨w.heap.size + 1, 0, none⟩), .string x.1, .string s, .func (.func 87) #[] #[.pointer (some ⟨W2.heap.size, 0, none⟩)], .string x.1, undef, undef, undef, undef, undef, undef], defers := [] }) ?assign ?body ?done
  case kb =>
    intro W l o hl
    show (W.putObj l o).heap[W2.heap.size]? = W.heap[W2.heap.size]?
    exact World.putObj_heap_other (by omega)
  case stays =>
    rintro pre X Y row ⟨ha, hb, hn⟩ g hr
    exact ⟨ha.turn g (fun r e => (hr r e).imp id (fun h => h.2)), belowGro hb g hb.size (fun k e => by have h9 := B3.out.size; rcases hr k e with h | h <;> omega), Nat.le_trans hn g.size⟩
  case assign =>
    intro l x W K hK
    gi_wp2
    exact hK
  case body =>
    rintro lr pre ⟨x, hx⟩ W hlr ⟨⟨D, b, t, L, e1, e2, hL, hbx, hne, hlb⟩, hB, hN⟩ hlen
    dsimp only
    have hBs := hB.size
    have HL : Hid (Lns W (D ++ [(b, t)])) := hL
    have HX : Hid (Boxed W (w.heap.size + 1) 51 (.pointer (some ⟨b, 0, none⟩))) := hbx
    have HB : Hid (Below w.heap.size w W) := hB
    have HE : Hid (D ++ [(b, t)] = (w.heap.size, ⟨#[]⟩) :: L) := e1
    have HM : Hid (L.map (·.2) = pre.map cut20) := e2
    have HN : Hid (∀ y ∈ D ++ [(b, t)], y.1 ≠ W2.heap.size) := hne
    have hbw : b < W.heap.size := hL.lt (b, t) (by simp)
    have hb9 : b ≠ W2.heap.size := hne (b, t) (by simp)
    have q1 : ∀ V, _ := fun V => trim_impl V x (by omega)
    obtain ⟨y, hy⟩ : ∃ y, cut10 x = y := ⟨_, rfl⟩
    have HY : Hid (cut10 x = y) := hy
    rw [hy] at q1
    clear hL hbx hB e1 e2 hne hy
    gi_wp2_with fail
    refine region_round (S := fun _ => True) (by kernel_rfl) (by kernel_rfl) (by rintro ⟨_, _, h9⟩; exact h9) trivial (fun hHeld => ?_)
    obtain ⟨W4, HW4, b4, k4⟩ : ∃ X, Hid (W.drew = X) ∧ Below W.heap.size W X ∧ Hid (KeepsOthers W X) := ⟨_, rfl, Below.drew (Below.refl _ _), KeepsOthers.drew W⟩
    have HHW4 := HW4.out
    rw [HHW4]
    clear HHW4 HW4
    have z4 := b4.size
    have L4 : Hid (Lns W4 (D ++ [(b, t)])) := HL.out.later b4
    have X4 : Hid (W4.heap[w.heap.size + 1]? = some (.cells #[.pointer (some ⟨b, 0, none⟩)] 51 (0, 0))) := rowKeep HX.out b4
    have B4 := Ke.b HB b4
    have c4 := Ke.c X4
    have ne4 : w.heap.size + 1 ≠ b := L4.out.ne X4.out (by decide) (b, t) (by simp)
    have P4 : Hid (W4.heap[W2.heap.size]? = W.heap[W2.heap.size]?) := b4.block _ (by omega)
    obtain ⟨v4, rb4⟩ := L4.out.row (b, t) (by simp)
    have q2 := add_impl W4 b t y v4 rb4
    clear HL HX HB b4
    refine Ke.y 1 rfl (fun _ _ _ h => h) ?_
    try simp only [Act.put, pu1, pu2, pu3, pu4, pu5, pu6]
    refine wpAnyH_ready (rs := [0, 2]) (by kernel_rfl) (by simp) ?_
    refine AllReadyH.cons rfl (fun K hK => ?_) (AllReadyH.cons rfl (fun K hK => ?_) AllReadyH.nil)
    · skip
      go_simp
      refine hK.out _ _ trivial (fun hHeld => ?_)
      clear hK K
      try simp only [Act.put, pu1, pu2, pu3, pu4, pu5, pu6]
      refine Ke.z 2 rfl (fun K hK => ?_)
      go_simp
      refine (q1 _).mono ?_
      rintro e w5 ⟨rfl, rfl⟩
      refine hK.out _ _ trivial (fun hHeld => ?_)
      clear hK K
      try simp only [Act.put, pu1, pu2, pu3, pu4, pu5, pu6]
      refine Ke.z 3 rfl (fun K hK => ?_)
      go_simp
      refine q2.mono ?_
      rintro e W5 ⟨g, rfl, hg, rb5, rg5, g5⟩
      refine hK.out _ _ trivial (fun hHeld => ?_)
      clear hK K
      try simp only [Act.put, pu1, pu2, pu3, pu4, pu5, pu6]
      have z5 := g5.size
      have L5 : Hid (Lns W5 (D ++ [(b, t)] ++ [(g, y)])) := Lns.snoc L4.out rb5 rg5 hg g5
      have X5 : Hid (W5.heap[w.heap.size + 1]? = some (.cells #[.pointer (some ⟨b, 0, none⟩)] 51 (0, 0))) := Ke.s X4 g5 (fun h9 => ne4 h9.symm)
      have hA9 : w.heap.size ≤ b := lo_of HE.out L4.out
      have B5 : Hid (Below w.heap.size w W5) := belowGro B4.out g5 B4.out.size (fun k e => by injection e with e; omega)
      have P5 : Hid (W5.heap[W2.heap.size]? = W.heap[W2.heap.size]?) := (g5.block _ (by omega) (fun e => by injection e with e; omega)).trans P4.out
      have k5 : Hid (KeepsOthers W W5) := k4.out.trans (KeepsOthers.of_grownBy g5 (fun j o ej hj => by cases ej; rw [rb4] at hj; cases hj; rfl))
      clear q1 q2 L4 X4 B4 P4 k4 rb4 rb5 rg5 g5 c4
      refine Ke.z 4 rfl (fun K hK => ?_)
      rw [if_pos (by rfl)]
      refine wp_oneG 51 _ _ rfl (w.heap.size + 1) 0 (.pointer (some ⟨g, 0, none⟩)) rfl rfl [.pointer (some ⟨b, 0, none⟩)] 51 X5.out (Nat.le_of_ble_eq_true rfl) (by kernel_rfl) rfl [.pointer (some ⟨g, 0, none⟩)] rfl ?_
      intro W6 r6 g6
      refine hK.out _ _ trivial (fun hHeld => ?_)
      clear hK K
      try simp only [Act.put, pu1, pu2, pu3, pu4, pu5, pu6]
      have z6 := g6.size
      have L6 : Hid (Lns W6 (D ++ [(b, t)] ++ [(g, y)])) := L5.out.gro g6 (fun z hz e => by injection e with e; exact L5.out.ne X5.out (by decide) z hz e)
      have B6 : Hid (Below w.heap.size w W6) := belowGro B5.out g6 B5.out.size (fun k e => by injection e with e; omega)
      have P6 : Hid (Kpx W2.heap.size W W6) := (g6.block _ (by omega) (fun e => by injection e with e; omega)).trans P5.out
      have k6 : Hid (KeepsOthers W W6) := k5.out.trans (KeepsOthers.of_grownBy g6 (fun j o ej hj => by cases ej; rw [X5.out] at hj; cases hj; rfl))
      have R6 : Hid (Boxed W6 (w.heap.size + 1) 51 (.pointer (some ⟨g, 0, none⟩))) := r6
      have HI : Hid (If w W3.heap.size W2.heap.size (pre ++ [⟨x, hx⟩]) W6) := ⟨⟨D ++ [(b, t)], g, y, L ++ [(g, y)], by rw [HE.out]; rfl, by rw [List.map_append, List.map_append, HM.out, ← HY.out]; rfl, L6.out, R6.out, ne_snoc HN.out (by omega), hlb⟩, B6.out, by omega⟩
      clear r6 g6 L5 X5 B5 P5 k5 L6 B6 R6
      refine wpAnyH_done (by kernel_rfl) ?_ _
      clear hHeld
      gi_wp2
      exact ⟨k6.out.from _, P6.out, HI.out⟩
    · skip
      go_simp
      refine (q1 _).mono ?_
      rintro e w5 ⟨rfl, rfl⟩
      refine hK.out _ _ trivial (fun hHeld => ?_)
      clear hK K
      try simp only [Act.put, pu1, pu2, pu3, pu4, pu5, pu6]
      refine Ke.z 0 rfl (fun K hK => ?_)
      go_simp
      refine hK.out _ _ trivial (fun hHeld => ?_)
      clear hK K
      try simp only [Act.put, pu1, pu2, pu3, pu4, pu5, pu6]
      refine Ke.z 3 rfl (fun K hK => ?_)
      go_simp
      refine q2.mono ?_
      rintro e W5 ⟨g, rfl, hg, rb5, rg5, g5⟩
      refine hK.out _ _ trivial (fun hHeld => ?_)
      clear hK K
      try simp only [Act.put, pu1, pu2, pu3, pu4, pu5, pu6]
      have z5 := g5.size
      have L5 : Hid (Lns W5 (D ++ [(b, t)] ++ [(g, y)])) := Lns.snoc L4.out rb5 rg5 hg g5
      have X5 : Hid (W5.heap[w.heap.size + 1]? = some (.cells #[.pointer (some ⟨b, 0, none⟩)] 51 (0, 0))) := Ke.s X4 g5 (fun h9 => ne4 h9.symm)
      have hA9 : w.heap.size ≤ b := lo_of HE.out L4.out
      have B5 : Hid (Below w.heap.size w W5) := belowGro B4.out g5 B4.out.size (fun k e => by injection e with e; omega)
      have P5 : Hid (W5.heap[W2.heap.size]? = W.heap[W2.heap.size]?) := (g5.block _ (by omega) (fun e => by injection e with e; omega)).trans P4.out
      have k5 : Hid (KeepsOthers W W5) := k4.out.trans (KeepsOthers.of_grownBy g5 (fun j o ej hj => by cases ej; rw [rb4] at hj; cases hj; rfl))
      clear q1 q2 L4 X4 B4 P4 k4 rb4 rb5 rg5 g5 c4
      refine Ke.z 4 rfl (fun K hK => ?_)
      rw [if_pos (by rfl)]
      refine wp_oneG 51 _ _ rfl (w.heap.size + 1) 0 (.pointer (some ⟨g, 0, none⟩)) rfl rfl [.pointer (some ⟨b, 0, none⟩)] 51 X5.out (Nat.le_of_ble_eq_true rfl) (by kernel_rfl) rfl [.pointer (some ⟨g, 0, none⟩)] rfl ?_
      intro W6 r6 g6
      refine hK.out _ _ trivial (fun hHeld => ?_)
      clear hK K
      try simp only [Act.put, pu1, pu2, pu3, pu4, pu5, pu6]
      have z6 := g6.size
      have L6 : Hid (Lns W6 (D ++ [(b, t)] ++ [(g, y)])) := L5.out.gro g6 (fun z hz e => by injection e with e; exact L5.out.ne X5.out (by decide) z hz e)
      have B6 : Hid (Below w.heap.size w W6) := belowGro B5.out g6 B5.out.size (fun k e => by injection e with e; omega)
      have P6 : Hid (Kpx W2.heap.size W W6) := (g6.block _ (by omega) (fun e => by injection e with e; omega)).trans P5.out
      have k6 : Hid (KeepsOthers W W6) := k5.out.trans (KeepsOthers.of_grownBy g6 (fun j o ej hj => by cases ej; rw [X5.out] at hj; cases hj; rfl))
      have R6 : Hid (Boxed W6 (w.heap.size + 1) 51 (.pointer (some ⟨g, 0, none⟩))) := r6
      have HI : Hid (If w W3.heap.size W2.heap.size (pre ++ [⟨x, hx⟩]) W6) := ⟨⟨D ++ [(b, t)], g, y, L ++ [(g, y)], by rw [HE.out]; rfl, by rw [List.map_append, List.map_append, HM.out, ← HY.out]; rfl, L6.out, R6.out, ne_snoc HN.out (by omega), hlb⟩, B6.out, by omega⟩
      clear r6 g6 L5 X5 B5 P5 k5 L6 B6 R6
      refine wpAnyH_done (by kernel_rfl) ?_ _
      clear hHeld
      gi_wp2
      exact ⟨k6.out.from _, P6.out, HI.out⟩
  case done =>
    rintro D xs W hD hS ⟨⟨M, b, t, L, e1, e2, hL, hbx, hne, hlb⟩, hB, hN⟩ hK
    have hm : L.map (·.2) = lines s := e2.trans hS
    rw [e1] at hL
    have HL : Hid (Lns W L) := hL.2.2
    have ra : Hid (W.heap[w.heap.size]? = some (.cells #[.string ⟨#[]⟩, nx L] 55 (0, 0))) := hL.1
    have ca := Ke.c ra
    have HLL := hL.2.2
    obtain ⟨v, hv⟩ : ∃ v, nx L = v := ⟨_, rfl⟩
    have HV : Hid (nx L = v) := hv
    rw [hv] at ca
    have HB : Hid (Below w.heap.size w W) := hB
    have hMM : Hid (L.map (·.2) = lines s) := hm
    clear hv hL HLL ra e1 e2 hbx hne hlb hB hm
    gi_wp2
    refine ⟨by simp, .inl ⟨_, _, rfl, run_takeDeferred hK, ?_⟩⟩
    have gr := grownBy_putObj' W D (.deferred none)
    have HL2 : Lns (W.putObj D (.deferred none)) L := HL.out.gro gr (fun x hx e => by
      obtain ⟨u, hu⟩ := HL.out.row x hx
      injection e with e
      rw [← e, hK] at hu
      cases hu)
    have B6 : Below w.heap.size w (W.putObj D (.deferred none)) := belowGro HB.out gr HB.out.size (fun k e => by injection e with e; have h9 := B3.out.size; omega)
    exact ⟨_, results_tmp rfl _ _ _, L, by rw [HV.out]; rfl, hMM.out, HL2, B6⟩

end Go.Proofs.YtbopliahafkecaaGreatDoor.Lm

/- Chapter 5, the landed code: names. -/
namespace Go.Proofs.YtbopliahafkecaaGreatDoor.Ent
open Go.RowKit Go.Proofs.YtbopliahafkecaaGreatDoor.Mem Go.Proofs.YtbopliahafkecaaGreatDoor.Laws Go.Proofs.YtbopliahafkecaaGreatDoor.Bytes Go.Proofs.YtbopliahafkecaaGreatDoor.Sha Go.Proofs.YtbopliahafkecaaGreatDoor.Ver Go.Proofs.YtbopliahafkecaaGreatDoor.Mod
set_option linter.unusedVariables false
set_option linter.unusedSimpArgs false

set_option maxRecDepth 1000000 in
set_option maxHeartbeats 1000000 in
theorem name_impl (w : World) (hG : Glob w) (n : Nd) (hp : n.path.size ≤ 1000000000) (hq : n.pre.size ≤ 1000000000) :
    Calls Tryz.prog 28 #[.string n.path, .agg #[.int .i64 n.a, .int .i64 n.b, .int .i64 n.c, .string n.pre]] w fun e w' => e = .returned (.string (name5 n)) ∧ Below w.heap.size w w' := by
  have HD : Hid (name5 n = if n.ok = true then n.path ++ ⟨#[64]⟩ ++ Plain.txt (verText n.a n.b n.c n.pre) else ⟨#[]⟩) := rfl
  have q1 := fits_impl (w.alloc (.cells #[.int .i64 n.a, .int .i64 n.b, .int .i64 n.c, .string n.pre] 45)) n.path n.a n.b n.c n.pre (by omega) (by omega)
  have q2 : ∀ W, Below w.heap.size w W → _ := fun W hW => vtext_impl W n.a n.b n.c n.pre (by omega) (Glob.later hG hW)
  unfold Ver.ver at q1 q2
  have HR : Hid (Vr (w.alloc (.cells #[.int .i64 n.a, .int .i64 n.b, .int .i64 n.c, .string n.pre] 45)) w.heap.size n.a n.b n.c n.pre) := heap_alloc_new w _
  have HB : Hid (Below w.heap.size w (w.alloc (.cells #[.int .i64 n.a, .int .i64 n.b, .int .i64 n.c, .string n.pre] 45))) := (Below.refl _ _).alloc (Nat.le_refl _) _
  obtain ⟨ok, hok⟩ : ∃ ok, n.ok = ok := ⟨_, rfl⟩
  have hok' : fits4 n.path n.a n.b n.c n.pre = ok := hok
  rw [hok'] at q1
  rw [hok] at HD
  obtain ⟨t, ht⟩ : ∃ t, Plain.txt (verText n.a n.b n.c n.pre) = t := ⟨_, rfl⟩
  simp only [ht] at q2
  rw [ht] at HD
  have htz : t.size ≤ 2000000000 := by
    rw [← ht, txt_sizev]
    unfold verText vt
    split
    · have h6 : ∀ m, (digF 6 m).length ≤ 7 := fun m => (digF_len 6 m).2
      have := h6 n.a.toNat
      have := h6 n.b.toNat
      have := h6 n.c.toNat
      split <;> simp [sb_len] <;> omega
    · simp
  clear hok hok' ht
  go_enter Tryz.func28, Tryz.ntmps28
  go_wp2_with fail
  refine q1.mono ?_
  rintro e w1 ⟨rfl, b1⟩
  have hR := Vr.same HR.out b1
  have hB : Below w.heap.size w w1 := HB.out.trans (b1.mono HB.out.size)
  clear q1 HR HB b1
  cases ok
  · have HN : Hid (name5 n = ⟨#[]⟩) := HD.out
    go_wp2
    go_ret
    exact ⟨by rw [HN.out]; rfl, hB⟩
  · have HN : Hid (name5 n = n.path ++ ⟨#[64]⟩ ++ t) := HD.out
    obtain ⟨k0, k1, k2, k3⟩ := Vr.cells hR
    clear hR HD
    go_wp2_with fail
    refine (q2 _ hB).mono ?_
    rintro e w2 ⟨rfl, b2⟩
    have hB2 : Below w.heap.size w w2 := hB.trans (b2.mono hB.size)
    go_wp2
    go_ret
    exact ⟨by rw [HN.out]; rfl, hB2⟩

end Go.Proofs.YtbopliahafkecaaGreatDoor.Ent

/- Chapter 17, the landed code: LockText. -/
namespace Go.Proofs.YtbopliahafkecaaGreatDoor.Lm
open Go.RowKit Go.Proofs.YtbopliahafkecaaGreatDoor.Mem Go.Proofs.YtbopliahafkecaaGreatDoor.Laws Go.Proofs.YtbopliahafkecaaGreatDoor.Bytes Go.Proofs.YtbopliahafkecaaGreatDoor.Sha Go.Proofs.YtbopliahafkecaaGreatDoor.Ver Go.Proofs.YtbopliahafkecaaGreatDoor.Mod Go.Proofs.YtbopliahafkecaaGreatDoor.Ent Go.Proofs.YtbopliahafkecaaGreatDoor.He Go.Proofs.YtbopliahafkecaaGreatDoor.Lk
set_option linter.unusedVariables false
set_option linter.unusedSimpArgs false

theorem wh_app (A B : List (Nat × ByteArray)) : wh (A ++ B) = wh A ++ wh B := by unfold wh; rw [List.map_append, List.flatten_append]
theorem wh_names : ∀ (l : List Nd) (M : List (Nat × ByteArray)), M.map (·.2) = l.map name5 → wh M = rest l := by
  intro l
  induction l with
  | nil => intro M h; rw [List.map_nil, List.map_eq_nil_iff] at h; subst h; rfl
  | cons n r ih =>
    intro M h
    cases M with
    | nil => cases h
    | cons x t =>
      rw [List.map_cons, List.map_cons] at h
      obtain ⟨h1, h2⟩ := List.cons.inj h
      rw [wh_cons, h1, ih t h2]
      rfl
theorem wh_lock {h : Hd} {l : List Nd} (hk : okH h = true) {M : List (Nat × ByteArray)} (hM : M.map (·.2) = Plain.txt (line0 h) :: l.map name5) : wh M = line0 h ++ [10] ++ rest l := by
  cases M with
  | nil => cases hM
  | cons x t =>
    rw [List.map_cons] at hM
    obtain ⟨h1, h2⟩ := List.cons.inj hM
    rw [wh_cons, h1, wh_names l t h2, sb_txtv (line0_byt hk)]
theorem nx_first {F : Nat} {u : ByteArray} {D L : List (Nat × ByteArray)} {b : Nat} {t : ByteArray} (e : D ++ [(b, t)] = (F, u) :: L) : nx (D ++ [(b, t)]) = .pointer (some ⟨F, 0, none⟩) := by rw [e]; rfl

/-- the lines so far: from the block F on; the last one's is b -/
def Chain (W : World) (F b : Nat) (ts : List ByteArray) : Prop :=
  ∃ (D : List (Nat × ByteArray)) (t u : ByteArray) (L : List (Nat × ByteArray)), D ++ [(b, t)] = (F, u) :: L ∧ (D ++ [(b, t)]).map (·.2) = ts ∧ Lns W (D ++ [(b, t)])
theorem Chain.later {W W' : World} {F b : Nat} {ts : List ByteArray} (h : Chain W F b ts) (k : Below W.heap.size W W') : Chain W' F b ts := by
  obtain ⟨D, t, u, L, h1, h2, h3⟩ := h
  exact ⟨D, t, u, L, h1, h2, h3.later k⟩
theorem Chain.row {W : World} {F b : Nat} {ts : List ByteArray} (h : Chain W F b ts) : ∃ t v, W.heap[b]? = some (.cells #[.string t, v] 55 (0, 0)) ∧ F ≤ b := by
  obtain ⟨D, t, u, L, h1, h2, h3⟩ := h
  obtain ⟨v, hv⟩ := h3.row (b, t) (by simp)
  refine ⟨t, v, hv, ?_⟩
  have hm : (b, t) ∈ (F, u) :: L := by rw [← h1]; simp
  rw [h1] at h3
  rcases List.mem_cons.1 hm with h8 | h8
  · have := congrArg Prod.fst h8
    simp only at this
    omega
  · have h7 := h3.2.1 _ h8
    simp only at h7
    omega
theorem Chain.add {W W' : World} {F b g : Nat} {ts : List ByteArray} {t s : ByteArray} {v : Value} (h : Chain W F b ts) (hb : W.heap[b]? = some (.cells #[.string t, v] 55 (0, 0))) (rb : W'.heap[b]? = some (.cells #[.string t, .pointer (some ⟨g, 0, none⟩)] 55 (0, 0)))
    (rg : W'.heap[g]? = some (.cells #[.string s, .pointer none] 55 (0, 0))) (hg : W.heap.size ≤ g) (gr : W.grownBy W' (some b)) : Chain W' F g (ts ++ [s]) := by
  obtain ⟨D, t2, u, L, h1, h2, h3⟩ := h
  obtain ⟨v2, hv⟩ := h3.row (b, t2) (by simp)
  have e : t2 = t := by
    simp only at hv
    rw [hv] at hb
    simp at hb
    exact hb.1
  subst e
  exact ⟨D ++ [(b, t2)], s, u, L ++ [(g, s)], by rw [h1]; rfl, by rw [List.map_append, h2]; rfl, Lns.snoc h3 rb rg hg gr⟩

set_option maxRecDepth 1000000 in
set_option maxHeartbeats 8000000 in
theorem lock_impl (w : World) (hG : Glob w) (h : Hd) (v : Value) (l : List Nd) (hs : Sd w v l) (hl : l.length ≤ 1000000000) (hr : h.r.size ≤ 1000000000) (hz : ∀ x ∈ l, x.path.size ≤ 1000000000 ∧ x.pre.size ≤ 1000000000) :
    Calls Tryz.prog 7 #[.agg #[.int .i64 h.n, .string h.r], v] w fun e w' => e = .returned (.string (lock h l)) ∧ Below w.heap.size w w' := by
  have HS : Hid (Sd w v l) := hs
  have HG : Hid (Glob w) := hG
  have HZ : Hid (∀ x ∈ l, x.path.size ≤ 1000000000 ∧ x.pre.size ≤ 1000000000) := hz
  obtain ⟨_, ao, cap, rfl, hcap, _, _⟩ := hs
  obtain ⟨hn, hb⟩ := h
  simp only at hr
  have HK : Hid (lockOk ⟨hn, hb⟩ l = (okH ⟨hn, hb⟩ && decide (l.length ≤ 60) && rise l)) := rfl
  have q0 : ∀ W, _ := fun W => ok_impl W ⟨hn, hb⟩ (by show hb.size ≤ _; omega)
  simp only at q0
  obtain ⟨K0, hK0⟩ : ∃ K, okH ⟨hn, hb⟩ = K := ⟨_, rfl⟩
  simp only [hK0] at q0
  have HK0 : Hid (okH ⟨hn, hb⟩ = K0) := hK0
  clear hK0 hz hG
  obtain ⟨W1, HW1, b1, y1, hS1, r_h1⟩ := Ke.l1 w #[.int .i64 hn, .string hb] 25
  have z1 := b1.size
  have B1 : Hid (Below w.heap.size w W1) := b1
  have c_h1 := Ke.c r_h1
  go_enter Tryz.func7, Tryz.ntmps7
  go_wp2_with fail
  rw [HW1.out]
  refine (q0 W1).mono ?_
  rintro e W2 ⟨rfl, b2⟩
  have z2 := b2.size
  have B2 := Ke.b B1 b2
  have r_h2 := Ke.r r_h1 b2
  have c_h2 := Ke.c r_h2
  clear r_h1 c_h1 q0
  cases K0
  · have HN : Hid (lockOk ⟨hn, hb⟩ l = false) := by show _ = _; rw [HK.out, HK0.out]; rfl
    go_wp2
    go_ret
    exact ⟨by rw [lock_no HN.out]; rfl, B2.out⟩
  obtain ⟨⟨hn0, hn1⟩, hb32⟩ := of_decide_eq_true HK0.out
  simp only at hn0 hn1 hb32
  obtain ⟨m, rfl⟩ : ∃ m : Nat, hn = (m : Int) := ⟨hn.toNat, by omega⟩
  have q1 := upto_impl W2 (.slice ao l.length cap) l 60 (HS.out.later B2.out) (by omega) (fun x hx => by have := HZ.out x hx; omega)
  obtain ⟨K1, hK1⟩ : ∃ K, (decide ((l.length : Int) ≤ 60) && rise l) = K := ⟨_, rfl⟩
  rw [hK1] at q1
  have HK1 : Hid (lockOk ⟨(m : Int), hb⟩ l = K1) := by
    show _ = _
    rw [HK.out, HK0.out, ← hK1]
    have : decide (l.length ≤ 60) = decide ((l.length : Int) ≤ 60) := by
      by_cases h9 : l.length ≤ 60
      · rw [decide_eq_true h9, decide_eq_true (by omega)]
      · rw [decide_eq_false h9, decide_eq_false (by omega)]
    rw [this]
    simp
  clear hK1
  go_wp2_with fail
  refine q1.mono ?_
  rintro e W3 ⟨rfl, b3⟩
  have z3 := b3.size
  have B3 := Ke.b B2 b3
  have r_h3 := Ke.r r_h2 b3
  have c_h3 := Ke.c r_h3
  clear r_h2 c_h2 q1
  cases K1
  · go_wp2
    go_ret
    exact ⟨by rw [lock_no HK1.out]; rfl, B3.out⟩
  have HH : Hid (lockOk ⟨(m : Int), hb⟩ l = true) := HK1
  have h60 : l.length ≤ 60 := (lockOk_parts HH.out).2.1
  have q2 : ∀ W, Below w.heap.size w W → _ := fun W hW => itoa_impl W m (by omega) (Glob.later HG.out hW)
  have q3 : ∀ W, _ := fun W => hex_impl W hb (by omega)
  obtain ⟨tA, hA⟩ : ∃ t, Plain.txt (digF 6 m) = t := ⟨_, rfl⟩
  obtain ⟨tB, hB⟩ : ∃ t, Plain.txt (hexs (sb hb)) = t := ⟨_, rfl⟩
  have sA : tA.size ≤ 7 := by rw [← hA, txt_sizev]; exact (digF_len 6 m).2
  have sB : tB.size ≤ 100 := by rw [← hB, txt_sizev, hexs_len, sb_len]; omega
  simp only [hA] at q2
  simp only [hB] at q3
  have HAB : Hid (Plain.txt (digF 6 m) = tA ∧ Plain.txt (hexs (sb hb)) = tB) := ⟨hA, hB⟩
  clear hA hB
  obtain ⟨x1, hx1⟩ : ∃ x, (⟨#[105, 110, 100, 101, 120, 32]⟩ : ByteArray) ++ tA = x := ⟨_, rfl⟩
  obtain ⟨x2, hx2⟩ : ∃ x, x1 ++ (⟨#[32]⟩ : ByteArray) = x := ⟨_, rfl⟩
  obtain ⟨x3, hx3⟩ : ∃ x, x2 ++ tB = x := ⟨_, rfl⟩
  have n1 : x1.size ≤ 13 := by rw [← hx1, ByteArray.size_append]; show 6 + tA.size ≤ 13; omega
  have n2 : x2.size ≤ 14 := by rw [← hx2, ByteArray.size_append]; show x1.size + 1 ≤ 14; omega
  have n3 : x3.size ≤ 114 := by rw [← hx3, ByteArray.size_append]; omega
  have HX : Hid (x3 = Plain.txt (line0 ⟨(m : Int), hb⟩)) := by
    show _ = _
    rw [← hx3, ← hx2, ← hx1, ← HAB.out.1, ← HAB.out.2]
    unfold line0 word0
    simp only [txt_app, Int.toNat_natCast, ByteArray.append_assoc]
    rfl
  have r1 : ¬ 9223372036854775807 < 6 + tA.size := by omega
  have r2 : ¬ 9223372036854775807 < x1.size + 1 := by omega
  have r3 : ¬ 9223372036854775807 < x2.size + tB.size := by omega
  have r5 : ¬ 9223372036854775806 < x1.size := by omega
  go_wp2_with fail
  refine wp_region_held_drew (S := fun w' => w'.cell? ⟨w.heap.size, 0, none⟩ = some (.int .i64 (m : Int)) ∧ w'.cell? ⟨w.heap.size, 1, none⟩ = some (.string hb)) (by kernel_rfl) ⟨(c_h3 0), (c_h3 1)⟩ (fun hHeld => ?_)
  obtain ⟨W4, HW4, b4⟩ : ∃ X, Hid (W3.drew = X) ∧ Below W3.heap.size W3 X := ⟨_, rfl, Below.drew (Below.refl _ _)⟩
  have HHW4 := HW4.out
  rw [HHW4] at hHeld ⊢
  clear HHW4
  have z4 := b4.size
  have B4 := Ke.b B3 b4
  clear r_h3 c_h3
  refine Ke.y 0 rfl (fun _ _ _ h => h) ?_
  try simp only [Act.put, pu1, pu2, pu3, pu4, pu5, pu6]
  refine Ke.y 1 rfl (fun _ _ _ h => h) ?_
  try simp only [Act.put, pu1, pu2, pu3, pu4, pu5, pu6]
  refine Ke.y 5 rfl (fun _ _ _ h => h) ?_
  try simp only [Act.put, pu1, pu2, pu3, pu4, pu5, pu6]
  refine Ke.y 6 rfl (fun _ _ _ h => h) ?_
  try simp only [Act.put, pu1, pu2, pu3, pu4, pu5, pu6]
  refine Ke.z 2 rfl (fun K hK => ?_)
  go_simp
  refine (q2 W4 B4.out).mono ?_
  rintro e W5 ⟨rfl, b5⟩
  refine hK.out _ _ ⟨(keepR (W := W4) hHeld.1 b5), (keepR (W := W4) hHeld.2 b5)⟩ (fun hHeld => ?_)
  clear hK K
  try simp only [Act.put, pu1, pu2, pu3, pu4, pu5, pu6]
  have z5 := b5.size
  have B5 := Ke.b B4 b5
  refine Ke.y 3 rfl (fun _ _ _ h => h) ?_
  try simp only [Act.put, pu1, pu2, pu3, pu4, pu5, pu6]
  refine Ke.y 4 rfl (fun _ _ _ h => h) ?_
  try simp only [Act.put, pu1, pu2, pu3, pu4, pu5, pu6]
  refine Ke.z 7 rfl (fun K hK => ?_)
  go_simp
  refine (q3 W5).mono ?_
  rintro e W6 ⟨rfl, b6⟩
  refine hK.out _ _ ⟨(keepR (W := W5) hHeld.1 b6), (keepR (W := W5) hHeld.2 b6)⟩ (fun hHeld => ?_)
  clear hK K
  try simp only [Act.put, pu1, pu2, pu3, pu4, pu5, pu6]
  have z6 := b6.size
  have B6 := Ke.b B5 b6
  refine Ke.y 8 rfl (fun _ _ _ h => h) ?_
  try simp only [Act.put, pu1, pu2, pu3, pu4, pu5, pu6]
  refine Ke.y 9 rfl (fun _ _ _ h => h) ?_
  try simp only [Act.put, pu1, pu2, pu3, pu4, pu5, pu6]
  refine Ke.z 10 rfl (fun K hK => ?_)
  go_simp
  obtain ⟨W7, HW7, b7, y7, hS7, r7⟩ := Ke.l1 W6 #[.string x3, .pointer none] 55
  have z7 := b7.size
  refine hK.out _ _ ⟨(keepR (W := W6) hHeld.1 ((Below.refl _ _).alloc (Nat.le_refl _) _)), (keepR (W := W6) hHeld.2 ((Below.refl _ _).alloc (Nat.le_refl _) _))⟩ (fun hHeld => ?_)
  clear hK K
  try simp only [Act.put, pu1, pu2, pu3, pu4, pu5, pu6]
  have HHW7 := HW7.out
  rw [HHW7] at hHeld ⊢
  clear HHW7
  refine Ke.y 11 rfl (fun _ _ _ h => h) ?_
  try simp only [Act.put, pu1, pu2, pu3, pu4, pu5, pu6]
  refine wpAnyH_done (by kernel_rfl) ?_ _
  clear hHeld
  have B7 := Ke.b B6 b7
  have zz := B6.out.size
  have HC7 : Hid (Chain W7 W6.heap.size W6.heap.size (x3 :: (l.take 0).map name5)) := ⟨[], x3, x3, [], rfl, rfl, ⟨r7.out, (by intro y hy; cases hy), trivial⟩⟩
  clear q2 q3 r1 r2 r3 r5 hx1 hx2 hx3 n1 n2 b1 b2 b3 b4 b5 b6 b7 B1 B2 B3 B4 B5 B6 r7 HW1 HW4 HW7 hS1 hS7
  go_wp2
  go_loopw [6, 31] (fun lv iv wr => ∃ (k b : Nat), lv = .pointer (some ⟨b, 0, none⟩) ∧ iv = .int .i64 (k : Int) ∧ k ≤ l.length ∧ Hid (Chain wr W6.heap.size b (x3 :: (l.take k).map name5)) ∧ Hid (Below w.heap.size w wr)) (fun _ iv _ => l.length - (intOf iv).toNat)
  case atStart => exact ⟨0, _, rfl, rfl, Nat.zero_le _, HC7, B7⟩
  case round =>
    obtain ⟨k, b, rfl, rfl, hk, HC, HB⟩ := hrel
    clear HC7 B7
    by_cases hlt : k < l.length
    · obtain ⟨x, hxk⟩ : ∃ n, l[k]? = some n := ⟨l[k], by simp [hlt]⟩
      obtain ⟨b9, off, cap', he, _, c0, c1, c2, c3, c4⟩ := Sd.at (HS.out.later HB.out) hxk
      simp only [Value.slice.injEq] at he
      obtain ⟨rfl, _, rfl⟩ := he
      have hxz := HZ.out x (List.mem_of_getElem? hxk)
      have HT : Hid (l.take (k + 1) = l.take k ++ [x]) := by show _ = _; rw [List.take_add_one, hxk]; rfl
      have hlt2 : (k : Int) < (l.length : Int) := by omega
      clear hxk
      obtain ⟨V1, HV1, a1, ya1, hSa1, ra1⟩ := Ke.l1 wr #[.string x.path, .int .i64 x.a, .int .i64 x.b, .int .i64 x.c, .string x.pre] 47
      have x0 : V1.cell? ⟨wr.heap.size, 0, none⟩ = some (.string x.path) := (by exact row_at ra1.out 0)
      have x1 : V1.cell? ⟨wr.heap.size, 1, none⟩ = some (.int .i64 x.a) := (by exact row_at ra1.out 1)
      have x2 : V1.cell? ⟨wr.heap.size, 2, none⟩ = some (.int .i64 x.b) := (by exact row_at ra1.out 2)
      have x9 : V1.cell? ⟨wr.heap.size, 3, none⟩ = some (.int .i64 x.c) := (by exact row_at ra1.out 3)
      have x4 : V1.cell? ⟨wr.heap.size, 4, none⟩ = some (.string x.pre) := (by exact row_at ra1.out 4)
      rw [← HV1.out] at x0 x1 x2 x9 x4
      have BV1 := Ke.b HB a1
      have CV1 : Hid (Chain V1 W6.heap.size b (x3 :: (l.take k).map name5)) := HC.out.later a1
      have q4 := name_impl V1 (Glob.later HG.out BV1.out) x hxz.1 hxz.2
      clear HC a1 hSa1
      go_wp2_with fail
      rw [HV1.out]
      refine q4.mono ?_
      rintro e V2 ⟨rfl, a2⟩
      have BV2 := Ke.b BV1 a2
      have CV2 : Hid (Chain V2 W6.heap.size b (x3 :: (l.take k).map name5)) := CV1.out.later a2
      clear q4 a2 CV1 BV1 x0 x1 x2 x9 x4 HV1 ra1 c0 c1 c2 c3 c4
      obtain ⟨t, v, rb, hFb⟩ := CV2.out.row
      obtain ⟨y, hy⟩ : ∃ y, name5 x = y := ⟨_, rfl⟩
      have HY : Hid (name5 x = y) := hy
      rw [hy]
      clear hy
      have q5 := add_impl V2 b t y v rb
      have zv2 := BV2.out.size
      go_wp2_with fail
      refine q5.mono ?_
      rintro e V3 ⟨g, rfl, hg, rb3, rg3, g3⟩
      have CV3 : Hid (Chain V3 W6.heap.size g (x3 :: (l.take (k + 1)).map name5)) := by
        have h9 := CV2.out.add rb rb3 rg3 hg g3
        rw [HT.out, List.map_append]
        show Chain _ _ _ (x3 :: ((l.take k).map name5 ++ [name5 x]))
        rw [HY.out]
        exact h9
      have BV3 : Hid (Below w.heap.size w V3) := belowGro BV2.out g3 BV2.out.size (fun k e => by injection e with e; omega)
      clear q5 rb rb3 rg3 g3 CV2 BV2
      go_wp2
      go_roundw
      case rel => exact ⟨k + 1, g, rfl, by go_num, by omega, CV3, BV3⟩
      case measure => simp [intOf]; omega
    · have hkl : k = l.length := by omega
      have hlt2 : ¬ (k : Int) < (l.length : Int) := by omega
      obtain ⟨D, t, u, L, e1, e2, hL⟩ := HC.out
      rw [hkl, List.take_of_length_le (Nat.le_refl _), HX.out] at e2
      have HWH := wh_lock (lockOk_parts HH.out).1 e2
      have hrs := rest_size l HZ.out
      have hsz : (wh (D ++ [(b, t)])).length ≤ 140737488355328 := by
        rw [HWH, List.length_append, List.length_append]
        have h9 : (line0 ⟨(m : Int), hb⟩).length = x3.size := by rw [HX.out, txt_sizev]
        rw [h9]
        simp only [List.length_singleton]
        omega
      have q6 := whole_impl wr (D ++ [(b, t)]) hL hsz
      rw [nx_first e1, HWH] at q6
      have HF : Hid (Plain.txt (line0 ⟨(m : Int), hb⟩ ++ [10] ++ rest l) = lock ⟨(m : Int), hb⟩ l) := by
        show _ = _
        unfold lock
        rw [if_pos HH.out]
      rw [HF.out] at q6
      clear hL e1 e2 HWH hrs hsz hkl
      go_wp2_with fail
      refine q6.mono ?_
      rintro e V2 ⟨rfl, a2⟩
      have BV2 := Ke.b HB a2
      clear q6
      go_wp2
      go_ret
      exact ⟨rfl, BV2.out⟩

end Go.Proofs.YtbopliahafkecaaGreatDoor.Lm

/- Chapter 17, the landed code: ParseLock. -/
namespace Go.Proofs.YtbopliahafkecaaGreatDoor.Lm
open Go.RowKit Go.Proofs.YtbopliahafkecaaGreatDoor.Mem Go.Proofs.YtbopliahafkecaaGreatDoor.Laws Go.Proofs.YtbopliahafkecaaGreatDoor.Bytes Go.Proofs.YtbopliahafkecaaGreatDoor.Sha Go.Proofs.YtbopliahafkecaaGreatDoor.Ver Go.Proofs.YtbopliahafkecaaGreatDoor.Mod Go.Proofs.YtbopliahafkecaaGreatDoor.Ent Go.Proofs.YtbopliahafkecaaGreatDoor.He Go.Proofs.YtbopliahafkecaaGreatDoor.Fe Go.Proofs.YtbopliahafkecaaGreatDoor.Lk
set_option linter.unusedVariables false
set_option linter.unusedSimpArgs false

theorem linesof_impl (w : World) (s : ByteArray) (hs : s.size ≤ 1048576) :
    Calls Tryz.prog 35 #[.string s] w fun e w' => ∃ L, e = .returned (nx L) ∧ L.map (·.2) = lines s ∧ Lm.Lns w' L ∧ Below w.heap.size w w' := callsIn_wide.1 (linesof_in w s hs)
theorem parseI_nil {s : ByteArray} (h : lines s = []) : parse s = none17 := by rw [← parseI_eq]; unfold parseI; rw [h]
theorem parseI_cons {s t : ByteArray} {r : List ByteArray} (h : lines s = t :: r) : parse s = if (rdHead t).2 = true ∧ named r = true ∧ lock (rdHead t).1 (r.map need1) = s then ((rdHead t).1, r.map need1, true) else none17 := by rw [← parseI_eq]; unfold parseI; rw [h]
theorem rdHead_size (t : ByteArray) : (rdHead t).1.r.size ≤ t.size := by
  have h1 := unHex_size (cut1 32 (behind t)).2
  have h2 := cut1_size 32 (behind t)
  have h3 := behind_size t
  show (unHex (cut1 32 (behind t)).2).1.size ≤ t.size
  omega

set_option maxRecDepth 1000000 in
set_option maxHeartbeats 8000000 in
theorem parse_impl (w : World) (hG : Glob w) (s : ByteArray) (hs : s.size ≤ 1048576) :
    Calls Tryz.prog 9 #[.string s] w fun e w' => ∃ v', e = .returned (.tuple #[.agg #[.int .i64 (parse s).1.n, .string (parse s).1.r], v', .bool (parse s).2.2]) ∧ Od w' w.heap.size w'.heap.size v' (parse s).2.1 ∧ Below w.heap.size w w' := by
  have HG : Hid (Glob w) := hG
  clear hG
  have q0 : ∀ W, _ := fun W => linesof_impl W s hs
  obtain ⟨hsl, hsz⟩ := lines_sizes s
  have HSZ : Hid (∀ t ∈ lines s, t.size ≤ s.size) := hsz
  clear hsz
  obtain ⟨W1, HW1, b1, y1, hS1, r1⟩ := Ke.l1 w #[.int .i64 0, .string ⟨#[]⟩] 25
  have B1 : Hid (Below w.heap.size w W1) := b1
  clear b1
  go_enter Tryz.func9, Tryz.ntmps9
  go_wp2_with fail
  rw [HW1.out]
  refine (q0 W1).mono ?_
  rintro e W2 ⟨L, rfl, hLs, hL, b2⟩
  have z2 := b2.size
  have B2 := Ke.b B1 b2
  have r2 := Ke.r r1 b2
  have HL : Hid (Lm.Lns W2 L) := hL
  have HM : Hid (L.map (·.2) = lines s) := hLs
  clear q0 b2 B1 r1 hL hLs HW1 hS1
  cases L with
  | nil =>
    have HN : Hid (parse s = none17) := parseI_nil HM.out.symm
    dsimp only [nx]
    go_wp2_with (refine wpList_store_row rfl 25 _ _ rfl (w.heap.size) (hc hd0) rfl rfl 25 _ r2.out (sizeH _) rfl (oneH _) ?_)
    refine bodyPost_ret (res_h3 rfl _ _ (w.heap.size) 25 (hc hd0) (0, 0) _ rfl (setRow_heap _ _ _ _ _ (0, 0) r2.out) Tryz.underlying25 rfl (sizeH _)) rfl ⟨.slice none 0 0, by rw [HN.out]; rfl, ?_, below_setRow B2.out (by omega) _⟩
    rw [HN.out]
    exact nil17 _ _ _
  | cons x M =>
    obtain ⟨b, t⟩ := x
    have hlines : lines s = t :: M.map (·.2) := HM.out.symm
    have htz : t.size ≤ s.size := HSZ.out t (by rw [hlines]; simp)
    have HMZ : Hid (∀ y ∈ M, y.2.size ≤ 1048576) := fun y hy => by
      have := HSZ.out y.2 (by rw [hlines]; exact List.mem_cons_of_mem _ (List.mem_map_of_mem hy))
      omega
    have hMl : M.length ≤ 1048577 := by
      have h9 := congrArg List.length hlines
      rw [List.length_cons, List.length_map] at h9
      omega
    have HP : Hid (parse s = if (rdHead t).2 = true ∧ nmd M = true ∧ lock (rdHead t).1 (rd M) = s then ((rdHead t).1, rd M, true) else none17) := parseI_cons hlines
    have hrz := rdHead_size t
    have q1 := readhead_impl W2 t (by omega)
    obtain ⟨⟨N, rt⟩, k1, hrd⟩ : ∃ h k, rdHead t = (h, k) := ⟨_, _, rfl⟩
    rw [hrd] at q1 hrz
    simp only at q1 hrz
    have HP2 : Hid (parse s = if k1 = true ∧ nmd M = true ∧ lock ⟨N, rt⟩ (rd M) = s then (⟨N, rt⟩, rd M, true) else none17) := by show _ = _; rw [HP.out, hrd]
    have rb2 : Hid (W2.heap[b]? = some (.cells #[.string t, nx M] 55 (0, 0))) := HL.out.1
    have cb2 := Ke.c rb2
    clear hlines hrd HP HM HSZ
    dsimp only [nx]
    go_wp2_with fail
    refine q1.mono ?_
    rintro e W3 ⟨rfl, b3⟩
    have z3 := b3.size
    have B3 := Ke.b B2 b3
    have r3 := Ke.r r2 b3
    have rb3 := Ke.r rb2 b3
    have HL3 : Hid (Lm.Lns W3 ((b, t) :: M)) := HL.out.later b3
    clear q1 b3 B2 r2 rb2 cb2 HL
    obtain ⟨W4, HW4, b4, y4, hS4, rh4⟩ := Ke.l1 W3 #[.int .i64 N, .string rt] 25
    have z4 := b4.size
    have B4 := Ke.b B3 b4
    have r4 := Ke.r r3 b4
    have rb4 := Ke.r rb3 b4
    have HL4 : Hid (Lm.Lns W4 M) := (HL3.out.later b4).2.2
    have cb4 := Ke.c rb4
    clear b4 B3 r3 rb3 HL3
    have q2 := needs17_impl W4 M HL4.out HMZ.out hMl
    obtain ⟨v1, hv1⟩ : ∃ v, nx M = v := ⟨_, rfl⟩
    rw [hv1] at cb4 q2
    clear hv1 rb4
    obtain ⟨k2, hk2⟩ : ∃ k, nmd M = k := ⟨_, rfl⟩
    rw [hk2] at q2
    have HP3 : Hid (parse s = if k1 = true ∧ k2 = true ∧ lock ⟨N, rt⟩ (rd M) = s then (⟨N, rt⟩, rd M, true) else none17) := by show _ = _; rw [HP2.out, hk2]
    clear hk2 HP2
    rw [← HW4.out] at cb4
    go_wp2_with fail
    rw [HW4.out]
    refine q2.mono ?_
    rintro e W5 ⟨u, rfl, hu, b5⟩
    have z5 := b5.size
    have B5 := Ke.b B4 b5
    have r5 := Ke.r r4 b5
    have rh5 := Ke.r rh4 b5
    have hlt4 := r4.out
    have hb4 := B4.out.size
    have HU : Hid (Od W5 W4.heap.size W5.heap.size u (if k2 = true then rd M else [])) := hu
    obtain ⟨ao, L9, cap, hu9⟩ : ∃ ao L9 cap, u = .slice ao L9 cap := by obtain ⟨a9, c9, e9⟩ := on_slice5 hu; exact ⟨a9, _, c9, e9⟩
    subst hu9
    have hgt : w.heap.size < W4.heap.size := (Array.getElem?_eq_some_iff.1 r4.out).1
    clear q2 hu b5 B4 r4 rh4 cb4 hlt4 HL4 HW4 hS4
    have ch5 := Ke.c rh5
    by_cases hk : k1 = true ∧ k2 = true
    · obtain ⟨rfl, rfl⟩ := hk
      have HU2 : Hid (Od W5 W4.heap.size W5.heap.size (.slice ao L9 cap) (rd M)) := HU.out
      have HZM : Hid (∀ x ∈ rd M, x.path.size ≤ 1000000000 ∧ x.pre.size ≤ 1000000000) := fun x hx => by
        unfold rd at hx
        obtain ⟨t9, ht9, rfl⟩ := List.mem_map.1 hx
        obtain ⟨y9, hy9, rfl⟩ := List.mem_map.1 ht9
        have h1 := HMZ.out y9 hy9
        have h2 := pname_size y9.2
        unfold need1
        omega
      have hrl : (rd M).length ≤ 1048577 := by unfold rd; rw [List.length_map, List.length_map]; exact hMl
      have q3 := lock_impl W5 (Glob.later HG.out B5.out) ⟨N, rt⟩ (.slice ao L9 cap) (rd M) HU2.out.sd (by omega) (by show rt.size ≤ _; omega) HZM.out
      obtain ⟨K, hK⟩ : ∃ K, lock ⟨N, rt⟩ (rd M) = K := ⟨_, rfl⟩
      rw [hK] at q3
      have HP4 : Hid (parse s = if K = s then (⟨N, rt⟩, rd M, true) else none17) := by show _ = _; rw [HP3.out, hK]; simp
      clear hK HP3 HU
      go_wp2_with (refine wpList_load_row rfl 25 _ rfl (W3.heap.size) rfl 25 (hc ⟨N, rt⟩) (0, 0) _ rh5.out Tryz.underlying25 rfl (sizeH _) ?_)
      go_wp2_with fail
      refine q3.mono ?_
      rintro e W6 ⟨rfl, b6⟩
      have z6 := b6.size
      have B6 := Ke.b B5 b6
      have r6 := Ke.r r5 b6
      have rh6 := Ke.r rh5 b6
      have HU6 : Hid (Od W6 W4.heap.size W5.heap.size (.slice ao L9 cap) (rd M)) := On.later HU2.out b6 (Nat.le_refl _)
      clear q3 b6 B5 r5 rh5 ch5 HU2
      obtain ⟨E2, hE2⟩ : ∃ E, (K.toList == s.toList) = E := ⟨_, rfl⟩
      cases E2
      · have HN : Hid (parse s = none17) := by show _ = _; rw [HP4.out, if_neg (by intro h9; rw [h9, beq_self_eq_true] at hE2; cases hE2)]
        go_wp2_with (refine wpList_store_row rfl 25 _ _ rfl (w.heap.size) (hc hd0) rfl rfl 25 _ r6.out (sizeH _) rfl (oneH _) ?_)
        refine bodyPost_ret (res_h3 rfl _ _ (w.heap.size) 25 (hc hd0) (0, 0) _ rfl (setRow_heap _ _ _ _ _ (0, 0) r6.out) Tryz.underlying25 rfl (sizeH _)) rfl ⟨.slice none 0 0, by rw [HN.out]; rfl, ?_, below_setRow B6.out (by omega) _⟩
        rw [HN.out]
        exact nil17 _ _ _
      · have HN : Hid (parse s = (⟨N, rt⟩, rd M, true)) := by show _ = _; rw [HP4.out, if_pos ((eqT_iff _ _).1 hE2)]
        go_wp2_with (first | (refine wpList_load_row rfl 25 _ rfl (W3.heap.size) rfl 25 (hc ⟨N, rt⟩) (0, 0) _ rh6.out Tryz.underlying25 rfl (sizeH _) ?_) | (refine wpList_store_row rfl 25 _ _ rfl (w.heap.size) (hc ⟨N, rt⟩) rfl rfl 25 _ r6.out (sizeH _) rfl (oneH _) ?_))
        refine bodyPost_ret (res_h3 rfl _ _ (w.heap.size) 25 (hc ⟨N, rt⟩) (0, 0) _ rfl (setRow_heap _ _ _ _ _ (0, 0) r6.out) Tryz.underlying25 rfl (sizeH _)) rfl ⟨.slice ao L9 cap, by rw [HN.out]; rfl, ?_, below_setRow B6.out (by omega) _⟩
        rw [HN.out]
        exact On.mono (On.keep HU6.out fun j h1 h2 => setRow_other _ _ _ _ (by omega)) (by omega) (by rw [size_setRow]; exact z6)
    · have HN : Hid (parse s = none17) := by show _ = _; rw [HP3.out, if_neg (fun h => hk ⟨h.1, h.2.1⟩)]
      cases k1
      · go_wp2_with (refine wpList_store_row rfl 25 _ _ rfl (w.heap.size) (hc hd0) rfl rfl 25 _ r5.out (sizeH _) rfl (oneH _) ?_)
        refine bodyPost_ret (res_h3 rfl _ _ (w.heap.size) 25 (hc hd0) (0, 0) _ rfl (setRow_heap _ _ _ _ _ (0, 0) r5.out) Tryz.underlying25 rfl (sizeH _)) rfl ⟨.slice none 0 0, by rw [HN.out]; rfl, ?_, below_setRow B5.out (by omega) _⟩
        rw [HN.out]
        exact nil17 _ _ _
      · cases k2
        · go_wp2_with (refine wpList_store_row rfl 25 _ _ rfl (w.heap.size) (hc hd0) rfl rfl 25 _ r5.out (sizeH _) rfl (oneH _) ?_)
          refine bodyPost_ret (res_h3 rfl _ _ (w.heap.size) 25 (hc hd0) (0, 0) _ rfl (setRow_heap _ _ _ _ _ (0, 0) r5.out) Tryz.underlying25 rfl (sizeH _)) rfl ⟨.slice none 0 0, by rw [HN.out]; rfl, ?_, below_setRow B5.out (by omega) _⟩
          rw [HN.out]
          exact nil17 _ _ _
        · exact absurd ⟨rfl, rfl⟩ hk

end Go.Proofs.YtbopliahafkecaaGreatDoor.Lm
