/- Texts in one: Gs2. -/
import Derived.Test.YtlhmemnaiobgkaaGreatDoorPq24
import Derived.RangeFuncNested
import Derived.RangeFuncBound
import Derived.RangeFuncCalls
import Derived.RangeFuncLeaves
import Derived.Shelf.Abstract
import Derived.Shelf.RegionOpen
import Derived.OwnWalkIn
import Derived.TacticsInMore
import Derived.LoopNIn
import Derived.LoopIn
/- Chapter 15, the landed code: the iterator over those that are wanted. -/
namespace Go.Proofs.YtlhmemnaiobgkaaGreatDoor.Fe
open Go.RowKit Go.Shelf Go.Proofs.YtlhmemnaiobgkaaGreatDoor.Mem Go.Proofs.YtlhmemnaiobgkaaGreatDoor.Laws Go.Proofs.YtlhmemnaiobgkaaGreatDoor.Ver Go.Proofs.YtlhmemnaiobgkaaGreatDoor.Ent
set_option linter.unusedVariables false
set_option linter.unusedSimpArgs false
attribute [local go_sem] Oper.semAt_some

theorem grown_below9 {A B : World} (h : Below A.heap.size A B) : A.grownBy B none := ⟨h.os, h.tape, h.output, h.size, fun j hj _ => h.block j hj⟩
/-- what a round keeps for the iterator: what lay when the caller began, and some variables -/
def Ks (n0 : Nat) (bs : List Nat) (A B : World) : Prop := Below n0 A B ∧ ∀ b ∈ bs, ∀ t v, Boxed A b t v → Boxed B b t v
theorem Ks_t {n0 : Nat} {bs : List Nat} {A B C : World} (h : Ks n0 bs A B) (k : Ks n0 bs B C) : Ks n0 bs A C := ⟨h.1.trans k.1, fun b hb t v hv => k.2 b hb t v (h.2 b hb t v hv)⟩
theorem Ks_b {n0 : Nat} {bs : List Nat} {w : World} (hn : n0 ≤ w.heap.size) (W : World) (l : Nat) (o o' : Obj) (hl : w.heap.size ≤ l) (h : W.heap[l]? = some o) (h1 : o.isCells = false) (h2 : o.isWalk = false) : Ks n0 bs W (W.putObj l o') := by
  refine ⟨belowK_b (w := w) hn W l o o' hl h h1 h2, fun b hb t v hv => ?_⟩
  unfold Boxed at hv ⊢
  by_cases e : b = l
  · subst e
    rw [h] at hv
    cases hv
    cases h1
  · rw [World.putObj_heap_other e]
    exact hv
theorem Boxed.same9 {b t : Nat} {v : Value} {A B : World} (hv : Boxed A b t v) (h : Below A.heap.size A B) : Boxed B b t v := (h.block b hv.lt).trans hv
theorem Ks_below {n0 : Nat} {bs : List Nat} {A B : World} (h : Below A.heap.size A B) (hn : n0 ≤ A.heap.size) : Ks n0 bs A B := ⟨h.mono hn, fun b hb t v hv => Boxed.same9 hv h⟩
theorem map_filter_snoc {α : Type} {l : List α} {Q : List { x // x ∈ l }} {p : α → Bool} {k : Nat} {x : α} (hx : l[k]? = some x) (hm : x ∈ l) (h : Q.map Subtype.val = (l.take k).filter p) :
    (if p x = true then (Q ++ [⟨x, hm⟩]) else Q).map Subtype.val = (l.take (k + 1)).filter p := by
  rw [filter_snoc15 p hx]
  split
  · rw [List.map_append, h]; rfl
  · exact h
theorem pre_filter {α : Type} {l : List α} {p : α → Bool} (k : Nat) : (l.take k).filter p <+: l.filter p := by
  have := List.filter_append (p := p) (l.take k) (l.drop k)
  rw [List.take_append_drop] at this
  rw [this]
  exact List.prefix_append _ _
theorem len_filter {α : Type} {l : List α} {Q : List { x // x ∈ l }} {p : α → Bool} {k : Nat} (h : Q.map Subtype.val = (l.take k).filter p) (hk : k ≤ l.length) : Q.length ≤ k := by
  have h1 := congrArg List.length h
  have h2 := List.length_filter_le p (l.take k)
  rw [List.length_map] at h1
  rw [List.length_take] at h2
  omega

set_option maxRecDepth 1000000 in
set_option maxHeartbeats 4000000 in
theorem stops_name (n : Nat) (hn : 1 ≤ n) (we w : World) (hwe : Below we.heap.size we w) (v : Value) (l : List Ev) (h : Se we v l) (hl : l.length ≤ 1000000000000) (q : Nd) (b : Nat) (hb : we.heap.size ≤ b) (x1 : Boxed w b 24 v) (x2 : Boxed w (b + 1) 71 (.func (.func 49) #[.agg #[.string q.path, .int .i64 q.a, .int .i64 q.b, .int .i64 q.c, .string q.pre]] #[])) :
    SeqStopsK Fence.wide n Tryz.prog 77 #[.pointer (some ⟨b, 0, none⟩), .pointer (some ⟨b + 1, 0, none⟩)] (fun x : { x // x ∈ l } => #[.agg #[.string x.1.n.path, .int .i64 x.1.n.a, .int .i64 x.1.n.b, .int .i64 x.1.n.c, .string x.1.n.pre, x.1.u]]) (Ks we.heap.size [b, b + 1])
      (fun xs => xs.map Subtype.val = l.filter (fun x => isN q x.n)) (fun pre => pre.map Subtype.val <+: l.filter (fun x => isN q x.n)) (l.length + 1) w := fun lr J Jx W hW hJ hJx hY h0 => by
  have HS : Hid (Se we v l) := h
  obtain ⟨ao, cap, rfl, hcap⟩ := h.form
  have hBW : Below we.heap.size we W := hwe.trans (hW.mono hwe.size)
  have c1 := (Boxed.same9 x1 hW).cell
  have X1 : Hid (Boxed W b 24 (.slice ao l.length cap)) := Boxed.same9 x1 hW
  have X2 : Hid (Boxed W (b + 1) 71 (.func (.func 49) #[.agg #[.string q.path, .int .i64 q.a, .int .i64 q.b, .int .i64 q.c, .string q.pre]] #[])) := Boxed.same9 x2 hW
  have hJb : ∀ (pre : List { x // x ∈ l }) (V V' : World), J pre V → Below V.heap.size V V' → J pre V' := fun pre V V' hj hB => hJ pre V V' none hj (grown_below9 hB) (fun r e => by cases e)
  clear x1 x2 h
  refine callsIn_of_wp Tryz.func77 rfl trivial ?_ rfl
  simp only [Tryz.ntmps77, List.size_toArray, List.length_cons, List.length_nil, Nat.reduceAdd, Nat.reduceSub, Array.replicate_succ, Array.replicate_zero, List.push_toArray, List.append_toArray, List.nil_append, List.cons_append]
  gi_wp2
  gi_loopw [8] (fun i wr => ∃ (k : Nat) (Q : List { x // x ∈ l }), k ≤ l.length ∧ i = .int .i64 (k : Int) ∧ Hid (Q.map Subtype.val = (l.take k).filter (fun x => isN q x.n)) ∧ J Q wr ∧ Hid (Below we.heap.size we wr) ∧ Hid (Boxed wr (b + 1) 71 (.func (.func 49) #[.agg #[.string q.path, .int .i64 q.a, .int .i64 q.b, .int .i64 q.c, .string q.pre]] #[])) ∧ Hid (Boxed wr b 24 (.slice ao l.length cap))) (fun i _ => l.length - (intOf i).toNat)
  case atStart => exact ⟨0, [], Nat.zero_le _, rfl, by show _ = _; simp, h0, hBW, X2, X1⟩
  case round =>
    obtain ⟨k, Q, hk, rfl, HQ, hj, HB, X2, X1⟩ := hrel
    clear hBW c1
    by_cases hlt : k < l.length
    · obtain ⟨x, hx⟩ : ∃ x, l[k]? = some x := ⟨l[k], by simp [hlt]⟩
      have hmem : x ∈ l := List.mem_of_getElem? hx
      obtain ⟨b9, off, cap9, he, _, m0, m1, m2, m3, m4, m5, hsd⟩ := Se.at (HS.out.later HB.out) hx
      simp only [Value.slice.injEq] at he
      obtain ⟨rfl, _, rfl⟩ := he
      have HX : Hid (l[k]? = some x) := hx
      have HQL : Hid (Q.length ≤ k) := len_filter HQ.out hk
      obtain ⟨au, Lu, cu, hu⟩ : ∃ au Lu cu, x.u = .slice au Lu cu := by
        obtain ⟨_, au, cu, hu, _⟩ := hsd
        exact ⟨au, _, cu, hu⟩
      have hy0 := hY Q ⟨x, hmem⟩
      dsimp only at hy0
      rw [hu] at m5 hy0
      clear hx hsd
      -- the loop's variable
      obtain ⟨W1, HW1, b1, y1, hS1, r1⟩ := Ke.l1 wr #[.string x.n.path, .int .i64 x.n.a, .int .i64 x.n.b, .int .i64 x.n.c, .string x.n.pre, .slice au Lu cu] 34
      have hlt2 : (k : Int) < (l.length : Int) := by omega
      have a2 : ∀ ob, (wr.alloc ob).cell? ⟨b + 1, 0, none⟩ = some _ := fun ob => (Boxed.alloc X2.out ob).cell
      have B1 : Hid (Below we.heap.size we W1) := HB.out.trans (b1.mono HB.out.size)
      have X21 := Ke.h (Boxed.same9 X2.out b1)
      have X11 := Ke.h (Boxed.same9 X1.out b1)
      have hj1 := hJb Q _ _ hj b1
      have hq := fun W => isname_impl W q x.n (.slice au Lu cu)
      clear X1 X2 HB hj
      have hnq : isN q x.n = isN q x.n := rfl
      obtain ⟨P, hP⟩ : ∃ P, isN q x.n = P := ⟨_, rfl⟩
      rw [hP] at hq
      have HP : Hid (isN q x.n = P) := hP
      clear hP hnq
      gi_wp2_with fail
      refine ⟨trivial, ?_⟩
      rw [HW1.out]
      refine (callsIn_wide.2 (hq _)).mono ?_
      rintro e w2 ⟨rfl, b2⟩
      have B2 : Hid (Below we.heap.size we w2) := B1.out.trans (b2.mono B1.out.size)
      have X22 := Ke.h (Boxed.same9 X21.out b2)
      have X12 := Ke.h (Boxed.same9 X11.out b2)
      have hj2 := hJb Q _ _ hj1 b2
      have r2 := Ke.r r1 b2
      have c2 := Ke.c r2
      clear B1 X21 X11 hj1 r1 b2 hq HW1 b1 y1 hS1 a2 m0 m1 m2 m3 m4 m5
      have HQ2 := map_filter_snoc (p := fun x => isN q x.n) HX.out hmem HQ.out
      rw [HP.out] at HQ2
      cases P
      · have HQ3 : Hid (Q.map Subtype.val = (l.take (k + 1)).filter (fun x => isN q x.n)) := HQ2
        clear HQ2 hy0 c2
        gi_wp2
        refine ⟨fun _ h => (by cases h), ?_⟩
        gi_wp2
        go_roundw
        case rel => exact ⟨k + 1, Q, by omega, by go_num, HQ3, hj2, B2, X22, X12⟩
        case measure => simp [intOf]; omega
      · have HQ3 : Hid ((Q ++ [(⟨x, hmem⟩ : { x // x ∈ l })]).map Subtype.val = (l.take (k + 1)).filter (fun x => isN q x.n)) := HQ2
        obtain ⟨fn, tmps, assign, body, hy, hR⟩ := hy0 w2 hj2 (by have := HQL.out; omega)
        clear HQ2 hy0
        gi_wp2
        refine hR.mono ?_
        rintro e W3 (⟨rfl, hJ3, hk3⟩ | ⟨rfl, hJx3⟩)
        · have B3 : Hid (Below we.heap.size we W3) := B2.out.trans hk3.1
          have X23 := Ke.h (hk3.2 (b + 1) (by simp) _ _ X22.out)
          have X13 := Ke.h (hk3.2 b (by simp) _ _ X12.out)
          clear hk3 hy hR c2 r2
          gi_wp2
          go_roundw
          case rel => exact ⟨k + 1, Q ++ [(⟨x, hmem⟩ : { x // x ∈ l })], by omega, by go_num, HQ3, hJ3, B3, X23, X13⟩
          case measure => simp [intOf]; omega
        · gi_wp2
          refine bodyPost_ret (results_none rfl _ _ _) rfl ?_
          exact ⟨⟨_, rfl⟩, .inr ⟨Q ++ [(⟨x, hmem⟩ : { x // x ∈ l })], by have h9 := HQ3.out; rw [h9]; exact pre_filter _, hJx3⟩⟩
    · have hkl : k = l.length := by omega
      have HF : Hid (Q.map Subtype.val = l.filter (fun x => isN q x.n)) := by
        have := HQ.out
        rw [hkl, List.take_length] at this
        exact this
      have hlt2 : ¬ (k : Int) < (l.length : Int) := by omega
      clear hkl
      gi_wp2
      go_end0
      exact ⟨⟨_, rfl⟩, .inl ⟨Q, HF.out, hj⟩⟩

end Go.Proofs.YtlhmemnaiobgkaaGreatDoor.Fe
