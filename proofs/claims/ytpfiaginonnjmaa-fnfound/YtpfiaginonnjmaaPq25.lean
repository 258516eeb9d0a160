/- Texts in one: Gs7. -/
import Derived.Test.YtpfiaginonnjmaaPq24
/- Chapter 15, the landed code: Lacking. -/
namespace Go.Proofs.Ytpfiaginonnjmaa.Fe
open Go.RowKit Go.Shelf Go.Proofs.Ytpfiaginonnjmaa.Mem Go.Proofs.Ytpfiaginonnjmaa.Laws Go.Proofs.Ytpfiaginonnjmaa.Ver Go.Proofs.Ytpfiaginonnjmaa.Ent
set_option linter.unusedVariables false
set_option linter.unusedSimpArgs false
attribute [local go_sem] Oper.semAt_some

theorem lack_pred (E : List Ev) (l : List Nd) : l.filter (fun x => !(E.any fun y => isN x y.n)) = lack15 (E.map Ev.n) l := by
  unfold lack15
  apply List.filter_congr
  intro q _
  rcases at15_find q E 0 with ⟨h1, h2⟩ | ⟨k, x, h1, _, h2⟩
  · rw [h1]
    have : E.any (fun y => isN q y.n) = false := by
      rw [List.any_eq_false]
      exact List.find?_eq_none.1 h2
    rw [this]
    rfl
  · rw [h1]
    have : E.any (fun y => isN q y.n) = true := List.any_eq_true.2 ⟨x, List.mem_of_find?_eq_some h2, by simpa using List.find?_some h2⟩
    rw [this]
    have h9 : ¬ (((0 + k : Nat) : Int) < 0) := by omega
    simp [h9]

set_option maxRecDepth 1000000 in
set_option maxHeartbeats 4000000 in
theorem lack1_impl (w : World) (ae : Option Addr) (ce : Nat) (E : List Ev) (x : Nd) (g : Nat) (hg : Boxed w g 24 (.slice ae E.length ce)) (hE : Se w (.slice ae E.length ce) E) (hEl : E.length ≤ 1000000000) :
    Calls Try.prog 45 #[.agg #[.string x.path, .int .i64 x.a, .int .i64 x.b, .int .i64 x.c, .string x.pre], .pointer (some ⟨g, 0, none⟩)] w fun e w' => e = .returned (.bool (!(E.any fun y => isN x y.n))) ∧ Below w.heap.size w w' := by
  obtain ⟨W1, HW1, b1, y1, hS1, r1⟩ := Ke.l1 w #[.string x.path, .int .i64 x.a, .int .i64 x.b, .int .i64 x.c, .string x.pre] 38
  have a2 : ∀ ob, (w.alloc ob).cell? ⟨g, 0, none⟩ = some (.slice ae E.length ce) := fun ob => (Boxed.alloc hg ob).cell
  have q := there_impl W1 _ E x (hE.later b1) hEl
  obtain ⟨P, hP⟩ : ∃ P, (E.any fun y => isN x y.n) = P := ⟨_, rfl⟩
  rw [hP] at q ⊢
  clear hP hE
  go_enter Try.func45, Try.ntmps45
  go_wp2_with fail
  rw [HW1.out]
  refine q.mono ?_
  rintro e W2 ⟨rfl, b2⟩
  have HB := Ke.h (b1.trans (b2.mono b1.size))
  clear q b2
  go_wp2
  go_ret
  exact ⟨rfl, HB.out⟩

set_option maxRecDepth 1000000 in
theorem sought_inN (n : Nat) (W : World) (ao : Option Addr) (L cap : Nat) (f : Fn) (b c : Array Value) : CallsIn Fence.wide n Try.prog 44 #[.slice ao L cap, .func f b c] W fun e w' => e = .returned (.func (.func 62) #[] #[.pointer (some ⟨W.heap.size, 0, none⟩), .pointer (some ⟨W.heap.size + 1, 0, none⟩)]) ∧ Below W.heap.size W w' ∧ W.heap.size + 2 ≤ w'.heap.size ∧ Boxed w' W.heap.size 29 (.slice ao L cap) ∧ Boxed w' (W.heap.size + 1) 76 (.func f b c) := by
  obtain ⟨W1, HW1, b1, y1, hS1, r1, r2⟩ := Ke.l2 W #[.slice ao L cap] 29 #[.func f b c] 76
  refine callsIn_wide.2 ?_
  go_enter Try.func44, Try.ntmps44
  go_wp2
  go_ret
  rw [HW1.out]
  exact ⟨rfl, b1, y1, r1.out, r2.out⟩

set_option maxRecDepth 1000000 in
set_option maxHeartbeats 4000000 in
theorem stops_lack (n : Nat) (hn : 1 ≤ n) (we w : World) (hwe : Below we.heap.size we w) (v : Value) (l : List Nd) (h : Sd we v l) (hl : l.length ≤ 1000000000000) (ae : Option Addr) (ce : Nat) (E : List Ev) (hE : Se we (.slice ae E.length ce) E) (hEl : E.length ≤ 1000000000) (g : Nat) (b : Nat) (hb : we.heap.size ≤ b) (x1 : Boxed w b 29 v) (x3 : Boxed w g 24 (.slice ae E.length ce)) (x2 : Boxed w (b + 1) 76 (.func (.func 45) #[] #[.pointer (some ⟨g, 0, none⟩)])) :
    SeqStopsK Fence.wide n Try.prog 62 #[.pointer (some ⟨b, 0, none⟩), .pointer (some ⟨b + 1, 0, none⟩)] (fun x : { x // x ∈ l } => #[.agg #[.string x.1.path, .int .i64 x.1.a, .int .i64 x.1.b, .int .i64 x.1.c, .string x.1.pre]]) (Ks we.heap.size [g, b, b + 1])
      (fun xs => xs.map Subtype.val = l.filter (fun x => !(E.any fun y => isN x y.n))) (fun pre => pre.map Subtype.val <+: l.filter (fun x => !(E.any fun y => isN x y.n))) (l.length + 1) w := fun lr J Jx W hW hJ hJx hY h0 => by
  have HS : Hid (Sd we v l) := h
  have HE : Hid (Se we (.slice ae E.length ce) E) := hE
  clear hE
  obtain ⟨_, ao, cap, rfl, hcap, _, _⟩ := h
  have hBW : Below we.heap.size we W := hwe.trans (hW.mono hwe.size)
  have c1 := (Boxed.same9 x1 hW).cell
  have X1 : Hid (Boxed W b 29 (.slice ao l.length cap)) := Boxed.same9 x1 hW
  have X2 : Hid (Boxed W (b + 1) 76 (.func (.func 45) #[] #[.pointer (some ⟨g, 0, none⟩)])) := Boxed.same9 x2 hW
  have hJb : ∀ (pre : List { x // x ∈ l }) (V V' : World), J pre V → Below V.heap.size V V' → J pre V' := fun pre V V' hj hB => hJ pre V V' none hj (grown_below9 hB) (fun r e => by cases e)
  have X3 : Hid (Boxed W g 24 (.slice ae E.length ce)) := Boxed.same9 x3 hW
  clear x1 x2 x3
  refine callsIn_of_wp Try.func62 rfl trivial ?_ rfl
  simp only [Try.ntmps62, List.size_toArray, List.length_cons, List.length_nil, Nat.reduceAdd, Nat.reduceSub, Array.replicate_succ, Array.replicate_zero, List.push_toArray, List.append_toArray, List.nil_append, List.cons_append]
  gi_wp2
  gi_loopw [8] (fun i wr => ∃ (k : Nat) (Q : List { x // x ∈ l }), k ≤ l.length ∧ i = .int .i64 (k : Int) ∧ Hid (Q.map Subtype.val = (l.take k).filter (fun x => !(E.any fun y => isN x y.n))) ∧ J Q wr ∧ Hid (Below we.heap.size we wr) ∧ Hid (Boxed wr (b + 1) 76 (.func (.func 45) #[] #[.pointer (some ⟨g, 0, none⟩)])) ∧ Hid (Boxed wr b 29 (.slice ao l.length cap)) ∧ Hid (Boxed wr g 24 (.slice ae E.length ce))) (fun i _ => l.length - (intOf i).toNat)
  case atStart => exact ⟨0, [], Nat.zero_le _, rfl, by show _ = _; simp, h0, hBW, X2, X1, X3⟩
  case round =>
    obtain ⟨k, Q, hk, rfl, HQ, hj, HB, X2, X1, X3⟩ := hrel
    clear hBW c1
    by_cases hlt : k < l.length
    · obtain ⟨x, hx⟩ : ∃ x, l[k]? = some x := ⟨l[k], by simp [hlt]⟩
      have hmem : x ∈ l := List.mem_of_getElem? hx
      obtain ⟨b9, off, cap9, he, _, m0, m1, m2, m3, m4⟩ := Sd.at (HS.out.later HB.out) hx
      simp only [Value.slice.injEq] at he
      obtain ⟨rfl, _, rfl⟩ := he
      have HX : Hid (l[k]? = some x) := hx
      have HQL : Hid (Q.length ≤ k) := len_filter HQ.out hk
      have hy0 := hY Q ⟨x, hmem⟩
      dsimp only at hy0
      clear hx
      -- the loop's variable
      obtain ⟨W1, HW1, b1, y1, hS1, r1⟩ := Ke.l1 wr #[.string x.path, .int .i64 x.a, .int .i64 x.b, .int .i64 x.c, .string x.pre] 38
      have hlt2 : (k : Int) < (l.length : Int) := by omega
      have a2 : ∀ ob, (wr.alloc ob).cell? ⟨b + 1, 0, none⟩ = some _ := fun ob => (Boxed.alloc X2.out ob).cell
      have B1 := Ke.b HB b1
      have X21 := Ke.h (Boxed.same9 X2.out b1)
      have X11 := Ke.h (Boxed.same9 X1.out b1)
      have X31 := Ke.h (Boxed.same9 X3.out b1)
      have hj1 := hJb Q _ _ hj b1
      have hq := fun W (hB : Below we.heap.size we W) (hg : Boxed W g 24 (.slice ae E.length ce)) => lack1_impl W ae ce E x g hg (HE.out.later hB) hEl
      clear X1 X2 X3 HB hj
      have hnq : (!(E.any fun y => isN x y.n)) = (!(E.any fun y => isN x y.n)) := rfl
      obtain ⟨P, hP⟩ : ∃ P, (!(E.any fun y => isN x y.n)) = P := ⟨_, rfl⟩
      rw [hP] at hq
      have HP : Hid ((!(E.any fun y => isN x y.n)) = P) := hP
      clear hP hnq
      gi_wp2_with fail
      refine ⟨trivial, ?_⟩
      rw [HW1.out]
      refine (callsIn_wide.2 (hq _ B1.out X31.out)).mono ?_
      rintro e w2 ⟨rfl, b2⟩
      have B2 := Ke.b B1 b2
      have X22 := Ke.h (Boxed.same9 X21.out b2)
      have X12 := Ke.h (Boxed.same9 X11.out b2)
      have X32 := Ke.h (Boxed.same9 X31.out b2)
      have hj2 := hJb Q _ _ hj1 b2
      have r2 := Ke.r r1 b2
      have c2 := Ke.c r2
      clear B1 X21 X11 X31 hj1 r1 b2 hq HW1 b1 y1 hS1 a2 m0 m1 m2 m3 m4
      have HQ2 := map_filter_snoc (p := fun x => (!(E.any fun y => isN x y.n))) HX.out hmem HQ.out
      rw [HP.out] at HQ2
      cases P
      · have HQ3 : Hid (Q.map Subtype.val = (l.take (k + 1)).filter (fun x => !(E.any fun y => isN x y.n))) := HQ2
        clear HQ2 hy0 c2
        gi_wp2
        refine ⟨fun _ h => (by cases h), ?_⟩
        gi_wp2
        go_roundw
        case rel => exact ⟨k + 1, Q, by omega, by go_num, HQ3, hj2, B2, X22, X12, X32⟩
        case measure => simp [intOf]; omega
      · have HQ3 : Hid ((Q ++ [(⟨x, hmem⟩ : { x // x ∈ l })]).map Subtype.val = (l.take (k + 1)).filter (fun x => !(E.any fun y => isN x y.n))) := HQ2
        obtain ⟨fn, tmps, assign, body, hy, hR⟩ := hy0 w2 hj2 (by have := HQL.out; omega)
        clear HQ2 hy0
        gi_wp2
        refine hR.mono ?_
        rintro e W3 (⟨rfl, hJ3, hk3⟩ | ⟨rfl, hJx3⟩)
        · have B3 : Hid (Below we.heap.size we W3) := B2.out.trans hk3.1
          have X23 := Ke.h (hk3.2 (b + 1) (by simp) _ _ X22.out)
          have X13 := Ke.h (hk3.2 b (by simp) _ _ X12.out)
          have X33 := Ke.h (hk3.2 g (by simp) _ _ X32.out)
          clear hk3 hy hR c2 r2
          gi_wp2
          go_roundw
          case rel => exact ⟨k + 1, Q ++ [(⟨x, hmem⟩ : { x // x ∈ l })], by omega, by go_num, HQ3, hJ3, B3, X23, X13, X33⟩
          case measure => simp [intOf]; omega
        · gi_wp2
          refine bodyPost_ret (results_none rfl _ _ _) rfl ?_
          exact ⟨⟨_, rfl⟩, .inr ⟨Q ++ [(⟨x, hmem⟩ : { x // x ∈ l })], by have h9 := HQ3.out; rw [h9]; exact pre_filter _, hJx3⟩⟩
    · have hkl : k = l.length := by omega
      have HF : Hid (Q.map Subtype.val = l.filter (fun x => !(E.any fun y => isN x y.n))) := by
        have := HQ.out
        rw [hkl, List.take_length] at this
        exact this
      have hlt2 : ¬ (k : Int) < (l.length : Int) := by omega
      clear hkl
      gi_wp2
      go_end0
      exact ⟨⟨_, rfl⟩, .inl ⟨Q, HF.out, hj⟩⟩

set_option maxRecDepth 1000000 in
set_option maxHeartbeats 4000000 in
theorem lacking_in (w : World) (ve v : Value) (E : List Ev) (l : List Nd) (hE : Se w ve E) (hEl : E.length ≤ 1000000000) (h : Sd w v l) (hl : l.length ≤ 1000000000) (hz : ∀ x ∈ l, x.path.size ≤ 1000000000000 ∧ x.pre.size ≤ 1000000000000) :
    CallsIn Fence.wide 6 Try.prog 12 #[ve, v] w fun e w' => ∃ v', e = .returned v' ∧ Od w' w.heap.size w'.heap.size v' (lack15 (E.map Ev.n) l) ∧ Below w.heap.size w w' := by
  have h1 : 1 ≤ 6 := by omega
  obtain ⟨i0, hi, hz0, hz1, hz2⟩ := info_parts infoN
  have HE : Hid (Se w ve E) := hE
  have HS : Hid (Sd w v l) := h
  have HZ : Hid (∀ x ∈ l, x.path.size ≤ 1000000000000 ∧ x.pre.size ≤ 1000000000000) := hz
  obtain ⟨ae, ce, rfl, hce⟩ := hE.form
  obtain ⟨_, ao, cap, rfl, hcap, _, _⟩ := h
  clear hE hz
  obtain ⟨W1, HW1, b1, y1, hS1, rp, rb⟩ := Ke.l2 w #[.slice ae E.length ce] 24 #[.slice none 0 0] 29
  refine callsIn_of_wp_marks Try.func12 rfl trivial ?_ rfl
  simp only [Try.ntmps12, List.size_toArray, List.length_cons, List.length_nil, Nat.reduceAdd, Nat.reduceSub, Array.replicate_succ, Array.replicate_zero, List.push_toArray, List.append_toArray, List.nil_append, List.cons_append]
  gi_wp2_with fail
  refine ⟨trivial, ?_⟩
  rw [HW1.out]
  refine (sought_inN _ _ _ _ _ _ _ _).mono ?_
  rintro e W2 ⟨rfl, b2, y2, x1, x2⟩
  have B2 : Below w.heap.size w W2 := b1.trans (b2.mono b1.size)
  have rb2 : Boxed W2 (w.heap.size + 1) 29 (.slice none 0 0) := rowKeep rb.out b2
  have rp2 : Boxed W2 w.heap.size 24 (.slice ae E.length ce) := rowKeep rp.out b2
  have hst := stops_lack 5 (by omega) w W2 B2 _ l HS.out (by omega) ae ce E HE.out hEl w.heap.size W1.heap.size b1.size x1 rp2 x2
  clear rb rp HW1 hS1 b2 x1 x2
  gi_wp2_with fail
  refine wpIn_rangeFunc_ownH rfl h1 (gf := 62) (lb := #[.pointer (some ⟨W1.heap.size, 0, none⟩), .pointer (some ⟨W1.heap.size + 1, 0, none⟩)]) rfl trivial (enters_of Try.func62 (by kernel_rfl) rfl)
    hst Ks_t (fun W l o o' h => Ks_b B2.size W l o o' h) (Below.refl _ _) (fun _ => rfl)
    (fun pre W => (Boxed W w.heap.size 24 (.slice ae E.length ce) ∧ ∃ (ao : Option Addr) (L cap hi : Nat), Boxed W (w.heap.size + 1) 29 (.slice ao L cap) ∧ Od W W2.heap.size hi (.slice ao L cap) (pre.map Subtype.val) ∧ W2.heap.size ≤ hi ∧ hi ≤ W.heap.size) ∧ Below w.heap.size w W)
    (fun _ _ _ => False)
    (OwnFrom.and (Own.from (fun s A B row hs hg hr => by
      obtain ⟨hp, ao, L, cap, hi, hbx, hod, h2, hhi⟩ := hs
      exact ⟨boxed_own _ _ (fun _ => _) () A B row hp hg hr, ao, L, cap, hi, boxed_own _ _ (fun _ => _) () A B row hbx hg hr, On.turn hod hg hr, h2, Nat.le_trans hhi hg.size⟩) _) (ownFrom_below (Nat.le_refl _) B2.size))
    (fun _ => fun s A B row hs hg hr => hs)
    ⟨⟨rp2, none, 0, 0, W2.heap.size, rb2, Od.empty _ _ _, Nat.le_refl _, Nat.le_refl _⟩, B2⟩
    (fun x a' W => ∃ g, W2.heap.size ≤ g ∧ W.heap[g]? = some (.cells #[.string x.1.path, .int .i64 x.1.a, .int .i64 x.1.b, .int .i64 x.1.c, .string x.1.pre] 38 (0, 0)) ∧ ∃ (a7 : Option Addr) (L7 c7 : Nat), Boxed W (w.heap.size + 1) 29 (.slice a7 L7 c7) ∧ (Value.slice a7 L7 c7).ownBlock ≠ some g ∧ a' = { tmps := #[.slice ae E.length ce, .slice ao l.length cap, .pointer (some ⟨w.heap.size, 0, none⟩), undef, .slice none 0 0, .pointer (some ⟨w.heap.size + 1, 0, none⟩), .pointer (some ⟨g, 0, none⟩), .slice ao l.length cap, .func (.func 45) #[] #[.pointer (some ⟨w.heap.size, 0, none⟩)], .func (.func 62) #[] #[.pointer (some ⟨W1.heap.size, 0, none⟩), .pointer (some ⟨W1.heap.size + 1, 0, none⟩)], .agg #[.string x.1.path, .int .i64 x.1.a, .int .i64 x.1.b, .int .i64 x.1.c, .string x.1.pre], undef, undef, undef, undef, undef, undef], defers := [] })
    (fun x a' => fun s A B row hs hg hr => by
      obtain ⟨g, hg1, hrow, a7, L7, c7, hb7, hne, ha⟩ := hs
      exact ⟨g, hg1, row_turn hrow hg (fun r e => (hr r e).2), a7, L7, c7, boxed_own _ _ (fun _ => _) () A B row hb7 hg (fun r e => (hr r e).2), hne, ha⟩)
    ?assign ?body ?done ?stop
  case assign =>
    rintro lr pre x W K hI hK
    obtain ⟨⟨hp, a8, L8, c8, hi9, hbx, hod, h2, hhi⟩, hB⟩ := hI
    have hWs := hB.size
    have hk2 := hK { tmps := #[.slice ae E.length ce, .slice ao l.length cap, .pointer (some ⟨w.heap.size, 0, none⟩), undef, .slice none 0 0, .pointer (some ⟨w.heap.size + 1, 0, none⟩), .pointer (some ⟨W.heap.size, 0, none⟩), .slice ao l.length cap, .func (.func 45) #[] #[.pointer (some ⟨w.heap.size, 0, none⟩)], .func (.func 62) #[] #[.pointer (some ⟨W1.heap.size, 0, none⟩), .pointer (some ⟨W1.heap.size + 1, 0, none⟩)], .agg #[.string x.1.path, .int .i64 x.1.a, .int .i64 x.1.b, .int .i64 x.1.c, .string x.1.pre], undef, undef, undef, undef, undef, undef], defers := [] } (W.alloc (.cells #[.string x.1.path, .int .i64 x.1.a, .int .i64 x.1.b, .int .i64 x.1.c, .string x.1.pre] 38)) ((KeepsOthers.alloc _ _).from _) (Ks_below ((Below.refl _ _).alloc (Nat.le_refl _) _) hWs) ⟨⟨Boxed.alloc hp _, a8, L8, c8, hi9, Boxed.alloc hbx _, On.later hod ((Below.refl _ _).alloc (Nat.le_refl _) _) hhi, h2, by simp; omega⟩, hB.alloc hWs _⟩ ⟨W.heap.size, by omega, heap_alloc_new W _, a8, L8, c8, Boxed.alloc hbx _, On.far hod (.inr hhi), rfl⟩
    gi_wp2
    exact hk2
  case body =>
    rintro lr pre ⟨x, hm⟩ a' W3 hlr hrec ⟨⟨hp, a8, L8, c8, hi9, hbx, hod, h29, hhi⟩, hB⟩ ⟨g, hg, rx, a7, L7, c7, hb7, hgx, rfl⟩ hlt
    obtain ⟨f1, f2⟩ := HZ.out _ hm
    have e7 : (Value.slice a7 L7 c7) = .slice a8 L8 c8 := by
      have h9 := (show W3.heap[w.heap.size + 1]? = _ from hb7).symm.trans hbx
      simp only [Option.some.injEq, Obj.cells.injEq] at h9
      have h8 := h9.1
      simp only [Array.mk.injEq, List.cons.injEq, and_true] at h8
      exact h8
    rw [e7] at hgx
    clear e7 hb7
    have B3 := Ke.h hB
    have r_bx3 : Hid (W3.heap[w.heap.size + 1]? = some (.cells #[.slice a8 L8 c8] 29 (0, 0))) := hbx
    have r_x3 : Hid (W3.heap[g]? = some (.cells #[.string x.path, .int .i64 x.a, .int .i64 x.b, .int .i64 x.c, .string x.pre] 38 (0, 0))) := rx
    have hpl : pre.length ≤ 1000000000 := by omega
    obtain ⟨T, hT, hTl⟩ : ∃ T : List Nd, pre.map Subtype.val = T ∧ T.length ≤ 1000000000 := ⟨_, rfl, by rw [List.length_map]; exact hpl⟩
    rw [hT] at hod
    have HT := Ke.h hT
    have f_d3 : Hid (Odt W3 W2.heap.size hi9 (.slice a8 L8 c8) T) := ⟨hod, hhi⟩
    clear hT
    have f_K3 : Hid (Kz9 w.heap.size [w.heap.size, W1.heap.size, W1.heap.size + 1] W3 W3) := Kz9.refl hB.size
    have HP : Hid (Boxed W3 w.heap.size 24 (.slice ae E.length ce)) := hp
    have HGX := Ke.h hgx
    have k1 : T.length + 1 ≤ maxLen := by unfold maxLen; omega
    have k2 : (T.length + 1) * 56 ≤ 140737488355328 := by omega
    have hB2s := B2.size
    have hB3s := hB.size
    clear hp hbx hod hB rx hgx
    have c_bx3 := Ke.c r_bx3
    have c_x3 := Ke.c r_x3
    gi_wp2_with fail
    refine region_round (S := fun w' => (∀ j, w'.cell? ⟨g, j, none⟩ = #[.string x.path, .int .i64 x.a, .int .i64 x.b, .int .i64 x.c, .string x.pre][j]?)) (by kernel_rfl) (by kernel_rfl) (by rintro ⟨_, _, h9⟩; exact h9) c_x3 (fun hHeld => ?_)
    obtain ⟨W4, HW4, b4⟩ : ∃ X, Hid (W3.drew = X) ∧ Below W3.heap.size W3 X := ⟨_, rfl, Below.drew (Below.refl _ _)⟩
    have HHW4 := HW4.out
    rw [HHW4] at hHeld ⊢
    clear HHW4
    have z4 := b4.size
    have B4 := Ke.b B3 b4
    have r_bx4 := Ke.r r_bx3 b4
    have r_x4 := Ke.r r_x3 b4
    have c_bx4 := Ke.c r_bx4
    have c_x4 := Ke.c r_x4
    clear r_bx3 c_bx3 r_x3 c_x3
    have f_d4 : Hid (Odt W4 W2.heap.size hi9 (.slice a8 L8 c8) T) := Odt.later f_d3.out b4
    have f_K4 : Hid (Kz9 w.heap.size [w.heap.size, W1.heap.size, W1.heap.size + 1] W3 W4) := Kz9.later f_K3.out b4
    clear f_d3 f_K3
    refine Ke.y 1 rfl (fun _ _ _ h => h) ?_
    try simp only [Act.put, pu1, pu2, pu3, pu4, pu5, pu6]
    refine wpAnyH_ready (rs := [0, 2]) (by kernel_rfl) (by simp) ?_
    refine AllReadyH.cons rfl (fun K hK => ?_) (AllReadyH.cons rfl (fun K hK => ?_) AllReadyH.nil)
    · go_simp
      refine hK.out _ _ hHeld (fun hHeld => ?_)
      clear hK K
      try simp only [Act.put, pu1, pu2, pu3, pu4, pu5, pu6]
      refine Ke.z 2 rfl (fun K hK => ?_)
      go_simp
      refine (ownn_impl W4 x f1 f2).mono ?_
      rintro e W5 ⟨rfl, b5⟩
      refine hK.out _ _ (Ke.k (W := W4) hHeld b5) (fun hHeld => ?_)
      clear hK K
      try simp only [Act.put, pu1, pu2, pu3, pu4, pu5, pu6]
      have z5 := b5.size
      have B5 := Ke.b B4 b5
      have r_bx5 := Ke.r r_bx4 b5
      have r_x5 := Ke.r r_x4 b5
      have c_bx5 := Ke.c r_bx5
      have c_x5 := Ke.c r_x5
      clear r_bx4 c_bx4 r_x4 c_x4
      have f_d5 : Hid (Odt W5 W2.heap.size hi9 (.slice a8 L8 c8) T) := Odt.later f_d4.out b5
      have f_K5 : Hid (Kz9 w.heap.size [w.heap.size, W1.heap.size, W1.heap.size + 1] W3 W5) := Kz9.later f_K4.out b5
      clear f_d4 f_K4
      refine Ke.z 3 rfl (fun K hK => ?_)
      go_simp
      refine hK.out _ _ (Ke.k (W := W5) hHeld ((Below.refl _ _).alloc (Nat.le_refl _) _)) (fun hHeld => ?_)
      clear hK K
      try simp only [Act.put, pu1, pu2, pu3, pu4, pu5, pu6]
      obtain ⟨W6, HW6, b6, ff6⟩ : ∃ X, Hid ((W5.alloc (.cells #[.string x.path, .int .i64 x.a, .int .i64 x.b, .int .i64 x.c, .string x.pre] 38)) = X) ∧ Below W5.heap.size W5 X ∧ Hid (Sn 5 X (.slice (some ⟨W5.heap.size, 0, none⟩) 1 1) 1 (nc x).toList) := ⟨_, rfl, ((Below.refl _ _).alloc (Nat.le_refl _) _), Sn.one9 W5 x⟩
      have HHW6 := HW6.out
      rw [HHW6] at hHeld ⊢
      clear HHW6
      have z6 := b6.size
      have B6 := Ke.b B5 b6
      have r_bx6 := Ke.r r_bx5 b6
      have r_x6 := Ke.r r_x5 b6
      have c_bx6 := Ke.c r_bx6
      have c_x6 := Ke.c r_x6
      clear r_bx5 c_bx5 r_x5 c_x5
      have f_d6 : Hid (Odt W6 W2.heap.size hi9 (.slice a8 L8 c8) T) := Odt.later f_d5.out b6
      have f_K6 : Hid (Kz9 w.heap.size [w.heap.size, W1.heap.size, W1.heap.size + 1] W3 W6) := Kz9.later f_K5.out b6
      clear f_d5 f_K5
      have f_t6 : Hid (Sn 5 W6 (.slice (some ⟨W5.heap.size, 0, none⟩) 1 1) 1 (nc x).toList) := ff6.out
      clear ff6
      refine Ke.z 4 rfl (fun K hK => ?_)
      refine step_appm 5 (by omega) rfl (.tmp 11) (.tmp 14) 29 (by rfl) 38 i0 (.agg #[.string ⟨#[]⟩, .int .i64 0, .int .i64 0, .int .i64 0, .string ⟨#[]⟩]) 56 Try.underlying29 hi hz0 hz1 hz2 rfl W2.heap.size _ T.length (nds T) (by rfl) (Odt.wide f_d6.out (Nat.le_refl _)) _ (by rfl) 1 (nc x).toList f_t6.out (nc_ones x) k1 k2 (by omega) ?_
      intro v9 W7 o9 g7
      refine hK.out _ _ (Ke.g hHeld g7 HGX.out) (fun hHeld => ?_)
      clear hK K
      try simp only [Act.put, pu1, pu2, pu3, pu4, pu5, pu6]
      have f_d7 : Hid (Odt W7 W2.heap.size W7.heap.size v9 (T ++ [x])) := ⟨snocD o9, Nat.le_refl _⟩
      clear o9
      have z7 := g7.size
      have B7 : Hid (Below w.heap.size w W7) := belowGro B6.out g7 B6.out.size (fun k9 h9 => by have h8 := (On.lt f_d6.out.1 h9).1; omega)
      have f_K7 : Hid (Kz9 w.heap.size [w.heap.size, W1.heap.size, W1.heap.size + 1] W3 W7) := Kz9.own f_K6.out f_d6.out.1 g7 (by omega) (by intro b9 hb9; simp only [List.mem_cons, List.not_mem_nil, or_false] at hb9; omega)
      have r_bx7 : Hid (W7.heap[w.heap.size + 1]? = some (.cells #[.slice a8 L8 c8] 29 (0, 0))) := rowGro r_bx6.out g7 (On.neRow f_d6.out.1 r_bx6.out (by decide))
      obtain ⟨ao9, L9, cap9, rfl⟩ : ∃ ao9 L9 cap9, v9 = .slice ao9 L9 cap9 := by obtain ⟨a9, c9, e9⟩ := On.slice f_d7.out.1; exact ⟨a9, _, c9, e9⟩
      have c_bx7 := Ke.c r_bx7
      clear r_bx6 c_bx6
      clear f_d6 f_t6 f_K6 g7 r_x6 c_x6
      refine Ke.z 5 rfl (fun K hK => ?_)
      rw [if_pos (by rfl)]
      refine wp_oneG 29 _ _ rfl (w.heap.size + 1) 0 (.slice ao9 L9 cap9) rfl rfl [.slice a8 L8 c8] 29 r_bx7.out (Nat.le_of_ble_eq_true rfl) (by kernel_rfl) rfl [.slice ao9 L9 cap9] rfl ?_
      intro W8 r_bx8 g8
      refine hK.out _ _ (Ke.g hHeld g8 (by intro h9; injection h9 with h9; omega)) (fun hHeld => ?_)
      clear hK K
      try simp only [Act.put, pu1, pu2, pu3, pu4, pu5, pu6]
      have zz := g8.size
      have HB9 := Ke.h (belowGro B7.out g8 B7.out.size (fun k9 h9 => by injection h9 with h9; omega))
      have HK9 := Ke.h (Kz9.row f_K7.out r_bx7.out g8 (by omega) (by intro b9 hb9; simp only [List.mem_cons, List.not_mem_nil, or_false] at hb9; omega))
      have HD9 := Ke.h (On.keep1 f_d7.out.1 (fun j hj => g8.block j (On.lt f_d7.out.1 hj).2.2 (fun e9 => On.neRow f_d7.out.1 r_bx7.out (by decide) (hj.trans e9))))
      have HR9 := Ke.h r_bx8
      have HP9 := Ke.h (HK9.out.2.2.2 w.heap.size (by simp) _ _ HP.out)
      refine wpAnyH_done (by kernel_rfl) ?_ _
      clear hHeld
      gi_wp2
      exact ⟨HK9.out.2.1.from _, HK9.out.2.2, ⟨HP9.out, ao9, L9, cap9, _, HR9.out, by rw [List.map_append, HT.out]; exact HD9.out, by omega, by omega⟩, HB9.out⟩
    · go_simp
      refine (ownn_impl W4 x f1 f2).mono ?_
      rintro e W5 ⟨rfl, b5⟩
      refine hK.out _ _ (Ke.k (W := W4) hHeld b5) (fun hHeld => ?_)
      clear hK K
      try simp only [Act.put, pu1, pu2, pu3, pu4, pu5, pu6]
      have z5 := b5.size
      have B5 := Ke.b B4 b5
      have r_bx5 := Ke.r r_bx4 b5
      have r_x5 := Ke.r r_x4 b5
      have c_bx5 := Ke.c r_bx5
      have c_x5 := Ke.c r_x5
      clear r_bx4 c_bx4 r_x4 c_x4
      have f_d5 : Hid (Odt W5 W2.heap.size hi9 (.slice a8 L8 c8) T) := Odt.later f_d4.out b5
      have f_K5 : Hid (Kz9 w.heap.size [w.heap.size, W1.heap.size, W1.heap.size + 1] W3 W5) := Kz9.later f_K4.out b5
      clear f_d4 f_K4
      refine wpAnyH_ready (rs := [0, 3]) (by kernel_rfl) (by simp) ?_
      refine AllReadyH.cons rfl (fun K hK => ?_) (AllReadyH.cons rfl (fun K hK => ?_) AllReadyH.nil)
      · go_simp
        refine hK.out _ _ hHeld (fun hHeld => ?_)
        clear hK K
        try simp only [Act.put, pu1, pu2, pu3, pu4, pu5, pu6]
        refine Ke.z 3 rfl (fun K hK => ?_)
        go_simp
        refine hK.out _ _ (Ke.k (W := W5) hHeld ((Below.refl _ _).alloc (Nat.le_refl _) _)) (fun hHeld => ?_)
        clear hK K
        try simp only [Act.put, pu1, pu2, pu3, pu4, pu5, pu6]
        obtain ⟨W6, HW6, b6, ff6⟩ : ∃ X, Hid ((W5.alloc (.cells #[.string x.path, .int .i64 x.a, .int .i64 x.b, .int .i64 x.c, .string x.pre] 38)) = X) ∧ Below W5.heap.size W5 X ∧ Hid (Sn 5 X (.slice (some ⟨W5.heap.size, 0, none⟩) 1 1) 1 (nc x).toList) := ⟨_, rfl, ((Below.refl _ _).alloc (Nat.le_refl _) _), Sn.one9 W5 x⟩
        have HHW6 := HW6.out
        rw [HHW6] at hHeld ⊢
        clear HHW6
        have z6 := b6.size
        have B6 := Ke.b B5 b6
        have r_bx6 := Ke.r r_bx5 b6
        have r_x6 := Ke.r r_x5 b6
        have c_bx6 := Ke.c r_bx6
        have c_x6 := Ke.c r_x6
        clear r_bx5 c_bx5 r_x5 c_x5
        have f_d6 : Hid (Odt W6 W2.heap.size hi9 (.slice a8 L8 c8) T) := Odt.later f_d5.out b6
        have f_K6 : Hid (Kz9 w.heap.size [w.heap.size, W1.heap.size, W1.heap.size + 1] W3 W6) := Kz9.later f_K5.out b6
        clear f_d5 f_K5
        have f_t6 : Hid (Sn 5 W6 (.slice (some ⟨W5.heap.size, 0, none⟩) 1 1) 1 (nc x).toList) := ff6.out
        clear ff6
        refine Ke.z 4 rfl (fun K hK => ?_)
        refine step_appm 5 (by omega) rfl (.tmp 11) (.tmp 14) 29 (by rfl) 38 i0 (.agg #[.string ⟨#[]⟩, .int .i64 0, .int .i64 0, .int .i64 0, .string ⟨#[]⟩]) 56 Try.underlying29 hi hz0 hz1 hz2 rfl W2.heap.size _ T.length (nds T) (by rfl) (Odt.wide f_d6.out (Nat.le_refl _)) _ (by rfl) 1 (nc x).toList f_t6.out (nc_ones x) k1 k2 (by omega) ?_
        intro v9 W7 o9 g7
        refine hK.out _ _ (Ke.g hHeld g7 HGX.out) (fun hHeld => ?_)
        clear hK K
        try simp only [Act.put, pu1, pu2, pu3, pu4, pu5, pu6]
        have f_d7 : Hid (Odt W7 W2.heap.size W7.heap.size v9 (T ++ [x])) := ⟨snocD o9, Nat.le_refl _⟩
        clear o9
        have z7 := g7.size
        have B7 : Hid (Below w.heap.size w W7) := belowGro B6.out g7 B6.out.size (fun k9 h9 => by have h8 := (On.lt f_d6.out.1 h9).1; omega)
        have f_K7 : Hid (Kz9 w.heap.size [w.heap.size, W1.heap.size, W1.heap.size + 1] W3 W7) := Kz9.own f_K6.out f_d6.out.1 g7 (by omega) (by intro b9 hb9; simp only [List.mem_cons, List.not_mem_nil, or_false] at hb9; omega)
        have r_bx7 : Hid (W7.heap[w.heap.size + 1]? = some (.cells #[.slice a8 L8 c8] 29 (0, 0))) := rowGro r_bx6.out g7 (On.neRow f_d6.out.1 r_bx6.out (by decide))
        obtain ⟨ao9, L9, cap9, rfl⟩ : ∃ ao9 L9 cap9, v9 = .slice ao9 L9 cap9 := by obtain ⟨a9, c9, e9⟩ := On.slice f_d7.out.1; exact ⟨a9, _, c9, e9⟩
        have c_bx7 := Ke.c r_bx7
        clear r_bx6 c_bx6
        clear f_d6 f_t6 f_K6 g7 r_x6 c_x6
        refine Ke.z 5 rfl (fun K hK => ?_)
        rw [if_pos (by rfl)]
        refine wp_oneG 29 _ _ rfl (w.heap.size + 1) 0 (.slice ao9 L9 cap9) rfl rfl [.slice a8 L8 c8] 29 r_bx7.out (Nat.le_of_ble_eq_true rfl) (by kernel_rfl) rfl [.slice ao9 L9 cap9] rfl ?_
        intro W8 r_bx8 g8
        refine hK.out _ _ (Ke.g hHeld g8 (by intro h9; injection h9 with h9; omega)) (fun hHeld => ?_)
        clear hK K
        try simp only [Act.put, pu1, pu2, pu3, pu4, pu5, pu6]
        have zz := g8.size
        have HB9 := Ke.h (belowGro B7.out g8 B7.out.size (fun k9 h9 => by injection h9 with h9; omega))
        have HK9 := Ke.h (Kz9.row f_K7.out r_bx7.out g8 (by omega) (by intro b9 hb9; simp only [List.mem_cons, List.not_mem_nil, or_false] at hb9; omega))
        have HD9 := Ke.h (On.keep1 f_d7.out.1 (fun j hj => g8.block j (On.lt f_d7.out.1 hj).2.2 (fun e9 => On.neRow f_d7.out.1 r_bx7.out (by decide) (hj.trans e9))))
        have HR9 := Ke.h r_bx8
        have HP9 := Ke.h (HK9.out.2.2.2 w.heap.size (by simp) _ _ HP.out)
        refine wpAnyH_done (by kernel_rfl) ?_ _
        clear hHeld
        gi_wp2
        exact ⟨HK9.out.2.1.from _, HK9.out.2.2, ⟨HP9.out, ao9, L9, cap9, _, HR9.out, by rw [List.map_append, HT.out]; exact HD9.out, by omega, by omega⟩, HB9.out⟩
      · go_simp
        refine hK.out _ _ (Ke.k (W := W5) hHeld ((Below.refl _ _).alloc (Nat.le_refl _) _)) (fun hHeld => ?_)
        clear hK K
        try simp only [Act.put, pu1, pu2, pu3, pu4, pu5, pu6]
        obtain ⟨W6, HW6, b6, ff6⟩ : ∃ X, Hid ((W5.alloc (.cells #[.string x.path, .int .i64 x.a, .int .i64 x.b, .int .i64 x.c, .string x.pre] 38)) = X) ∧ Below W5.heap.size W5 X ∧ Hid (Sn 5 X (.slice (some ⟨W5.heap.size, 0, none⟩) 1 1) 1 (nc x).toList) := ⟨_, rfl, ((Below.refl _ _).alloc (Nat.le_refl _) _), Sn.one9 W5 x⟩
        have HHW6 := HW6.out
        rw [HHW6] at hHeld ⊢
        clear HHW6
        have z6 := b6.size
        have B6 := Ke.b B5 b6
        have r_bx6 := Ke.r r_bx5 b6
        have r_x6 := Ke.r r_x5 b6
        have c_bx6 := Ke.c r_bx6
        have c_x6 := Ke.c r_x6
        clear r_bx5 c_bx5 r_x5 c_x5
        have f_d6 : Hid (Odt W6 W2.heap.size hi9 (.slice a8 L8 c8) T) := Odt.later f_d5.out b6
        have f_K6 : Hid (Kz9 w.heap.size [w.heap.size, W1.heap.size, W1.heap.size + 1] W3 W6) := Kz9.later f_K5.out b6
        clear f_d5 f_K5
        have f_t6 : Hid (Sn 5 W6 (.slice (some ⟨W5.heap.size, 0, none⟩) 1 1) 1 (nc x).toList) := ff6.out
        clear ff6
        refine Ke.z 0 rfl (fun K hK => ?_)
        go_simp
        refine hK.out _ _ hHeld (fun hHeld => ?_)
        clear hK K
        try simp only [Act.put, pu1, pu2, pu3, pu4, pu5, pu6]
        refine Ke.z 4 rfl (fun K hK => ?_)
        refine step_appm 5 (by omega) rfl (.tmp 11) (.tmp 14) 29 (by rfl) 38 i0 (.agg #[.string ⟨#[]⟩, .int .i64 0, .int .i64 0, .int .i64 0, .string ⟨#[]⟩]) 56 Try.underlying29 hi hz0 hz1 hz2 rfl W2.heap.size _ T.length (nds T) (by rfl) (Odt.wide f_d6.out (Nat.le_refl _)) _ (by rfl) 1 (nc x).toList f_t6.out (nc_ones x) k1 k2 (by omega) ?_
        intro v9 W7 o9 g7
        refine hK.out _ _ (Ke.g hHeld g7 HGX.out) (fun hHeld => ?_)
        clear hK K
        try simp only [Act.put, pu1, pu2, pu3, pu4, pu5, pu6]
        have f_d7 : Hid (Odt W7 W2.heap.size W7.heap.size v9 (T ++ [x])) := ⟨snocD o9, Nat.le_refl _⟩
        clear o9
        have z7 := g7.size
        have B7 : Hid (Below w.heap.size w W7) := belowGro B6.out g7 B6.out.size (fun k9 h9 => by have h8 := (On.lt f_d6.out.1 h9).1; omega)
        have f_K7 : Hid (Kz9 w.heap.size [w.heap.size, W1.heap.size, W1.heap.size + 1] W3 W7) := Kz9.own f_K6.out f_d6.out.1 g7 (by omega) (by intro b9 hb9; simp only [List.mem_cons, List.not_mem_nil, or_false] at hb9; omega)
        have r_bx7 : Hid (W7.heap[w.heap.size + 1]? = some (.cells #[.slice a8 L8 c8] 29 (0, 0))) := rowGro r_bx6.out g7 (On.neRow f_d6.out.1 r_bx6.out (by decide))
        obtain ⟨ao9, L9, cap9, rfl⟩ : ∃ ao9 L9 cap9, v9 = .slice ao9 L9 cap9 := by obtain ⟨a9, c9, e9⟩ := On.slice f_d7.out.1; exact ⟨a9, _, c9, e9⟩
        have c_bx7 := Ke.c r_bx7
        clear r_bx6 c_bx6
        clear f_d6 f_t6 f_K6 g7 r_x6 c_x6
        refine Ke.z 5 rfl (fun K hK => ?_)
        rw [if_pos (by rfl)]
        refine wp_oneG 29 _ _ rfl (w.heap.size + 1) 0 (.slice ao9 L9 cap9) rfl rfl [.slice a8 L8 c8] 29 r_bx7.out (Nat.le_of_ble_eq_true rfl) (by kernel_rfl) rfl [.slice ao9 L9 cap9] rfl ?_
        intro W8 r_bx8 g8
        refine hK.out _ _ (Ke.g hHeld g8 (by intro h9; injection h9 with h9; omega)) (fun hHeld => ?_)
        clear hK K
        try simp only [Act.put, pu1, pu2, pu3, pu4, pu5, pu6]
        have zz := g8.size
        have HB9 := Ke.h (belowGro B7.out g8 B7.out.size (fun k9 h9 => by injection h9 with h9; omega))
        have HK9 := Ke.h (Kz9.row f_K7.out r_bx7.out g8 (by omega) (by intro b9 hb9; simp only [List.mem_cons, List.not_mem_nil, or_false] at hb9; omega))
        have HD9 := Ke.h (On.keep1 f_d7.out.1 (fun j hj => g8.block j (On.lt f_d7.out.1 hj).2.2 (fun e9 => On.neRow f_d7.out.1 r_bx7.out (by decide) (hj.trans e9))))
        have HR9 := Ke.h r_bx8
        have HP9 := Ke.h (HK9.out.2.2.2 w.heap.size (by simp) _ _ HP.out)
        refine wpAnyH_done (by kernel_rfl) ?_ _
        clear hHeld
        gi_wp2
        exact ⟨HK9.out.2.1.from _, HK9.out.2.2, ⟨HP9.out, ao9, L9, cap9, _, HR9.out, by rw [List.map_append, HT.out]; exact HD9.out, by omega, by omega⟩, HB9.out⟩
  case done =>
    rintro D ys W hD hy ⟨⟨hp, a8, L8, c8, hi9, hbx, hod, h29, hhi⟩, hB⟩ hK
    have hV : Hid (ys.map Subtype.val = lack15 (E.map Ev.n) l) := by
      show _ = _
      rw [hy]
      exact lack_pred E l
    have k0 := hbx.cell
    gi_wp2
    refine ⟨by simp, .inl ⟨_, _, rfl, run_takeDeferred hK, ?_⟩⟩
    have gr := grownBy_putObj' W D (.deferred none)
    have hgr : ∀ r, some D = some r → ∃ o : Obj, W.heap[r]? = some o ∧ o.isCells = false := fun r e => by cases e; exact ⟨_, hK, rfl⟩
    have o6 := On.turn hod gr hgr
    rw [hV.out] at o6
    have B6 : Below w.heap.size w (W.putObj D (.deferred none)) := hB.trans (belowK_b (w := w) (Nat.le_refl _) W D _ _ (by have := B2.size; omega) hK rfl rfl)
    exact ⟨_, results_tmp rfl _ _ _, _, rfl, On.mono o6 B2.size (Nat.le_trans hhi gr.size), B6⟩
  case stop =>
    rintro D c pre W hD hpre h9 hK
    exact h9.elim

theorem lacking_impl (w : World) (ve v : Value) (E : List Ev) (l : List Nd) (hE : Se w ve E) (hEl : E.length ≤ 1000000000) (h : Sd w v l) (hl : l.length ≤ 1000000000) (hz : ∀ x ∈ l, x.path.size ≤ 1000000000000 ∧ x.pre.size ≤ 1000000000000) :
    Calls Try.prog 12 #[ve, v] w fun e w' => ∃ v', e = .returned v' ∧ Od w' w.heap.size w'.heap.size v' (lack15 (E.map Ev.n) l) ∧ Below w.heap.size w w' := callsIn_wide.1 (lacking_in w ve v E l hE hEl h hl hz)

end Go.Proofs.Ytpfiaginonnjmaa.Fe
