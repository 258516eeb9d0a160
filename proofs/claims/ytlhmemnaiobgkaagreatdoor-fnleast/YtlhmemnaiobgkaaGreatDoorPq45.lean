/- Texts in one: Gs6. -/
import Derived.Test.YtlhmemnaiobgkaaGreatDoorPq41
/- Chapter 15, the landed code: VersionsOf. -/
namespace Go.Proofs.YtlhmemnaiobgkaaGreatDoor.Fe
open Go.RowKit Go.Shelf Go.Proofs.YtlhmemnaiobgkaaGreatDoor.Mem Go.Proofs.YtlhmemnaiobgkaaGreatDoor.Laws Go.Proofs.YtlhmemnaiobgkaaGreatDoor.Ver Go.Proofs.YtlhmemnaiobgkaaGreatDoor.Ent
set_option linter.unusedVariables false
set_option linter.unusedSimpArgs false
attribute [local go_sem] Oper.semAt_some

/-- what a round keeps, for the iterator and for the loop -/
def Kz9 (n0 : Nat) (bs : List Nat) (A B : World) : Prop := n0 ≤ A.heap.size ∧ KeepsOthers A B ∧ Ks n0 bs A B
theorem Kz9.refl {n0 : Nat} {bs : List Nat} {A : World} (h : n0 ≤ A.heap.size) : Kz9 n0 bs A A := ⟨h, KeepsOthers.refl A, Below.refl _ _, fun b hb t v hv => hv⟩
theorem Kz9.later {n0 : Nat} {bs : List Nat} {A B C : World} (h : Kz9 n0 bs A B) (b : Below B.heap.size B C) : Kz9 n0 bs A C :=
  ⟨h.1, h.2.1.trans (others_below9 b), Ks_t h.2.2 (Ks_below b (Nat.le_trans h.1 h.2.2.1.size))⟩
theorem Kz9.gro {n0 : Nat} {bs : List Nat} {A B C : World} {r : Option Nat} (h : Kz9 n0 bs A B) (g : B.grownBy C r) (h1 : ∀ k, r = some k → n0 ≤ k) (h2 : ∀ b ∈ bs, r ≠ some b) (h3 : ∀ (j : Nat) (o : Obj), r = some j → B.heap[j]? = some o → o.isCells = true) : Kz9 n0 bs A C :=
  ⟨h.1, h.2.1.trans (KeepsOthers.of_grownBy g h3), Ks_t h.2.2 ⟨belowGro (Below.refl _ _) g (Nat.le_trans h.1 h.2.2.1.size) h1, fun b hb t v hv => rowGro hv g (h2 b hb)⟩⟩
theorem Kz9.row {n0 : Nat} {bs : List Nat} {A B C : World} {x : Nat} {cs : Array Value} {t : TypeId} {fr : Nat × Nat} (h : Kz9 n0 bs A B) (hr : B.heap[x]? = some (.cells cs t fr)) (g : B.grownBy C (some x)) (h1 : n0 ≤ x) (h2 : ∀ b ∈ bs, b ≠ x) : Kz9 n0 bs A C :=
  h.gro g (fun k e => by injection e; omega) (fun b hb e => by injection e with e; exact h2 b hb e.symm) (fun j o ej hj => by cases ej; rw [hr] at hj; cases hj; rfl)
theorem Kz9.own {n0 n m : Nat} {bs : List Nat} {A B C : World} {lo hi : Nat} {e : TypeId} {v : Value} {cs : List Value} (h : Kz9 n0 bs A B) (o : On n B lo hi e v m cs) (g : B.grownBy C v.ownBlock) (h1 : n0 ≤ lo) (h2 : ∀ b ∈ bs, b < lo) : Kz9 n0 bs A C :=
  h.gro g (fun k e => by have := On.lt o e; omega) (fun b hb e => by have := On.lt o e; have := h2 b hb; omega) (fun j o9 ej hj => by
    rcases o.1.2 with ⟨rfl, _⟩ | ⟨g9, cap, cur, rfl, _, hgb, _⟩
    · simp [Value.ownBlock] at ej
    · simp [Value.ownBlock] at ej
      subst ej
      rw [hgb] at hj
      cases hj
      rfl)
/-- versions that are owned, and end ahead of what is new -/
def Owt (w : World) (lo hi : Nat) (v : Value) (l : List Nd) : Prop := Ow w lo hi v l ∧ hi ≤ w.heap.size
theorem Owt.later {w w' : World} {lo hi : Nat} {v : Value} {l : List Nd} (h : Owt w lo hi v l) (b : Below w.heap.size w w') : Owt w' lo hi v l := ⟨On.later h.1 b h.2, Nat.le_trans h.2 b.size⟩
theorem Owt.wide {w : World} {lo hi lo' : Nat} {v : Value} {l : List Nd} (h : Owt w lo hi v l) (h1 : lo' ≤ lo) : Ow w lo' w.heap.size v l := On.mono h.1 h1 h.2
theorem snocW {w : World} {lo hi : Nat} {v : Value} {l : List Nd} {n : Nd} (o : On 4 w lo hi 32 v (l.length + 1) (vcs l ++ (vc n).toList)) : Ow w lo hi v (l ++ [n]) := Ow.snoc o
theorem snocD {w : World} {lo hi : Nat} {v : Value} {l : List Nd} {n : Nd} (o : On 5 w lo hi 38 v (l.length + 1) (nds l ++ (nc n).toList)) : Od w lo hi v (l ++ [n]) := Od.snoc o
theorem nc_ones (n : Nd) : ∀ u ∈ (nc n).toList, u.oneCell' = true := cs_oneN n

set_option maxRecDepth 1000000 in
set_option maxHeartbeats 4000000 in
theorem path_impl (w : World) (p : ByteArray) (x : Nd) (u : Value) (g : Nat) (hg : Boxed w g 9 (.string p)) :
    Calls Tryz.prog 53 #[.agg #[.string x.path, .int .i64 x.a, .int .i64 x.b, .int .i64 x.c, .string x.pre, u], .pointer (some ⟨g, 0, none⟩)] w fun e w' => e = .returned (.bool (x.path.toList == p.toList)) ∧ Below w.heap.size w w' := by
  obtain ⟨W1, HW1, b1, y1, hS1, r1⟩ := Ke.l1 w #[.string x.path, .int .i64 x.a, .int .i64 x.b, .int .i64 x.c, .string x.pre, u] 34
  have a2 : ∀ ob, (w.alloc ob).cell? ⟨g, 0, none⟩ = some (.string p) := fun ob => (Boxed.alloc hg ob).cell
  go_enter Tryz.func53, Tryz.ntmps53
  go_wp2
  go_ret
  exact ⟨rfl, by first | exact b1 | (rw [HW1.out]; exact b1)⟩

set_option maxRecDepth 1000000 in
set_option maxHeartbeats 4000000 in
theorem stops_path (n : Nat) (hn : 1 ≤ n) (we w : World) (hwe : Below we.heap.size we w) (v : Value) (l : List Ev) (h : Se we v l) (hl : l.length ≤ 1000000000000) (p : ByteArray) (g : Nat) (b : Nat) (hb : we.heap.size ≤ b) (x1 : Boxed w b 24 v) (x3 : Boxed w g 9 (.string p)) (x2 : Boxed w (b + 1) 71 (.func (.func 53) #[] #[.pointer (some ⟨g, 0, none⟩)])) :
    SeqStopsK Fence.wide n Tryz.prog 77 #[.pointer (some ⟨b, 0, none⟩), .pointer (some ⟨b + 1, 0, none⟩)] (fun x : { x // x ∈ l } => #[.agg #[.string x.1.n.path, .int .i64 x.1.n.a, .int .i64 x.1.n.b, .int .i64 x.1.n.c, .string x.1.n.pre, x.1.u]]) (Ks we.heap.size [g, b, b + 1])
      (fun xs => xs.map Subtype.val = l.filter (fun x => x.n.path.toList == p.toList)) (fun pre => pre.map Subtype.val <+: l.filter (fun x => x.n.path.toList == p.toList)) (l.length + 1) w := fun lr J Jx W hW hJ hJx hY h0 => by
  have HS : Hid (Se we v l) := h
  obtain ⟨ao, cap, rfl, hcap⟩ := h.form
  have hBW : Below we.heap.size we W := hwe.trans (hW.mono hwe.size)
  have c1 := (Boxed.same9 x1 hW).cell
  have X1 : Hid (Boxed W b 24 (.slice ao l.length cap)) := Boxed.same9 x1 hW
  have X2 : Hid (Boxed W (b + 1) 71 (.func (.func 53) #[] #[.pointer (some ⟨g, 0, none⟩)])) := Boxed.same9 x2 hW
  have hJb : ∀ (pre : List { x // x ∈ l }) (V V' : World), J pre V → Below V.heap.size V V' → J pre V' := fun pre V V' hj hB => hJ pre V V' none hj (grown_below9 hB) (fun r e => by cases e)
  have X3 : Hid (Boxed W g 9 (.string p)) := Boxed.same9 x3 hW
  clear x1 x2 x3 h
  refine callsIn_of_wp Tryz.func77 rfl trivial ?_ rfl
  simp only [Tryz.ntmps77, List.size_toArray, List.length_cons, List.length_nil, Nat.reduceAdd, Nat.reduceSub, Array.replicate_succ, Array.replicate_zero, List.push_toArray, List.append_toArray, List.nil_append, List.cons_append]
  gi_wp2
  gi_loopw [8] (fun i wr => ∃ (k : Nat) (Q : List { x // x ∈ l }), k ≤ l.length ∧ i = .int .i64 (k : Int) ∧ Hid (Q.map Subtype.val = (l.take k).filter (fun x => x.n.path.toList == p.toList)) ∧ J Q wr ∧ Hid (Below we.heap.size we wr) ∧ Hid (Boxed wr (b + 1) 71 (.func (.func 53) #[] #[.pointer (some ⟨g, 0, none⟩)])) ∧ Hid (Boxed wr b 24 (.slice ao l.length cap)) ∧ Hid (Boxed wr g 9 (.string p))) (fun i _ => l.length - (intOf i).toNat)
  case atStart => exact ⟨0, [], Nat.zero_le _, rfl, by show _ = _; simp, h0, hBW, X2, X1, X3⟩
  case round =>
    obtain ⟨k, Q, hk, rfl, HQ, hj, HB, X2, X1, X3⟩ := hrel
    clear hBW c1
    by_cases hlt : k < l.length
    · obtain ⟨x, hx⟩ : ∃ x, l[k]? = some x := ⟨l[k], by simp [hlt]⟩
      have hmem : x ∈ l := List.mem_of_getElem? hx
      obtain ⟨b9, off, cap9, he, _, m0, m1, m2, m3, m4, m5, hsd⟩ := Se.at (HS.out.later HB.out) hx
      simp only [Value.slice.injEq] at he
      obtain ⟨rfl, _, rfl⟩ := he
      have HX : Hid (l[k]? = some x) := hx
      have HQL : Hid (Q.length ≤ k) := len_filter HQ.out hk
      obtain ⟨au, Lu, cu, hu⟩ : ∃ au Lu cu, x.u = .slice au Lu cu := by
        obtain ⟨_, au, cu, hu, _⟩ := hsd
        exact ⟨au, _, cu, hu⟩
      have hy0 := hY Q ⟨x, hmem⟩
      dsimp only at hy0
      rw [hu] at m5 hy0
      clear hx hsd
      -- the loop's variable
      obtain ⟨W1, HW1, b1, y1, hS1, r1⟩ := Ke.l1 wr #[.string x.n.path, .int .i64 x.n.a, .int .i64 x.n.b, .int .i64 x.n.c, .string x.n.pre, .slice au Lu cu] 34
      have hlt2 : (k : Int) < (l.length : Int) := by omega
      have a2 : ∀ ob, (wr.alloc ob).cell? ⟨b + 1, 0, none⟩ = some _ := fun ob => (Boxed.alloc X2.out ob).cell
      have B1 := Ke.b HB b1
      have X21 := Ke.h (Boxed.same9 X2.out b1)
      have X11 := Ke.h (Boxed.same9 X1.out b1)
      have X31 := Ke.h (Boxed.same9 X3.out b1)
      have hj1 := hJb Q _ _ hj b1
      have hq := fun W (hB : Below we.heap.size we W) (hg : Boxed W g 9 (.string p)) => path_impl W p x.n (.slice au Lu cu) g hg
      clear X1 X2 X3 HB hj
      have hnq : (x.n.path.toList == p.toList) = (x.n.path.toList == p.toList) := rfl
      obtain ⟨P, hP⟩ : ∃ P, (x.n.path.toList == p.toList) = P := ⟨_, rfl⟩
      rw [hP] at hq
      have HP : Hid ((x.n.path.toList == p.toList) = P) := hP
      clear hP hnq
      gi_wp2_with fail
      refine ⟨trivial, ?_⟩
      rw [HW1.out]
      refine (callsIn_wide.2 (hq _ B1.out X31.out)).mono ?_
      rintro e w2 ⟨rfl, b2⟩
      have B2 := Ke.b B1 b2
      have X22 := Ke.h (Boxed.same9 X21.out b2)
      have X12 := Ke.h (Boxed.same9 X11.out b2)
      have X32 := Ke.h (Boxed.same9 X31.out b2)
      have hj2 := hJb Q _ _ hj1 b2
      have r2 := Ke.r r1 b2
      have c2 := Ke.c r2
      clear B1 X21 X11 X31 hj1 r1 b2 hq HW1 b1 y1 hS1 a2 m0 m1 m2 m3 m4 m5
      have HQ2 := map_filter_snoc (p := fun x => (x.n.path.toList == p.toList)) HX.out hmem HQ.out
      rw [HP.out] at HQ2
      cases P
      · have HQ3 : Hid (Q.map Subtype.val = (l.take (k + 1)).filter (fun x => x.n.path.toList == p.toList)) := HQ2
        clear HQ2 hy0 c2
        gi_wp2
        refine ⟨fun _ h => (by cases h), ?_⟩
        gi_wp2
        go_roundw
        case rel => exact ⟨k + 1, Q, by omega, by go_num, HQ3, hj2, B2, X22, X12, X32⟩
        case measure => simp [intOf]; omega
      · have HQ3 : Hid ((Q ++ [(⟨x, hmem⟩ : { x // x ∈ l })]).map Subtype.val = (l.take (k + 1)).filter (fun x => x.n.path.toList == p.toList)) := HQ2
        obtain ⟨fn, tmps, assign, body, hy, hR⟩ := hy0 w2 hj2 (by have := HQL.out; omega)
        clear HQ2 hy0
        gi_wp2
        refine hR.mono ?_
        rintro e W3 (⟨rfl, hJ3, hk3⟩ | ⟨rfl, hJx3⟩)
        · have B3 : Hid (Below we.heap.size we W3) := B2.out.trans hk3.1
          have X23 := Ke.h (hk3.2 (b + 1) (by simp) _ _ X22.out)
          have X13 := Ke.h (hk3.2 b (by simp) _ _ X12.out)
          have X33 := Ke.h (hk3.2 g (by simp) _ _ X32.out)
          clear hk3 hy hR c2 r2
          gi_wp2
          go_roundw
          case rel => exact ⟨k + 1, Q ++ [(⟨x, hmem⟩ : { x // x ∈ l })], by omega, by go_num, HQ3, hJ3, B3, X23, X13, X33⟩
          case measure => simp [intOf]; omega
        · gi_wp2
          refine bodyPost_ret (results_none rfl _ _ _) rfl ?_
          exact ⟨⟨_, rfl⟩, .inr ⟨Q ++ [(⟨x, hmem⟩ : { x // x ∈ l })], by have h9 := HQ3.out; rw [h9]; exact pre_filter _, hJx3⟩⟩
    · have hkl : k = l.length := by omega
      have HF : Hid (Q.map Subtype.val = l.filter (fun x => x.n.path.toList == p.toList)) := by
        have := HQ.out
        rw [hkl, List.take_length] at this
        exact this
      have hlt2 : ¬ (k : Int) < (l.length : Int) := by omega
      clear hkl
      gi_wp2
      go_end0
      exact ⟨⟨_, rfl⟩, .inl ⟨Q, HF.out, hj⟩⟩

set_option maxRecDepth 1000000 in
set_option maxHeartbeats 4000000 in
theorem versions_in (w : World) (v : Value) (l : List Ev) (p : ByteArray) (h : Se w v l) (hl : l.length ≤ 1000000000) (hz : ∀ x ∈ l, Fit9 x) :
    CallsIn Fence.wide 6 Tryz.prog 21 #[v, .string p] w fun e w' => ∃ v', e = .returned v' ∧ Ow w' w.heap.size w'.heap.size v' (vers15 p (l.map Ev.n)) ∧ Below w.heap.size w w' := by
  have h1 : 1 ≤ 6 := by omega
  obtain ⟨i0, hi, hz0, hz1, hz2⟩ := info_parts infoVe
  have HS : Hid (Se w v l) := h
  have HZ : Hid (∀ x ∈ l, Fit9 x) := hz
  obtain ⟨ao, cap, rfl, hcap⟩ := h.form
  clear h hz
  obtain ⟨W1, HW1, b1, y1, hS1, rp, rb⟩ := Ke.l2 w #[.string p] 9 #[.slice none 0 0] 42
  refine callsIn_of_wp_marks Tryz.func21 rfl trivial ?_ rfl
  simp only [Tryz.ntmps21, List.size_toArray, List.length_cons, List.length_nil, Nat.reduceAdd, Nat.reduceSub, Array.replicate_succ, Array.replicate_zero, List.push_toArray, List.append_toArray, List.nil_append, List.cons_append]
  gi_wp2_with fail
  refine ⟨trivial, ?_⟩
  rw [HW1.out]
  refine (sought_in _ _ _ _ _ _ _ _).mono ?_
  rintro e W2 ⟨rfl, b2, y2, x1, x2⟩
  have B2 : Below w.heap.size w W2 := b1.trans (b2.mono b1.size)
  have rb2 : Boxed W2 (w.heap.size + 1) 42 (.slice none 0 0) := rowKeep rb.out b2
  have rp2 : Boxed W2 w.heap.size 9 (.string p) := rowKeep rp.out b2
  have hst := stops_path 5 (by omega) w W2 B2 _ l HS.out (by omega) p w.heap.size W1.heap.size b1.size x1 rp2 x2
  clear rb rp HW1 hS1 b2 x1 x2
  gi_wp2_with fail
  refine wpIn_rangeFunc_ownH rfl h1 (gf := 77) (lb := #[.pointer (some ⟨W1.heap.size, 0, none⟩), .pointer (some ⟨W1.heap.size + 1, 0, none⟩)]) rfl trivial (enters_of Tryz.func77 (by kernel_rfl) rfl)
    hst Ks_t (fun W l o o' h => Ks_b B2.size W l o o' h) (Below.refl _ _) (fun _ => rfl)
    (fun pre W => (Boxed W w.heap.size 9 (.string p) ∧ ∃ (ao : Option Addr) (L cap hi : Nat), Boxed W (w.heap.size + 1) 42 (.slice ao L cap) ∧ Ow W W2.heap.size hi (.slice ao L cap) (pre.map (fun x => x.1.n)) ∧ W2.heap.size ≤ hi ∧ hi ≤ W.heap.size) ∧ Below w.heap.size w W)
    (fun _ _ _ => False)
    (OwnFrom.and (Own.from (fun s A B row hs hg hr => by
      obtain ⟨hp, ao, L, cap, hi, hbx, hod, h2, hhi⟩ := hs
      exact ⟨boxed_own _ _ (fun _ => _) () A B row hp hg hr, ao, L, cap, hi, boxed_own _ _ (fun _ => _) () A B row hbx hg hr, On.turn hod hg hr, h2, Nat.le_trans hhi hg.size⟩) _) (ownFrom_below (Nat.le_refl _) B2.size))
    (fun _ => fun s A B row hs hg hr => hs)
    ⟨⟨rp2, none, 0, 0, W2.heap.size, rb2, On.nil 4 _ _ _ _, Nat.le_refl _, Nat.le_refl _⟩, B2⟩
    (fun x a' W => ∃ g, W2.heap.size ≤ g ∧ W.heap[g]? = some (.cells #[.string x.1.n.path, .int .i64 x.1.n.a, .int .i64 x.1.n.b, .int .i64 x.1.n.c, .string x.1.n.pre, x.1.u] 34 (0, 0)) ∧ a' = { tmps := #[.slice ao l.length cap, .string p, undef, .pointer (some ⟨w.heap.size, 0, none⟩), .slice none 0 0, .pointer (some ⟨w.heap.size + 1, 0, none⟩), .pointer (some ⟨g, 0, none⟩), .slice ao l.length cap, .func (.func 53) #[] #[.pointer (some ⟨w.heap.size, 0, none⟩)], .func (.func 77) #[] #[.pointer (some ⟨W1.heap.size, 0, none⟩), .pointer (some ⟨W1.heap.size + 1, 0, none⟩)], .agg #[.string x.1.n.path, .int .i64 x.1.n.a, .int .i64 x.1.n.b, .int .i64 x.1.n.c, .string x.1.n.pre, x.1.u], undef, undef, undef, undef, undef, undef, undef], defers := [] })
    (fun x a' => fun s A B row hs hg hr => by
      obtain ⟨g, hg1, hrow, ha⟩ := hs
      exact ⟨g, hg1, row_turn hrow hg (fun r e => (hr r e).2), ha⟩)
    ?assign ?body ?done ?stop
  case assign =>
    rintro lr pre ⟨⟨xn, xu, xl⟩, hm⟩ W K hI hK
    obtain ⟨⟨hp, a8, L8, c8, hi, hbx, hod, h2, hhi⟩, hB⟩ := hI
    obtain ⟨_, au, cu, hu, _⟩ := HS.out.2 _ hm
    have hu2 : xu = .slice au xl.length cu := hu
    subst hu2
    have hWs := hB.size
    have hk2 := hK { tmps := #[.slice ao l.length cap, .string p, undef, .pointer (some ⟨w.heap.size, 0, none⟩), .slice none 0 0, .pointer (some ⟨w.heap.size + 1, 0, none⟩), .pointer (some ⟨W.heap.size, 0, none⟩), .slice ao l.length cap, .func (.func 53) #[] #[.pointer (some ⟨w.heap.size, 0, none⟩)], .func (.func 77) #[] #[.pointer (some ⟨W1.heap.size, 0, none⟩), .pointer (some ⟨W1.heap.size + 1, 0, none⟩)], .agg #[.string xn.path, .int .i64 xn.a, .int .i64 xn.b, .int .i64 xn.c, .string xn.pre, .slice au xl.length cu], undef, undef, undef, undef, undef, undef, undef], defers := [] } (W.alloc (.cells #[.string xn.path, .int .i64 xn.a, .int .i64 xn.b, .int .i64 xn.c, .string xn.pre, .slice au xl.length cu] 34)) ((KeepsOthers.alloc _ _).from _) (Ks_below ((Below.refl _ _).alloc (Nat.le_refl _) _) hWs) ⟨⟨Boxed.alloc hp _, a8, L8, c8, hi, Boxed.alloc hbx _, On.later hod ((Below.refl _ _).alloc (Nat.le_refl _) _) hhi, h2, by simp; omega⟩, hB.alloc hWs _⟩ ⟨W.heap.size, by omega, heap_alloc_new W _, rfl⟩
    gi_wp2
    exact hk2
  case body =>
    rintro lr pre ⟨⟨xn, xu, xl⟩, hm⟩ a' W3 hlr hrec ⟨⟨hp, a8, L8, c8, hi9, hbx, hod, h29, hhi⟩, hB⟩ ⟨g, hg, rx, rfl⟩ hlt
    obtain ⟨f1, f2, f3, f4⟩ := HZ.out _ hm
    dsimp only at f2
    obtain ⟨ao9, L9, cap9, e9⟩ : ∃ ao9 L9 cap9, (Value.slice a8 L8 c8) = .slice ao9 L9 cap9 := ⟨_, _, _, rfl⟩
    clear e9 ao9 L9 cap9
    have B3 := Ke.h hB
    have r_bx3 : Hid (W3.heap[w.heap.size + 1]? = some (.cells #[.slice a8 L8 c8] 42 (0, 0))) := hbx
    have r_x3 : Hid (W3.heap[g]? = some (.cells #[.string xn.path, .int .i64 xn.a, .int .i64 xn.b, .int .i64 xn.c, .string xn.pre, xu] 34 (0, 0))) := rx
    have hpl : pre.length ≤ 1000000000 := by omega
    obtain ⟨T, hT, hTl⟩ : ∃ T : List Nd, pre.map (fun x : { x // x ∈ l } => x.1.n) = T ∧ T.length ≤ 1000000000 := ⟨_, rfl, by rw [List.length_map]; exact hpl⟩
    rw [hT] at hod
    have HT := Ke.h hT
    have f_d3 : Hid (Owt W3 W2.heap.size hi9 (.slice a8 L8 c8) T) := ⟨hod, hhi⟩
    clear hT
    have f_K3 : Hid (Kz9 w.heap.size [w.heap.size, W1.heap.size, W1.heap.size + 1] W3 W3) := Kz9.refl hB.size
    have HP : Hid (Boxed W3 w.heap.size 9 (.string p)) := hp
    have k1 : T.length + 1 ≤ maxLen := by unfold maxLen; omega
    have k2 : (T.length + 1) * 40 ≤ 140737488355328 := by omega
    have hB2s := B2.size
    have hB3s := hB.size
    clear hp hbx hod hB rx
    have c_bx3 := Ke.c r_bx3
    have c_x3 := Ke.c r_x3
    gi_wp2_with fail
    refine region_round (S := fun w' => (∀ j, w'.cell? ⟨g, j, none⟩ = #[.string xn.path, .int .i64 xn.a, .int .i64 xn.b, .int .i64 xn.c, .string xn.pre, xu][j]?)) (by kernel_rfl) (by kernel_rfl) (by rintro ⟨_, _, h9⟩; exact h9) c_x3 (fun hHeld => ?_)
    obtain ⟨W4, HW4, b4⟩ : ∃ X, Hid (W3.drew = X) ∧ Below W3.heap.size W3 X := ⟨_, rfl, Below.drew (Below.refl _ _)⟩
    have HHW4 := HW4.out
    rw [HHW4] at hHeld ⊢
    clear HHW4
    have z4 := b4.size
    have B4 := Ke.b B3 b4
    have r_bx4 := Ke.r r_bx3 b4
    have r_x4 := Ke.r r_x3 b4
    have c_bx4 := Ke.c r_bx4
    have c_x4 := Ke.c r_x4
    clear r_bx3 c_bx3 r_x3 c_x3
    have f_d4 : Hid (Owt W4 W2.heap.size hi9 (.slice a8 L8 c8) T) := Owt.later f_d3.out b4
    have f_K4 : Hid (Kz9 w.heap.size [w.heap.size, W1.heap.size, W1.heap.size + 1] W3 W4) := Kz9.later f_K3.out b4
    clear f_d3 f_K3
    refine Ke.y 1 rfl (fun _ _ _ h => h) ?_
    try simp only [Act.put, pu1, pu2, pu3, pu4, pu5, pu6]
    refine Ke.y 2 rfl (fun _ _ _ h => h) ?_
    try simp only [Act.put, pu1, pu2, pu3, pu4, pu5, pu6]
    refine wpAnyH_ready (rs := [0, 3]) (by kernel_rfl) (by simp) ?_
    refine AllReadyH.cons rfl (fun K hK => ?_) (AllReadyH.cons rfl (fun K hK => ?_) AllReadyH.nil)
    · go_simp
      refine hK.out _ _ hHeld (fun hHeld => ?_)
      clear hK K
      try simp only [Act.put, pu1, pu2, pu3, pu4, pu5, pu6]
      refine Ke.z 3 rfl (fun K hK => ?_)
      go_simp
      refine (ownv_impl W4 xn f2).mono ?_
      rintro e W5 ⟨rfl, b5⟩
      refine hK.out _ _ (Ke.k (W := W4) hHeld b5) (fun hHeld => ?_)
      clear hK K
      try simp only [Act.put, pu1, pu2, pu3, pu4, pu5, pu6]
      have z5 := b5.size
      have B5 := Ke.b B4 b5
      have r_bx5 := Ke.r r_bx4 b5
      have r_x5 := Ke.r r_x4 b5
      have c_bx5 := Ke.c r_bx5
      have c_x5 := Ke.c r_x5
      clear r_bx4 c_bx4 r_x4 c_x4
      have f_d5 : Hid (Owt W5 W2.heap.size hi9 (.slice a8 L8 c8) T) := Owt.later f_d4.out b5
      have f_K5 : Hid (Kz9 w.heap.size [w.heap.size, W1.heap.size, W1.heap.size + 1] W3 W5) := Kz9.later f_K4.out b5
      clear f_d4 f_K4
      refine Ke.z 4 rfl (fun K hK => ?_)
      go_simp
      refine hK.out _ _ (Ke.k (W := W5) hHeld ((Below.refl _ _).alloc (Nat.le_refl _) _)) (fun hHeld => ?_)
      clear hK K
      try simp only [Act.put, pu1, pu2, pu3, pu4, pu5, pu6]
      obtain ⟨W6, HW6, b6, ff6⟩ : ∃ X, Hid ((W5.alloc (.cells #[.int .i64 xn.a, .int .i64 xn.b, .int .i64 xn.c, .string xn.pre] 32)) = X) ∧ Below W5.heap.size W5 X ∧ Hid (Sn 4 X (.slice (some ⟨W5.heap.size, 0, none⟩) 1 1) 1 (vc xn).toList) := ⟨_, rfl, ((Below.refl _ _).alloc (Nat.le_refl _) _), Sn.one 4 W5 (vc xn) 32 rfl⟩
      have HHW6 := HW6.out
      rw [HHW6] at hHeld ⊢
      clear HHW6
      have z6 := b6.size
      have B6 := Ke.b B5 b6
      have r_bx6 := Ke.r r_bx5 b6
      have r_x6 := Ke.r r_x5 b6
      have c_bx6 := Ke.c r_bx6
      have c_x6 := Ke.c r_x6
      clear r_bx5 c_bx5 r_x5 c_x5
      have f_d6 : Hid (Owt W6 W2.heap.size hi9 (.slice a8 L8 c8) T) := Owt.later f_d5.out b6
      have f_K6 : Hid (Kz9 w.heap.size [w.heap.size, W1.heap.size, W1.heap.size + 1] W3 W6) := Kz9.later f_K5.out b6
      clear f_d5 f_K5
      have f_t6 : Hid (Sn 4 W6 (.slice (some ⟨W5.heap.size, 0, none⟩) 1 1) 1 (vc xn).toList) := ff6.out
      clear ff6
      refine Ke.z 5 rfl (fun K hK => ?_)
      refine step_appm 4 (by omega) rfl (.tmp 11) (.tmp 15) 42 (by rfl) 32 i0 (.agg #[.int .i64 0, .int .i64 0, .int .i64 0, .string ⟨#[]⟩]) 40 Tryz.underlying42 hi hz0 hz1 hz2 rfl W2.heap.size _ T.length (vcs T) (by rfl) (Owt.wide f_d6.out (Nat.le_refl _)) _ (by rfl) 1 (vc xn).toList f_t6.out (vc_one xn) k1 k2 (by omega) ?_
      intro v9 W7 o9 g7
      refine hK.out _ _ (Ke.g hHeld g7 (On.neRow f_d6.out.1 r_x6.out (by decide))) (fun hHeld => ?_)
      clear hK K
      try simp only [Act.put, pu1, pu2, pu3, pu4, pu5, pu6]
      have f_d7 : Hid (Owt W7 W2.heap.size W7.heap.size v9 (T ++ [xn])) := ⟨snocW o9, Nat.le_refl _⟩
      clear o9
      have z7 := g7.size
      have B7 : Hid (Below w.heap.size w W7) := belowGro B6.out g7 B6.out.size (fun k9 h9 => by have h8 := (On.lt f_d6.out.1 h9).1; omega)
      have f_K7 : Hid (Kz9 w.heap.size [w.heap.size, W1.heap.size, W1.heap.size + 1] W3 W7) := Kz9.own f_K6.out f_d6.out.1 g7 (by omega) (by intro b9 hb9; simp only [List.mem_cons, List.not_mem_nil, or_false] at hb9; omega)
      have r_bx7 : Hid (W7.heap[w.heap.size + 1]? = some (.cells #[.slice a8 L8 c8] 42 (0, 0))) := rowGro r_bx6.out g7 (On.neRow f_d6.out.1 r_bx6.out (by decide))
      obtain ⟨ao9, L9, cap9, rfl⟩ : ∃ ao9 L9 cap9, v9 = .slice ao9 L9 cap9 := by obtain ⟨a9, c9, e9⟩ := On.slice f_d7.out.1; exact ⟨a9, _, c9, e9⟩
      have c_bx7 := Ke.c r_bx7
      clear r_bx6 c_bx6
      clear f_d6 f_t6 f_K6 g7 r_x6 c_x6
      refine Ke.z 6 rfl (fun K hK => ?_)
      rw [if_pos (by rfl)]
      refine wp_oneG 42 _ _ rfl (w.heap.size + 1) 0 (.slice ao9 L9 cap9) rfl rfl [.slice a8 L8 c8] 42 r_bx7.out (Nat.le_of_ble_eq_true rfl) (by kernel_rfl) rfl [.slice ao9 L9 cap9] rfl ?_
      intro W8 r_bx8 g8
      refine hK.out _ _ (Ke.g hHeld g8 (by intro h9; injection h9 with h9; omega)) (fun hHeld => ?_)
      clear hK K
      try simp only [Act.put, pu1, pu2, pu3, pu4, pu5, pu6]
      have zz := g8.size
      have HB9 := Ke.h (belowGro B7.out g8 B7.out.size (fun k9 h9 => by injection h9 with h9; omega))
      have HK9 := Ke.h (Kz9.row f_K7.out r_bx7.out g8 (by omega) (by intro b9 hb9; simp only [List.mem_cons, List.not_mem_nil, or_false] at hb9; omega))
      have HD9 := Ke.h (On.keep1 f_d7.out.1 (fun j hj => g8.block j (On.lt f_d7.out.1 hj).2.2 (fun e9 => On.neRow f_d7.out.1 r_bx7.out (by decide) (hj.trans e9))))
      have HR9 := Ke.h r_bx8
      have HP9 := Ke.h (HK9.out.2.2.2 w.heap.size (by simp) _ _ HP.out)
      refine wpAnyH_done (by kernel_rfl) ?_ _
      clear hHeld
      gi_wp2
      exact ⟨HK9.out.2.1.from _, HK9.out.2.2, ⟨HP9.out, ao9, L9, cap9, _, HR9.out, by rw [List.map_append, HT.out]; exact HD9.out, by omega, by omega⟩, HB9.out⟩
    · go_simp
      refine (ownv_impl W4 xn f2).mono ?_
      rintro e W5 ⟨rfl, b5⟩
      refine hK.out _ _ (Ke.k (W := W4) hHeld b5) (fun hHeld => ?_)
      clear hK K
      try simp only [Act.put, pu1, pu2, pu3, pu4, pu5, pu6]
      have z5 := b5.size
      have B5 := Ke.b B4 b5
      have r_bx5 := Ke.r r_bx4 b5
      have r_x5 := Ke.r r_x4 b5
      have c_bx5 := Ke.c r_bx5
      have c_x5 := Ke.c r_x5
      clear r_bx4 c_bx4 r_x4 c_x4
      have f_d5 : Hid (Owt W5 W2.heap.size hi9 (.slice a8 L8 c8) T) := Owt.later f_d4.out b5
      have f_K5 : Hid (Kz9 w.heap.size [w.heap.size, W1.heap.size, W1.heap.size + 1] W3 W5) := Kz9.later f_K4.out b5
      clear f_d4 f_K4
      refine wpAnyH_ready (rs := [0, 4]) (by kernel_rfl) (by simp) ?_
      refine AllReadyH.cons rfl (fun K hK => ?_) (AllReadyH.cons rfl (fun K hK => ?_) AllReadyH.nil)
      · go_simp
        refine hK.out _ _ hHeld (fun hHeld => ?_)
        clear hK K
        try simp only [Act.put, pu1, pu2, pu3, pu4, pu5, pu6]
        refine Ke.z 4 rfl (fun K hK => ?_)
        go_simp
        refine hK.out _ _ (Ke.k (W := W5) hHeld ((Below.refl _ _).alloc (Nat.le_refl _) _)) (fun hHeld => ?_)
        clear hK K
        try simp only [Act.put, pu1, pu2, pu3, pu4, pu5, pu6]
        obtain ⟨W6, HW6, b6, ff6⟩ : ∃ X, Hid ((W5.alloc (.cells #[.int .i64 xn.a, .int .i64 xn.b, .int .i64 xn.c, .string xn.pre] 32)) = X) ∧ Below W5.heap.size W5 X ∧ Hid (Sn 4 X (.slice (some ⟨W5.heap.size, 0, none⟩) 1 1) 1 (vc xn).toList) := ⟨_, rfl, ((Below.refl _ _).alloc (Nat.le_refl _) _), Sn.one 4 W5 (vc xn) 32 rfl⟩
        have HHW6 := HW6.out
        rw [HHW6] at hHeld ⊢
        clear HHW6
        have z6 := b6.size
        have B6 := Ke.b B5 b6
        have r_bx6 := Ke.r r_bx5 b6
        have r_x6 := Ke.r r_x5 b6
        have c_bx6 := Ke.c r_bx6
        have c_x6 := Ke.c r_x6
        clear r_bx5 c_bx5 r_x5 c_x5
        have f_d6 : Hid (Owt W6 W2.heap.size hi9 (.slice a8 L8 c8) T) := Owt.later f_d5.out b6
        have f_K6 : Hid (Kz9 w.heap.size [w.heap.size, W1.heap.size, W1.heap.size + 1] W3 W6) := Kz9.later f_K5.out b6
        clear f_d5 f_K5
        have f_t6 : Hid (Sn 4 W6 (.slice (some ⟨W5.heap.size, 0, none⟩) 1 1) 1 (vc xn).toList) := ff6.out
        clear ff6
        refine Ke.z 5 rfl (fun K hK => ?_)
        refine step_appm 4 (by omega) rfl (.tmp 11) (.tmp 15) 42 (by rfl) 32 i0 (.agg #[.int .i64 0, .int .i64 0, .int .i64 0, .string ⟨#[]⟩]) 40 Tryz.underlying42 hi hz0 hz1 hz2 rfl W2.heap.size _ T.length (vcs T) (by rfl) (Owt.wide f_d6.out (Nat.le_refl _)) _ (by rfl) 1 (vc xn).toList f_t6.out (vc_one xn) k1 k2 (by omega) ?_
        intro v9 W7 o9 g7
        refine hK.out _ _ (Ke.g hHeld g7 (On.neRow f_d6.out.1 r_x6.out (by decide))) (fun hHeld => ?_)
        clear hK K
        try simp only [Act.put, pu1, pu2, pu3, pu4, pu5, pu6]
        have f_d7 : Hid (Owt W7 W2.heap.size W7.heap.size v9 (T ++ [xn])) := ⟨snocW o9, Nat.le_refl _⟩
        clear o9
        have z7 := g7.size
        have B7 : Hid (Below w.heap.size w W7) := belowGro B6.out g7 B6.out.size (fun k9 h9 => by have h8 := (On.lt f_d6.out.1 h9).1; omega)
        have f_K7 : Hid (Kz9 w.heap.size [w.heap.size, W1.heap.size, W1.heap.size + 1] W3 W7) := Kz9.own f_K6.out f_d6.out.1 g7 (by omega) (by intro b9 hb9; simp only [List.mem_cons, List.not_mem_nil, or_false] at hb9; omega)
        have r_bx7 : Hid (W7.heap[w.heap.size + 1]? = some (.cells #[.slice a8 L8 c8] 42 (0, 0))) := rowGro r_bx6.out g7 (On.neRow f_d6.out.1 r_bx6.out (by decide))
        obtain ⟨ao9, L9, cap9, rfl⟩ : ∃ ao9 L9 cap9, v9 = .slice ao9 L9 cap9 := by obtain ⟨a9, c9, e9⟩ := On.slice f_d7.out.1; exact ⟨a9, _, c9, e9⟩
        have c_bx7 := Ke.c r_bx7
        clear r_bx6 c_bx6
        clear f_d6 f_t6 f_K6 g7 r_x6 c_x6
        refine Ke.z 6 rfl (fun K hK => ?_)
        rw [if_pos (by rfl)]
        refine wp_oneG 42 _ _ rfl (w.heap.size + 1) 0 (.slice ao9 L9 cap9) rfl rfl [.slice a8 L8 c8] 42 r_bx7.out (Nat.le_of_ble_eq_true rfl) (by kernel_rfl) rfl [.slice ao9 L9 cap9] rfl ?_
        intro W8 r_bx8 g8
        refine hK.out _ _ (Ke.g hHeld g8 (by intro h9; injection h9 with h9; omega)) (fun hHeld => ?_)
        clear hK K
        try simp only [Act.put, pu1, pu2, pu3, pu4, pu5, pu6]
        have zz := g8.size
        have HB9 := Ke.h (belowGro B7.out g8 B7.out.size (fun k9 h9 => by injection h9 with h9; omega))
        have HK9 := Ke.h (Kz9.row f_K7.out r_bx7.out g8 (by omega) (by intro b9 hb9; simp only [List.mem_cons, List.not_mem_nil, or_false] at hb9; omega))
        have HD9 := Ke.h (On.keep1 f_d7.out.1 (fun j hj => g8.block j (On.lt f_d7.out.1 hj).2.2 (fun e9 => On.neRow f_d7.out.1 r_bx7.out (by decide) (hj.trans e9))))
        have HR9 := Ke.h r_bx8
        have HP9 := Ke.h (HK9.out.2.2.2 w.heap.size (by simp) _ _ HP.out)
        refine wpAnyH_done (by kernel_rfl) ?_ _
        clear hHeld
        gi_wp2
        exact ⟨HK9.out.2.1.from _, HK9.out.2.2, ⟨HP9.out, ao9, L9, cap9, _, HR9.out, by rw [List.map_append, HT.out]; exact HD9.out, by omega, by omega⟩, HB9.out⟩
      · go_simp
        refine hK.out _ _ (Ke.k (W := W5) hHeld ((Below.refl _ _).alloc (Nat.le_refl _) _)) (fun hHeld => ?_)
        clear hK K
        try simp only [Act.put, pu1, pu2, pu3, pu4, pu5, pu6]
        obtain ⟨W6, HW6, b6, ff6⟩ : ∃ X, Hid ((W5.alloc (.cells #[.int .i64 xn.a, .int .i64 xn.b, .int .i64 xn.c, .string xn.pre] 32)) = X) ∧ Below W5.heap.size W5 X ∧ Hid (Sn 4 X (.slice (some ⟨W5.heap.size, 0, none⟩) 1 1) 1 (vc xn).toList) := ⟨_, rfl, ((Below.refl _ _).alloc (Nat.le_refl _) _), Sn.one 4 W5 (vc xn) 32 rfl⟩
        have HHW6 := HW6.out
        rw [HHW6] at hHeld ⊢
        clear HHW6
        have z6 := b6.size
        have B6 := Ke.b B5 b6
        have r_bx6 := Ke.r r_bx5 b6
        have r_x6 := Ke.r r_x5 b6
        have c_bx6 := Ke.c r_bx6
        have c_x6 := Ke.c r_x6
        clear r_bx5 c_bx5 r_x5 c_x5
        have f_d6 : Hid (Owt W6 W2.heap.size hi9 (.slice a8 L8 c8) T) := Owt.later f_d5.out b6
        have f_K6 : Hid (Kz9 w.heap.size [w.heap.size, W1.heap.size, W1.heap.size + 1] W3 W6) := Kz9.later f_K5.out b6
        clear f_d5 f_K5
        have f_t6 : Hid (Sn 4 W6 (.slice (some ⟨W5.heap.size, 0, none⟩) 1 1) 1 (vc xn).toList) := ff6.out
        clear ff6
        refine Ke.z 0 rfl (fun K hK => ?_)
        go_simp
        refine hK.out _ _ hHeld (fun hHeld => ?_)
        clear hK K
        try simp only [Act.put, pu1, pu2, pu3, pu4, pu5, pu6]
        refine Ke.z 5 rfl (fun K hK => ?_)
        refine step_appm 4 (by omega) rfl (.tmp 11) (.tmp 15) 42 (by rfl) 32 i0 (.agg #[.int .i64 0, .int .i64 0, .int .i64 0, .string ⟨#[]⟩]) 40 Tryz.underlying42 hi hz0 hz1 hz2 rfl W2.heap.size _ T.length (vcs T) (by rfl) (Owt.wide f_d6.out (Nat.le_refl _)) _ (by rfl) 1 (vc xn).toList f_t6.out (vc_one xn) k1 k2 (by omega) ?_
        intro v9 W7 o9 g7
        refine hK.out _ _ (Ke.g hHeld g7 (On.neRow f_d6.out.1 r_x6.out (by decide))) (fun hHeld => ?_)
        clear hK K
        try simp only [Act.put, pu1, pu2, pu3, pu4, pu5, pu6]
        have f_d7 : Hid (Owt W7 W2.heap.size W7.heap.size v9 (T ++ [xn])) := ⟨snocW o9, Nat.le_refl _⟩
        clear o9
        have z7 := g7.size
        have B7 : Hid (Below w.heap.size w W7) := belowGro B6.out g7 B6.out.size (fun k9 h9 => by have h8 := (On.lt f_d6.out.1 h9).1; omega)
        have f_K7 : Hid (Kz9 w.heap.size [w.heap.size, W1.heap.size, W1.heap.size + 1] W3 W7) := Kz9.own f_K6.out f_d6.out.1 g7 (by omega) (by intro b9 hb9; simp only [List.mem_cons, List.not_mem_nil, or_false] at hb9; omega)
        have r_bx7 : Hid (W7.heap[w.heap.size + 1]? = some (.cells #[.slice a8 L8 c8] 42 (0, 0))) := rowGro r_bx6.out g7 (On.neRow f_d6.out.1 r_bx6.out (by decide))
        obtain ⟨ao9, L9, cap9, rfl⟩ : ∃ ao9 L9 cap9, v9 = .slice ao9 L9 cap9 := by obtain ⟨a9, c9, e9⟩ := On.slice f_d7.out.1; exact ⟨a9, _, c9, e9⟩
        have c_bx7 := Ke.c r_bx7
        clear r_bx6 c_bx6
        clear f_d6 f_t6 f_K6 g7 r_x6 c_x6
        refine Ke.z 6 rfl (fun K hK => ?_)
        rw [if_pos (by rfl)]
        refine wp_oneG 42 _ _ rfl (w.heap.size + 1) 0 (.slice ao9 L9 cap9) rfl rfl [.slice a8 L8 c8] 42 r_bx7.out (Nat.le_of_ble_eq_true rfl) (by kernel_rfl) rfl [.slice ao9 L9 cap9] rfl ?_
        intro W8 r_bx8 g8
        refine hK.out _ _ (Ke.g hHeld g8 (by intro h9; injection h9 with h9; omega)) (fun hHeld => ?_)
        clear hK K
        try simp only [Act.put, pu1, pu2, pu3, pu4, pu5, pu6]
        have zz := g8.size
        have HB9 := Ke.h (belowGro B7.out g8 B7.out.size (fun k9 h9 => by injection h9 with h9; omega))
        have HK9 := Ke.h (Kz9.row f_K7.out r_bx7.out g8 (by omega) (by intro b9 hb9; simp only [List.mem_cons, List.not_mem_nil, or_false] at hb9; omega))
        have HD9 := Ke.h (On.keep1 f_d7.out.1 (fun j hj => g8.block j (On.lt f_d7.out.1 hj).2.2 (fun e9 => On.neRow f_d7.out.1 r_bx7.out (by decide) (hj.trans e9))))
        have HR9 := Ke.h r_bx8
        have HP9 := Ke.h (HK9.out.2.2.2 w.heap.size (by simp) _ _ HP.out)
        refine wpAnyH_done (by kernel_rfl) ?_ _
        clear hHeld
        gi_wp2
        exact ⟨HK9.out.2.1.from _, HK9.out.2.2, ⟨HP9.out, ao9, L9, cap9, _, HR9.out, by rw [List.map_append, HT.out]; exact HD9.out, by omega, by omega⟩, HB9.out⟩
  case done =>
    rintro D ys W hD hy ⟨⟨hp, a8, L8, c8, hi9, hbx, hod, h29, hhi⟩, hB⟩ hK
    have hV : Hid (ys.map (fun x => x.1.n) = vers15 p (l.map Ev.n)) := by
      show _ = _
      have h9 := congrArg (List.map Ev.n) hy
      rw [List.map_map] at h9
      unfold vers15
      rw [List.filter_map]
      exact h9
    have k0 := hbx.cell
    gi_wp2
    refine ⟨by simp, .inl ⟨_, _, rfl, run_takeDeferred hK, ?_⟩⟩
    have gr := grownBy_putObj' W D (.deferred none)
    have hgr : ∀ r, some D = some r → ∃ o : Obj, W.heap[r]? = some o ∧ o.isCells = false := fun r e => by cases e; exact ⟨_, hK, rfl⟩
    have o6 := On.turn hod gr hgr
    have B6 : Below w.heap.size w (W.putObj D (.deferred none)) := hB.trans (belowK_b (w := w) (Nat.le_refl _) W D _ _ (by have := B2.size; omega) hK rfl rfl)
    exact ⟨_, results_tmp rfl _ _ _, _, rfl, by rw [← hV.out]; exact On.mono o6 B2.size (Nat.le_trans hhi gr.size), B6⟩
  case stop =>
    rintro D c pre W hD hpre h9 hK
    exact h9.elim

theorem versions_impl (w : World) (v : Value) (l : List Ev) (p : ByteArray) (h : Se w v l) (hl : l.length ≤ 1000000000) (hz : ∀ x ∈ l, Fit9 x) :
    Calls Tryz.prog 21 #[v, .string p] w fun e w' => ∃ v', e = .returned v' ∧ Ow w' w.heap.size w'.heap.size v' (vers15 p (l.map Ev.n)) ∧ Below w.heap.size w w' := callsIn_wide.1 (versions_in w v l p h hl hz)

end Go.Proofs.YtlhmemnaiobgkaaGreatDoor.Fe
