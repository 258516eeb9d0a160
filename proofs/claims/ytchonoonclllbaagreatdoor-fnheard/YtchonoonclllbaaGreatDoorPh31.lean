/- Texts in one: KpC, KpD. -/
import Derived.Test.YtchonoonclllbaaGreatDoorPh30
import Derived.Test.YtchonoonclllbaaGreatDoorPh21
import Derived.Lib.ConvBytes
import Derived.Lib.AtoiErrMem
set_option maxHeartbeats 16000000
set_option linter.unusedVariables false
set_option linter.unusedSimpArgs false
namespace Go.Proofs.YtchonoonclllbaaGreatDoor.Sr
open Go.RowKit Mem Laws Bytes Sha Tr He Lg
theorem strB12 (w : World) (s : ByteArray) : ∃ (cap : Nat) (W : World), (convert 9 22 (.string s)).run Tryz.prog w = .ok (.slice (some ⟨w.heap.size, 0, none⟩) s.size cap) W ∧ Sl W (.slice (some ⟨w.heap.size, 0, none⟩) s.size cap) (bs (sb s)) ∧ Below w.heap.size w W := by
 refine ⟨_, _, Lib.run_convert_string_bytes w 9 22 5 s Tryz.underlying9 Tryz.underlying22 Tryz.underlying5, ⟨_, _, by rw [bs_len, sb_len], by rw [bs_len, sb_len]; exact grownCap_ge w s.size 0 5, fun h => (by cases h), fun _ => ⟨w.heap.size, 0, rfl, fun j hj => ?_⟩⟩, Lib.bytesWorld_below w 5 s⟩
 rw [bs_len, sb_len] at hj
 rw [Nat.zero_add, Lib.bytesWorld_cell w 5 s j hj, bs_get]
 have hj2 : j < s.data.toList.length := by simpa using hj
 have hj3 : j < s.data.size := hj
 simp [sb, List.getD]
 rw [Array.getElem?_eq_getElem hj3]
 simp
theorem nil5 (w : World) (lo hi : Nat) : Own w lo hi 5 (.slice none 0 0) (bs []) := ⟨⟨rfl, Or.inl ⟨rfl, rfl⟩⟩, fun g hg => by simp [Value.ownBlock] at hg⟩
theorem slOne {W : World} {g : Nat} {u : Value} (h : Sl W (.slice (some ⟨g, 0, none⟩) 1 1) [u]) : W.cell? ⟨g, 0, none⟩ = some u := by
 obtain ⟨ao, cap, he, _, _, hr⟩ := h
 simp only [Value.slice.injEq] at he
 obtain ⟨rfl, _, rfl⟩ := he
 obtain ⟨b, off, he, hc⟩ := hr (by simp)
 simp only [Option.some.injEq, Addr.mk.injEq, and_true] at he
 obtain ⟨rfl, rfl⟩ := he
 exact hc 0 (by simp)
theorem slAlloc (w : World) (cs : List Value) (t : TypeId) : Sl (w.alloc (.cells cs.toArray t)) (.slice (some ⟨w.heap.size, 0, none⟩) cs.length cs.length) cs := by
 refine ⟨_, _, rfl, Nat.le_refl _, fun h => by simp at h, fun _ => ⟨w.heap.size, 0, rfl, fun j hj => ?_⟩⟩
 rw [Nat.zero_add, cell_of_row _ w.heap.size j cs.toArray t (0, 0) (heap_alloc_new w _)]
 simp
theorem part2 {W : World} {a b : Value} {p q : List Int} (h : Sl W a (bs p)) (k : Sl W b (bs q)) : ∀ (i : Nat) (v : Value) (r : List Int), [a, b][i]? = some v → [p, q][i]? = some r → Sl W v (bs r) := by
 intro i v r h1 h2
 match i with
 | 0 => simp at h1 h2; rw [← h1, ← h2]; exact h
 | 1 => simp at h1 h2; rw [← h1, ← h2]; exact k
 | i + 2 => simp at h1
theorem part3 {W : World} {a b c : Value} {p q s : List Int} (h : Sl W a (bs p)) (k : Sl W b (bs q)) (m : Sl W c (bs s)) : ∀ (i : Nat) (v : Value) (r : List Int), [a, b, c][i]? = some v → [p, q, s][i]? = some r → Sl W v (bs r) := by
 intro i v r h1 h2
 match i with
 | 0 => simp at h1 h2; rw [← h1, ← h2]; exact h
 | 1 => simp at h1 h2; rw [← h1, ← h2]; exact k
 | 2 => simp at h1 h2; rw [← h1, ← h2]; exact m
 | i + 3 => simp at h1
set_option maxRecDepth 1000000 in
theorem putc_impl (w : World) (h : Hd) (v : Value) (x : List ByteArray) (hG : Glob w) (hs : Sl w v (ss x)) (hl : x.length ≤ 1000000000) (ht : Puts.tot x ≤ 100000000000) (hr : h.r.size ≤ 100000000000) :
  Calls Tryz.prog 105 #[.agg #[.int .i64 h.n, .string h.r], v] w fun e w' => ∃ v', e = .returned v' ∧ Own w' w.heap.size w'.heap.size 5 v' (bs (putC h x)) ∧ Below w.heap.size w w' := by
 have HS : Hid (Sl w v (ss x)) := hs
 have HG : Hid (Glob w) := hG
 have htl := Puts.txs_len x
 have hbl := body_len h x
 have n1 := (Puts.num_len h.n).2
 have n2 := Puts.tx_len h.r
 obtain ⟨ao0, cap0, rfl, hc0⟩ := hs.form
 rw [ss_len] at *
 clear hs hG
 have B0 : Hid (Below w.heap.size w w) := Below.refl _ _
 have HT : Hid ((Puts.txs x).length ≤ 5 * x.length + Puts.tot x) := htl
 clear htl
 obtain ⟨W1, HW1, b1, y1, hS1, r_h1⟩ := Ke.l1 w #[.int .i64 h.n, .string h.r] 26
 have z1 := b1.size
 have B1 := Ke.b B0 b1
 have q1 : ∀ W v1, Sl W v1 (ss x) → _ := fun W v1 h1 => iscommit_impl W h v1 x h1 (by omega) (by omega)
 have hP : putC h x = if isC h x = true then put h x else [] := putC_isC h x
 obtain ⟨A, hA⟩ : ∃ A, isC h x = A := ⟨_, rfl⟩
 simp only [hA] at q1 hP
 clear hA
 obtain ⟨P, hPP⟩ : ∃ P, putC h x = P := ⟨_, rfl⟩
 rw [hPP]
 rw [hPP] at hP
 have HP : Hid (P = if A = true then put h x else []) := hP
 clear hP hPP
 go_enter Tryz.func105, Tryz.ntmps105
 go_wp2_with fail
 rw [HW1.out]
 refine (q1 W1 _ (HS.out.later B1.out)).mono ?_
 rintro e W2 ⟨rfl, b2⟩
 have z2 := b2.size
 have B2 := Ke.b B1 b2
 have r_h2 := Ke.r r_h1 b2
 have c_h2 := Ke.c r_h2
 clear r_h1
 clear q1
 cases A
 ·have e9 : P = [] := by rw [HP.out]; rfl
  subst e9
  go_wp2
  go_ret
  exact ⟨_, rfl, nil5 _ _ _, B2.out⟩
 ·go_wp2_with fail
  refine wp_region_held_drew (S := fun w' => w'.cell? ⟨w.heap.size, 0, none⟩ = some (.int .i64 h.n) ∧ w'.cell? ⟨w.heap.size, 1, none⟩ = some (.string h.r)) (by kernel_rfl) ⟨(c_h2 0), (c_h2 1)⟩ (fun hHeld => ?_)
  refine Ke.q 0 ?_; try simp only [Act.put, pq]
  refine Ke.q 1 ?_; try simp only [Act.put, pq]
  refine Ke.q 4 ?_; try simp only [Act.put, pq]
  refine Ke.q 5 ?_; try simp only [Act.put, pq]
  refine Ke.q 8 ?_; try simp only [Act.put, pq]
  refine wpAnyH_ready (rs := [2, 6]) (by kernel_rfl) (by simp) ?_
  refine AllReadyH.cons rfl (fun K hK => ?_) (AllReadyH.cons rfl (fun K hK => ?_) AllReadyH.nil)
  ·go_simp
   refine hK.out _ _ ⟨(keepR (W := W2.drew) hHeld.1 ((Below.refl _ _).alloc (Nat.le_refl _) _)), (keepR (W := W2.drew) hHeld.2 ((Below.refl _ _).alloc (Nat.le_refl _) _))⟩ (fun hHeld => ?_)
   clear hK K
   try simp only [Act.put, pq]
   obtain ⟨W3, HW3, b3, ff3⟩ : ∃ X, Hid ((W2.alloc (.cells #[.int .i64 h.n] 3)).drew = X) ∧ Below W2.heap.size W2 X ∧ Hid (Sl X (.slice (some ⟨W2.heap.size, 0, none⟩) 1 1) [.int .i64 h.n]) := ⟨_, rfl, (Below.drew ((Below.refl _ _).alloc (Nat.le_refl _) _)), Laws.Sl.one W2 _ _⟩
   have HHW3 := HW3.out
   rw [HHW3] at hHeld ⊢
   clear HHW3
   have z3 := b3.size
   have B3 := Ke.b B2 b3
   clear r_h2 c_h2
   have f_n3 : Hid (Sl W3 (.slice (some ⟨W2.heap.size, 0, none⟩) 1 1) [.int .i64 h.n]) := ff3.out
   clear ff3
   refine wpAnyH_ready (rs := [3, 6]) (by kernel_rfl) (by simp) ?_
   refine AllReadyH.cons rfl (fun K hK => ?_) (AllReadyH.cons rfl (fun K hK => ?_) AllReadyH.nil)
   ·go_simp
    refine (Puts.nums_one W3 W3.heap.size _ [] _ h.n (nil5 _ _ _) (Nat.le_refl _) (by simp) (slOne f_n3.out)).mono ?_
    rintro e W4 ⟨v_a, rfl, o_a4, b4⟩
    refine hK.out _ _ ⟨(keepR (W := W3) hHeld.1 b4), (keepR (W := W3) hHeld.2 b4)⟩ (fun hHeld => ?_)
    clear hK K
    try simp only [Act.put, pq]
    obtain ⟨ao_a, L_a, cap_a, rfl, hL_a, hM_a⟩ := o_a4.form
    have o_a4 : Hid (Own W4 W3.heap.size W4.heap.size 5 (.slice ao_a L_a cap_a) (bs ([] ++ Puts.num h.n))) := o_a4
    clear hL_a hM_a
    have z4 := b4.size
    have B4 := Ke.b B3 b4
    have f_n4 := Ke.h (Sl.later f_n3.out b4)
    clear f_n3
    refine Ke.z 6 rfl (fun K hK => ?_)
    go_simp
    refine hK.out _ _ ⟨(keepR (W := W4) hHeld.1 ((Below.refl _ _).alloc (Nat.le_refl _) _)), (keepR (W := W4) hHeld.2 ((Below.refl _ _).alloc (Nat.le_refl _) _))⟩ (fun hHeld => ?_)
    clear hK K
    try simp only [Act.put, pq]
    obtain ⟨W5, HW5, b5, ff5⟩ : ∃ X, Hid ((W4.alloc (.cells #[.string h.r] 9)) = X) ∧ Below W4.heap.size W4 X ∧ Hid (Sl X (.slice (some ⟨W4.heap.size, 0, none⟩) 1 1) (ss [h.r])) := ⟨_, rfl, ((Below.refl _ _).alloc (Nat.le_refl _) _), Puts.Sl.oneStr W4 _ _⟩
    have HHW5 := HW5.out
    rw [HHW5] at hHeld ⊢
    clear HHW5
    have z5 := b5.size
    have B5 := Ke.b B4 b5
    have o_a5 := Ke.o o_a4 b5
    clear o_a4
    clear f_n4
    have f_t5 : Hid (Sl W5 (.slice (some ⟨W4.heap.size, 0, none⟩) 1 1) (ss [h.r])) := ff5.out
    clear ff5
    refine Ke.z 7 rfl (fun K hK => ?_)
    go_simp
    refine (Puts.texts_any W5 (W3.heap.size) _ ([] ++ Puts.num h.n) _ [h.r] (Own.mono o_a5.out (Nat.le_refl _) (by omega)) (by omega) f_t5.out (fun _ _ h9 => by simp at h9) (by simp [Puts.txs]; omega) (by simp)).mono ?_
    rintro e W6 ⟨v_b, rfl, o_b6, q6⟩
    refine hK.out _ _ ⟨((q6.cell (p := ⟨w.heap.size, 0, none⟩) (by show w.heap.size < W3.heap.size; omega)).trans hHeld.1), ((q6.cell (p := ⟨w.heap.size, 1, none⟩) (by show w.heap.size < W3.heap.size; omega)).trans hHeld.2)⟩ (fun hHeld => ?_)
    clear hK K
    try simp only [Act.put, pq]
    obtain ⟨ao_b, L_b, cap_b, rfl, _, _⟩ := Mem.Own.form o_b6
    have o_b6 : Hid (Own W6 (W3.heap.size) W6.heap.size 5 (.slice ao_b L_b cap_b) (bs ([] ++ Puts.num h.n ++ Puts.txs [h.r]))) := o_b6
    have z6 : W5.heap.size ≤ W6.heap.size := q6.size
    have B6 : Hid (Below w.heap.size w W6) := B5.out.trans (q6.mono (by have := B5.out.size; omega))
    clear o_a5
    clear f_t5
    clear q6
    refine Ke.z 9 rfl (fun K hK => ?_)
    go_simp
    refine (Puts.putts_impl W6 _ _ ([] ++ Puts.num h.n ++ Puts.txs [h.r]) x o_b6.out.sl (HS.out.later B6.out) (by have := HT.out; simp only [Puts.txs, List.nil_append, List.append_nil, List.length_append]; omega) (by omega)).mono ?_
    rintro e W7 ⟨v_c, rfl, o_c7, b7⟩
    refine hK.out _ _ ⟨(keepR (W := W6) hHeld.1 b7), (keepR (W := W6) hHeld.2 b7)⟩ (fun hHeld => ?_)
    clear hK K
    try simp only [Act.put, pq]
    obtain ⟨ao_c, L_c, cap_c, rfl, hL_c, hM_c⟩ := o_c7.form
    have o_c7 : Hid (Own W7 W6.heap.size W7.heap.size 5 (.slice ao_c L_c cap_c) (bs ([] ++ Puts.num h.n ++ Puts.txs [h.r] ++ Puts.num (x.length : Int) ++ Puts.txs x))) := o_c7
    clear hL_c hM_c
    have z7 := b7.size
    have B7 := Ke.b B6 b7
    clear o_b6
    refine Ke.q 10 ?_; try simp only [Act.put, pq]
    refine wpAnyH_done (by kernel_rfl) ?_ _
    clear hHeld
    obtain ⟨Y, hY⟩ : ∃ Y, body h x = Y := ⟨_, rfl⟩
    have o_c7 : Hid (Own W7 (W6.heap.size) (W7.heap.size) 5 (.slice ao_c L_c cap_c) (bs Y)) := by show Own _ _ _ _ _ _; have h9 := o_c7.out; have e9 : [] ++ Puts.num h.n ++ Puts.txs [h.r] ++ Puts.num (x.length : Int) ++ Puts.txs x = Y := by { rw [← hY]; unfold body; simp only [Puts.txs, List.nil_append, List.append_nil, List.append_assoc] }; rw [e9] at h9; exact h9
    have hLc : L_c ≤ Y.length ∧ Y.length ≤ L_c := by obtain ⟨a9, L9, c9, he, h1, h2⟩ := Mem.Own.form o_c7.out; injection he with _ he2 _; rw [bs_len] at h1 h2; omega
    have hYb : Y.length ≤ h.r.size + 15 + 5 * x.length + Puts.tot x := by rw [← hY]; exact hbl
    have hYB : Byt Y := by rw [← hY]; exact body_byt h x
    have HY : Hid (body h x = Y) := hY
    have HYB : Hid (Byt Y) := hYB
    clear hY hbl hYB
    have hLe : (L_c : Int) = (Y.length : Int) := by omega
    have HLE : Hid ((L_c : Int) = (Y.length : Int)) := hLe
    clear hLe
    go_wp2_with fail
    refine (Puts.put_impl W7 (.slice none 0 0) [] (L_c : Int) (Sl.nil _) (by simp)).mono ?_
    rintro e W8 ⟨v_m, rfl, o_m8, b8⟩
    obtain ⟨ao_m, L_m, cap_m, rfl, hL_m, hM_m⟩ := o_m8.form
    have o_m8 : Hid (Own W8 W7.heap.size W8.heap.size 5 (.slice ao_m L_m cap_m) (bs ([] ++ Puts.num (L_c : Int)))) := o_m8
    clear hL_m hM_m
    have z8 := b8.size
    have B8 := Ke.b B7 b8
    have o_c8 := Ke.o o_c7 b8
    clear o_c7
    obtain ⟨N, hN⟩ : ∃ N, Puts.num (L_c : Int) = N := ⟨_, rfl⟩
    have n3 := (Puts.num_len (L_c : Int)).2
    rw [hN] at n3
    have o_m8 : Hid (Own W8 (W7.heap.size) (W8.heap.size) 5 (.slice ao_m L_m cap_m) (bs N)) := by show Own _ _ _ _ _ _; have h9 := o_m8.out; rw [hN, List.nil_append] at h9; exact h9
    have HN : Hid (Puts.num (Y.length : Int) = N) := by show _ = _; rw [← HLE.out, hN]
    clear hN
    obtain ⟨d1, d2, d3⟩ := dig4 Y
    have qd : ∀ W v1, Glob W → Sl W v1 (bs Y) → _ := fun W v1 g1 h1 => sum_impl W v1 Y g1 h1 HYB.out (by omega)
    obtain ⟨T, hT⟩ : ∃ T, (Plain.txt (digest Y)).extract 0 4 = T := ⟨_, rfl⟩
    rw [hT] at d2 d3
    simp only [hT] at qd
    have HT4 : Hid (sb T = sum4 Y) := d3
    have hTs : T.size ≤ 4 := by omega
    clear d1 d2 d3 hT
    go_wp2_with fail
    refine (qd W8 _ (HG.out.later B8.out) o_c8.out.sl).mono ?_
    rintro e W9 ⟨rfl, b9⟩
    have z9 := b9.size
    have B9 := Ke.b B8 b9
    have o_c9 := Ke.o o_c8 b9
    have o_m9 := Ke.o o_m8 b9
    clear o_c8 o_m8
    obtain ⟨cpT, W10, hcv10, slT, b10⟩ := strB12 W9 T
    have z10 := b10.size
    have B10 := Ke.b B9 b10
    have o_c10 := Ke.o o_c9 b10
    have o_m10 := Ke.o o_m9 b10
    clear o_c9 o_m9
    have f_T10 : Hid (Sl W10 (.slice (some ⟨W9.heap.size, 0, none⟩) T.size cpT) (bs (sb T))) := slT
    clear slT
    obtain ⟨W11, HW11, b11, ff11⟩ : ∃ X, Hid ((W10.alloc (.cells #[.slice ao_m L_m cap_m, .slice ao_c L_c cap_c, .slice (some ⟨W9.heap.size, 0, none⟩) T.size cpT] 22)) = X) ∧ Below W10.heap.size W10 X ∧ Hid (Sl X (.slice (some ⟨W10.heap.size, 0, none⟩) 3 3) [.slice ao_m L_m cap_m, .slice ao_c L_c cap_c, .slice (some ⟨W9.heap.size, 0, none⟩) T.size cpT]) := ⟨_, rfl, (Below.refl _ _).alloc (Nat.le_refl _) _, slAlloc W10 [.slice ao_m L_m cap_m, .slice ao_c L_c cap_c, .slice (some ⟨W9.heap.size, 0, none⟩) T.size cpT] 22⟩
    have z11 := b11.size
    have B11 := Ke.b B10 b11
    have o_c11 := Ke.o o_c10 b11
    have o_m11 := Ke.o o_m10 b11
    clear o_c10 o_m10
    have f_T11 := Ke.h (Sl.later f_T10.out b11)
    clear f_T10
    have qj := joined_impl W11 _ _ [N, Y, sb T] ff11.out rfl (part3 o_m11.out.sl o_c11.out.sl f_T11.out) (by simp) (by simp [sb_len]; omega)
    have e9 : [N, Y, sb T].flatten = P := by
     rw [HP.out]
     simp only [if_true]
     unfold put
     rw [HY.out, HN.out, HT4.out]
     simp
    rw [e9] at qj
    clear e9 HP HT4 HN HY HT HYB HLE qd
    go_wp2_with fail
    rw [HW11.out]
    refine (qj).mono ?_
    rintro e W12 ⟨v_z, rfl, o_z12, b12⟩
    obtain ⟨ao_z, L_z, cap_z, rfl, hL_z, hM_z⟩ := o_z12.form
    have o_z12 : Hid (Own W12 W11.heap.size W12.heap.size 5 (.slice ao_z L_z cap_z) (bs P)) := o_z12
    clear hL_z hM_z
    have z12 := b12.size
    have B12 := Ke.b B11 b12
    clear o_c11 o_m11
    clear f_T11
    go_wp2
    go_ret
    exact ⟨_, rfl, o_z12.out.mono (by omega) (Nat.le_refl _), B12.out⟩
   ·go_simp
    refine hK.out _ _ ⟨(keepR (W := W3) hHeld.1 ((Below.refl _ _).alloc (Nat.le_refl _) _)), (keepR (W := W3) hHeld.2 ((Below.refl _ _).alloc (Nat.le_refl _) _))⟩ (fun hHeld => ?_)
    clear hK K
    try simp only [Act.put, pq]
    obtain ⟨W4, HW4, b4, ff4⟩ : ∃ X, Hid ((W3.alloc (.cells #[.string h.r] 9)) = X) ∧ Below W3.heap.size W3 X ∧ Hid (Sl X (.slice (some ⟨W3.heap.size, 0, none⟩) 1 1) (ss [h.r])) := ⟨_, rfl, ((Below.refl _ _).alloc (Nat.le_refl _) _), Puts.Sl.oneStr W3 _ _⟩
    have HHW4 := HW4.out
    rw [HHW4] at hHeld ⊢
    clear HHW4
    have z4 := b4.size
    have B4 := Ke.b B3 b4
    have f_n4 := Ke.h (Sl.later f_n3.out b4)
    clear f_n3
    have f_t4 : Hid (Sl W4 (.slice (some ⟨W3.heap.size, 0, none⟩) 1 1) (ss [h.r])) := ff4.out
    clear ff4
    refine Ke.z 3 rfl (fun K hK => ?_)
    go_simp
    refine (Puts.nums_one W4 W4.heap.size _ [] _ h.n (nil5 _ _ _) (Nat.le_refl _) (by simp) (slOne f_n4.out)).mono ?_
    rintro e W5 ⟨v_a, rfl, o_a5, b5⟩
    refine hK.out _ _ ⟨(keepR (W := W4) hHeld.1 b5), (keepR (W := W4) hHeld.2 b5)⟩ (fun hHeld => ?_)
    clear hK K
    try simp only [Act.put, pq]
    obtain ⟨ao_a, L_a, cap_a, rfl, hL_a, hM_a⟩ := o_a5.form
    have o_a5 : Hid (Own W5 W4.heap.size W5.heap.size 5 (.slice ao_a L_a cap_a) (bs ([] ++ Puts.num h.n))) := o_a5
    clear hL_a hM_a
    have z5 := b5.size
    have B5 := Ke.b B4 b5
    have f_t5 := Ke.h (Sl.later f_t4.out b5)
    clear f_n4 f_t4
    refine Ke.z 7 rfl (fun K hK => ?_)
    go_simp
    refine (Puts.texts_any W5 (W4.heap.size) _ ([] ++ Puts.num h.n) _ [h.r] (Own.mono o_a5.out (Nat.le_refl _) (by omega)) (by omega) f_t5.out (fun _ _ h9 => by simp at h9) (by simp [Puts.txs]; omega) (by simp)).mono ?_
    rintro e W6 ⟨v_b, rfl, o_b6, q6⟩
    refine hK.out _ _ ⟨((q6.cell (p := ⟨w.heap.size, 0, none⟩) (by show w.heap.size < W4.heap.size; omega)).trans hHeld.1), ((q6.cell (p := ⟨w.heap.size, 1, none⟩) (by show w.heap.size < W4.heap.size; omega)).trans hHeld.2)⟩ (fun hHeld => ?_)
    clear hK K
    try simp only [Act.put, pq]
    obtain ⟨ao_b, L_b, cap_b, rfl, _, _⟩ := Mem.Own.form o_b6
    have o_b6 : Hid (Own W6 (W4.heap.size) W6.heap.size 5 (.slice ao_b L_b cap_b) (bs ([] ++ Puts.num h.n ++ Puts.txs [h.r]))) := o_b6
    have z6 : W5.heap.size ≤ W6.heap.size := q6.size
    have B6 : Hid (Below w.heap.size w W6) := B5.out.trans (q6.mono (by have := B5.out.size; omega))
    clear o_a5
    clear f_t5
    clear q6
    refine Ke.z 9 rfl (fun K hK => ?_)
    go_simp
    refine (Puts.putts_impl W6 _ _ ([] ++ Puts.num h.n ++ Puts.txs [h.r]) x o_b6.out.sl (HS.out.later B6.out) (by have := HT.out; simp only [Puts.txs, List.nil_append, List.append_nil, List.length_append]; omega) (by omega)).mono ?_
    rintro e W7 ⟨v_c, rfl, o_c7, b7⟩
    refine hK.out _ _ ⟨(keepR (W := W6) hHeld.1 b7), (keepR (W := W6) hHeld.2 b7)⟩ (fun hHeld => ?_)
    clear hK K
    try simp only [Act.put, pq]
    obtain ⟨ao_c, L_c, cap_c, rfl, hL_c, hM_c⟩ := o_c7.form
    have o_c7 : Hid (Own W7 W6.heap.size W7.heap.size 5 (.slice ao_c L_c cap_c) (bs ([] ++ Puts.num h.n ++ Puts.txs [h.r] ++ Puts.num (x.length : Int) ++ Puts.txs x))) := o_c7
    clear hL_c hM_c
    have z7 := b7.size
    have B7 := Ke.b B6 b7
    clear o_b6
    refine Ke.q 10 ?_; try simp only [Act.put, pq]
    refine wpAnyH_done (by kernel_rfl) ?_ _
    clear hHeld
    obtain ⟨Y, hY⟩ : ∃ Y, body h x = Y := ⟨_, rfl⟩
    have o_c7 : Hid (Own W7 (W6.heap.size) (W7.heap.size) 5 (.slice ao_c L_c cap_c) (bs Y)) := by show Own _ _ _ _ _ _; have h9 := o_c7.out; have e9 : [] ++ Puts.num h.n ++ Puts.txs [h.r] ++ Puts.num (x.length : Int) ++ Puts.txs x = Y := by { rw [← hY]; unfold body; simp only [Puts.txs, List.nil_append, List.append_nil, List.append_assoc] }; rw [e9] at h9; exact h9
    have hLc : L_c ≤ Y.length ∧ Y.length ≤ L_c := by obtain ⟨a9, L9, c9, he, h1, h2⟩ := Mem.Own.form o_c7.out; injection he with _ he2 _; rw [bs_len] at h1 h2; omega
    have hYb : Y.length ≤ h.r.size + 15 + 5 * x.length + Puts.tot x := by rw [← hY]; exact hbl
    have hYB : Byt Y := by rw [← hY]; exact body_byt h x
    have HY : Hid (body h x = Y) := hY
    have HYB : Hid (Byt Y) := hYB
    clear hY hbl hYB
    have hLe : (L_c : Int) = (Y.length : Int) := by omega
    have HLE : Hid ((L_c : Int) = (Y.length : Int)) := hLe
    clear hLe
    go_wp2_with fail
    refine (Puts.put_impl W7 (.slice none 0 0) [] (L_c : Int) (Sl.nil _) (by simp)).mono ?_
    rintro e W8 ⟨v_m, rfl, o_m8, b8⟩
    obtain ⟨ao_m, L_m, cap_m, rfl, hL_m, hM_m⟩ := o_m8.form
    have o_m8 : Hid (Own W8 W7.heap.size W8.heap.size 5 (.slice ao_m L_m cap_m) (bs ([] ++ Puts.num (L_c : Int)))) := o_m8
    clear hL_m hM_m
    have z8 := b8.size
    have B8 := Ke.b B7 b8
    have o_c8 := Ke.o o_c7 b8
    clear o_c7
    obtain ⟨N, hN⟩ : ∃ N, Puts.num (L_c : Int) = N := ⟨_, rfl⟩
    have n3 := (Puts.num_len (L_c : Int)).2
    rw [hN] at n3
    have o_m8 : Hid (Own W8 (W7.heap.size) (W8.heap.size) 5 (.slice ao_m L_m cap_m) (bs N)) := by show Own _ _ _ _ _ _; have h9 := o_m8.out; rw [hN, List.nil_append] at h9; exact h9
    have HN : Hid (Puts.num (Y.length : Int) = N) := by show _ = _; rw [← HLE.out, hN]
    clear hN
    obtain ⟨d1, d2, d3⟩ := dig4 Y
    have qd : ∀ W v1, Glob W → Sl W v1 (bs Y) → _ := fun W v1 g1 h1 => sum_impl W v1 Y g1 h1 HYB.out (by omega)
    obtain ⟨T, hT⟩ : ∃ T, (Plain.txt (digest Y)).extract 0 4 = T := ⟨_, rfl⟩
    rw [hT] at d2 d3
    simp only [hT] at qd
    have HT4 : Hid (sb T = sum4 Y) := d3
    have hTs : T.size ≤ 4 := by omega
    clear d1 d2 d3 hT
    go_wp2_with fail
    refine (qd W8 _ (HG.out.later B8.out) o_c8.out.sl).mono ?_
    rintro e W9 ⟨rfl, b9⟩
    have z9 := b9.size
    have B9 := Ke.b B8 b9
    have o_c9 := Ke.o o_c8 b9
    have o_m9 := Ke.o o_m8 b9
    clear o_c8 o_m8
    obtain ⟨cpT, W10, hcv10, slT, b10⟩ := strB12 W9 T
    have z10 := b10.size
    have B10 := Ke.b B9 b10
    have o_c10 := Ke.o o_c9 b10
    have o_m10 := Ke.o o_m9 b10
    clear o_c9 o_m9
    have f_T10 : Hid (Sl W10 (.slice (some ⟨W9.heap.size, 0, none⟩) T.size cpT) (bs (sb T))) := slT
    clear slT
    obtain ⟨W11, HW11, b11, ff11⟩ : ∃ X, Hid ((W10.alloc (.cells #[.slice ao_m L_m cap_m, .slice ao_c L_c cap_c, .slice (some ⟨W9.heap.size, 0, none⟩) T.size cpT] 22)) = X) ∧ Below W10.heap.size W10 X ∧ Hid (Sl X (.slice (some ⟨W10.heap.size, 0, none⟩) 3 3) [.slice ao_m L_m cap_m, .slice ao_c L_c cap_c, .slice (some ⟨W9.heap.size, 0, none⟩) T.size cpT]) := ⟨_, rfl, (Below.refl _ _).alloc (Nat.le_refl _) _, slAlloc W10 [.slice ao_m L_m cap_m, .slice ao_c L_c cap_c, .slice (some ⟨W9.heap.size, 0, none⟩) T.size cpT] 22⟩
    have z11 := b11.size
    have B11 := Ke.b B10 b11
    have o_c11 := Ke.o o_c10 b11
    have o_m11 := Ke.o o_m10 b11
    clear o_c10 o_m10
    have f_T11 := Ke.h (Sl.later f_T10.out b11)
    clear f_T10
    have qj := joined_impl W11 _ _ [N, Y, sb T] ff11.out rfl (part3 o_m11.out.sl o_c11.out.sl f_T11.out) (by simp) (by simp [sb_len]; omega)
    have e9 : [N, Y, sb T].flatten = P := by
     rw [HP.out]
     simp only [if_true]
     unfold put
     rw [HY.out, HN.out, HT4.out]
     simp
    rw [e9] at qj
    clear e9 HP HT4 HN HY HT HYB HLE qd
    go_wp2_with fail
    rw [HW11.out]
    refine (qj).mono ?_
    rintro e W12 ⟨v_z, rfl, o_z12, b12⟩
    obtain ⟨ao_z, L_z, cap_z, rfl, hL_z, hM_z⟩ := o_z12.form
    have o_z12 : Hid (Own W12 W11.heap.size W12.heap.size 5 (.slice ao_z L_z cap_z) (bs P)) := o_z12
    clear hL_z hM_z
    have z12 := b12.size
    have B12 := Ke.b B11 b12
    clear o_c11 o_m11
    clear f_T11
    go_wp2
    go_ret
    exact ⟨_, rfl, o_z12.out.mono (by omega) (Nat.le_refl _), B12.out⟩
  ·go_simp
   refine hK.out _ _ ⟨(keepR (W := W2.drew) hHeld.1 ((Below.refl _ _).alloc (Nat.le_refl _) _)), (keepR (W := W2.drew) hHeld.2 ((Below.refl _ _).alloc (Nat.le_refl _) _))⟩ (fun hHeld => ?_)
   clear hK K
   try simp only [Act.put, pq]
   obtain ⟨W3, HW3, b3, ff3⟩ : ∃ X, Hid ((W2.alloc (.cells #[.string h.r] 9)).drew = X) ∧ Below W2.heap.size W2 X ∧ Hid (Sl X (.slice (some ⟨W2.heap.size, 0, none⟩) 1 1) (ss [h.r])) := ⟨_, rfl, (Below.drew ((Below.refl _ _).alloc (Nat.le_refl _) _)), Puts.Sl.oneStr W2 _ _⟩
   have HHW3 := HW3.out
   rw [HHW3] at hHeld ⊢
   clear HHW3
   have z3 := b3.size
   have B3 := Ke.b B2 b3
   clear r_h2 c_h2
   have f_t3 : Hid (Sl W3 (.slice (some ⟨W2.heap.size, 0, none⟩) 1 1) (ss [h.r])) := ff3.out
   clear ff3
   refine Ke.z 2 rfl (fun K hK => ?_)
   go_simp
   refine hK.out _ _ ⟨(keepR (W := W3) hHeld.1 ((Below.refl _ _).alloc (Nat.le_refl _) _)), (keepR (W := W3) hHeld.2 ((Below.refl _ _).alloc (Nat.le_refl _) _))⟩ (fun hHeld => ?_)
   clear hK K
   try simp only [Act.put, pq]
   obtain ⟨W4, HW4, b4, ff4⟩ : ∃ X, Hid ((W3.alloc (.cells #[.int .i64 h.n] 3)) = X) ∧ Below W3.heap.size W3 X ∧ Hid (Sl X (.slice (some ⟨W3.heap.size, 0, none⟩) 1 1) [.int .i64 h.n]) := ⟨_, rfl, ((Below.refl _ _).alloc (Nat.le_refl _) _), Laws.Sl.one W3 _ _⟩
   have HHW4 := HW4.out
   rw [HHW4] at hHeld ⊢
   clear HHW4
   have z4 := b4.size
   have B4 := Ke.b B3 b4
   have f_t4 := Ke.h (Sl.later f_t3.out b4)
   clear f_t3
   have f_n4 : Hid (Sl W4 (.slice (some ⟨W3.heap.size, 0, none⟩) 1 1) [.int .i64 h.n]) := ff4.out
   clear ff4
   refine Ke.z 3 rfl (fun K hK => ?_)
   go_simp
   refine (Puts.nums_one W4 W4.heap.size _ [] _ h.n (nil5 _ _ _) (Nat.le_refl _) (by simp) (slOne f_n4.out)).mono ?_
   rintro e W5 ⟨v_a, rfl, o_a5, b5⟩
   refine hK.out _ _ ⟨(keepR (W := W4) hHeld.1 b5), (keepR (W := W4) hHeld.2 b5)⟩ (fun hHeld => ?_)
   clear hK K
   try simp only [Act.put, pq]
   obtain ⟨ao_a, L_a, cap_a, rfl, hL_a, hM_a⟩ := o_a5.form
   have o_a5 : Hid (Own W5 W4.heap.size W5.heap.size 5 (.slice ao_a L_a cap_a) (bs ([] ++ Puts.num h.n))) := o_a5
   clear hL_a hM_a
   have z5 := b5.size
   have B5 := Ke.b B4 b5
   have f_t5 := Ke.h (Sl.later f_t4.out b5)
   clear f_t4 f_n4
   refine Ke.z 7 rfl (fun K hK => ?_)
   go_simp
   refine (Puts.texts_any W5 (W4.heap.size) _ ([] ++ Puts.num h.n) _ [h.r] (Own.mono o_a5.out (Nat.le_refl _) (by omega)) (by omega) f_t5.out (fun _ _ h9 => by simp at h9) (by simp [Puts.txs]; omega) (by simp)).mono ?_
   rintro e W6 ⟨v_b, rfl, o_b6, q6⟩
   refine hK.out _ _ ⟨((q6.cell (p := ⟨w.heap.size, 0, none⟩) (by show w.heap.size < W4.heap.size; omega)).trans hHeld.1), ((q6.cell (p := ⟨w.heap.size, 1, none⟩) (by show w.heap.size < W4.heap.size; omega)).trans hHeld.2)⟩ (fun hHeld => ?_)
   clear hK K
   try simp only [Act.put, pq]
   obtain ⟨ao_b, L_b, cap_b, rfl, _, _⟩ := Mem.Own.form o_b6
   have o_b6 : Hid (Own W6 (W4.heap.size) W6.heap.size 5 (.slice ao_b L_b cap_b) (bs ([] ++ Puts.num h.n ++ Puts.txs [h.r]))) := o_b6
   have z6 : W5.heap.size ≤ W6.heap.size := q6.size
   have B6 : Hid (Below w.heap.size w W6) := B5.out.trans (q6.mono (by have := B5.out.size; omega))
   clear o_a5
   clear f_t5
   clear q6
   refine Ke.z 9 rfl (fun K hK => ?_)
   go_simp
   refine (Puts.putts_impl W6 _ _ ([] ++ Puts.num h.n ++ Puts.txs [h.r]) x o_b6.out.sl (HS.out.later B6.out) (by have := HT.out; simp only [Puts.txs, List.nil_append, List.append_nil, List.length_append]; omega) (by omega)).mono ?_
   rintro e W7 ⟨v_c, rfl, o_c7, b7⟩
   refine hK.out _ _ ⟨(keepR (W := W6) hHeld.1 b7), (keepR (W := W6) hHeld.2 b7)⟩ (fun hHeld => ?_)
   clear hK K
   try simp only [Act.put, pq]
   obtain ⟨ao_c, L_c, cap_c, rfl, hL_c, hM_c⟩ := o_c7.form
   have o_c7 : Hid (Own W7 W6.heap.size W7.heap.size 5 (.slice ao_c L_c cap_c) (bs ([] ++ Puts.num h.n ++ Puts.txs [h.r] ++ Puts.num (x.length : Int) ++ Puts.txs x))) := o_c7
   clear hL_c hM_c
   have z7 := b7.size
   have B7 := Ke.b B6 b7
   clear o_b6
   refine Ke.q 10 ?_; try simp only [Act.put, pq]
   refine wpAnyH_done (by kernel_rfl) ?_ _
   clear hHeld
   obtain ⟨Y, hY⟩ : ∃ Y, body h x = Y := ⟨_, rfl⟩
   have o_c7 : Hid (Own W7 (W6.heap.size) (W7.heap.size) 5 (.slice ao_c L_c cap_c) (bs Y)) := by show Own _ _ _ _ _ _; have h9 := o_c7.out; have e9 : [] ++ Puts.num h.n ++ Puts.txs [h.r] ++ Puts.num (x.length : Int) ++ Puts.txs x = Y := by { rw [← hY]; unfold body; simp only [Puts.txs, List.nil_append, List.append_nil, List.append_assoc] }; rw [e9] at h9; exact h9
   have hLc : L_c ≤ Y.length ∧ Y.length ≤ L_c := by obtain ⟨a9, L9, c9, he, h1, h2⟩ := Mem.Own.form o_c7.out; injection he with _ he2 _; rw [bs_len] at h1 h2; omega
   have hYb : Y.length ≤ h.r.size + 15 + 5 * x.length + Puts.tot x := by rw [← hY]; exact hbl
   have hYB : Byt Y := by rw [← hY]; exact body_byt h x
   have HY : Hid (body h x = Y) := hY
   have HYB : Hid (Byt Y) := hYB
   clear hY hbl hYB
   have hLe : (L_c : Int) = (Y.length : Int) := by omega
   have HLE : Hid ((L_c : Int) = (Y.length : Int)) := hLe
   clear hLe
   go_wp2_with fail
   refine (Puts.put_impl W7 (.slice none 0 0) [] (L_c : Int) (Sl.nil _) (by simp)).mono ?_
   rintro e W8 ⟨v_m, rfl, o_m8, b8⟩
   obtain ⟨ao_m, L_m, cap_m, rfl, hL_m, hM_m⟩ := o_m8.form
   have o_m8 : Hid (Own W8 W7.heap.size W8.heap.size 5 (.slice ao_m L_m cap_m) (bs ([] ++ Puts.num (L_c : Int)))) := o_m8
   clear hL_m hM_m
   have z8 := b8.size
   have B8 := Ke.b B7 b8
   have o_c8 := Ke.o o_c7 b8
   clear o_c7
   obtain ⟨N, hN⟩ : ∃ N, Puts.num (L_c : Int) = N := ⟨_, rfl⟩
   have n3 := (Puts.num_len (L_c : Int)).2
   rw [hN] at n3
   have o_m8 : Hid (Own W8 (W7.heap.size) (W8.heap.size) 5 (.slice ao_m L_m cap_m) (bs N)) := by show Own _ _ _ _ _ _; have h9 := o_m8.out; rw [hN, List.nil_append] at h9; exact h9
   have HN : Hid (Puts.num (Y.length : Int) = N) := by show _ = _; rw [← HLE.out, hN]
   clear hN
   obtain ⟨d1, d2, d3⟩ := dig4 Y
   have qd : ∀ W v1, Glob W → Sl W v1 (bs Y) → _ := fun W v1 g1 h1 => sum_impl W v1 Y g1 h1 HYB.out (by omega)
   obtain ⟨T, hT⟩ : ∃ T, (Plain.txt (digest Y)).extract 0 4 = T := ⟨_, rfl⟩
   rw [hT] at d2 d3
   simp only [hT] at qd
   have HT4 : Hid (sb T = sum4 Y) := d3
   have hTs : T.size ≤ 4 := by omega
   clear d1 d2 d3 hT
   go_wp2_with fail
   refine (qd W8 _ (HG.out.later B8.out) o_c8.out.sl).mono ?_
   rintro e W9 ⟨rfl, b9⟩
   have z9 := b9.size
   have B9 := Ke.b B8 b9
   have o_c9 := Ke.o o_c8 b9
   have o_m9 := Ke.o o_m8 b9
   clear o_c8 o_m8
   obtain ⟨cpT, W10, hcv10, slT, b10⟩ := strB12 W9 T
   have z10 := b10.size
   have B10 := Ke.b B9 b10
   have o_c10 := Ke.o o_c9 b10
   have o_m10 := Ke.o o_m9 b10
   clear o_c9 o_m9
   have f_T10 : Hid (Sl W10 (.slice (some ⟨W9.heap.size, 0, none⟩) T.size cpT) (bs (sb T))) := slT
   clear slT
   obtain ⟨W11, HW11, b11, ff11⟩ : ∃ X, Hid ((W10.alloc (.cells #[.slice ao_m L_m cap_m, .slice ao_c L_c cap_c, .slice (some ⟨W9.heap.size, 0, none⟩) T.size cpT] 22)) = X) ∧ Below W10.heap.size W10 X ∧ Hid (Sl X (.slice (some ⟨W10.heap.size, 0, none⟩) 3 3) [.slice ao_m L_m cap_m, .slice ao_c L_c cap_c, .slice (some ⟨W9.heap.size, 0, none⟩) T.size cpT]) := ⟨_, rfl, (Below.refl _ _).alloc (Nat.le_refl _) _, slAlloc W10 [.slice ao_m L_m cap_m, .slice ao_c L_c cap_c, .slice (some ⟨W9.heap.size, 0, none⟩) T.size cpT] 22⟩
   have z11 := b11.size
   have B11 := Ke.b B10 b11
   have o_c11 := Ke.o o_c10 b11
   have o_m11 := Ke.o o_m10 b11
   clear o_c10 o_m10
   have f_T11 := Ke.h (Sl.later f_T10.out b11)
   clear f_T10
   have qj := joined_impl W11 _ _ [N, Y, sb T] ff11.out rfl (part3 o_m11.out.sl o_c11.out.sl f_T11.out) (by simp) (by simp [sb_len]; omega)
   have e9 : [N, Y, sb T].flatten = P := by
    rw [HP.out]
    simp only [if_true]
    unfold put
    rw [HY.out, HN.out, HT4.out]
    simp
   rw [e9] at qj
   clear e9 HP HT4 HN HY HT HYB HLE qd
   go_wp2_with fail
   rw [HW11.out]
   refine (qj).mono ?_
   rintro e W12 ⟨v_z, rfl, o_z12, b12⟩
   obtain ⟨ao_z, L_z, cap_z, rfl, hL_z, hM_z⟩ := o_z12.form
   have o_z12 : Hid (Own W12 W11.heap.size W12.heap.size 5 (.slice ao_z L_z cap_z) (bs P)) := o_z12
   clear hL_z hM_z
   have z12 := b12.size
   have B12 := Ke.b B11 b12
   clear o_c11 o_m11
   clear f_T11
   go_wp2
   go_ret
   exact ⟨_, rfl, o_z12.out.mono (by omega) (Nat.le_refl _), B12.out⟩
theorem toList_inj12 {a b : ByteArray} (h : a.toList = b.toList) : a = b := by
 rw [ByteArray.toList_eq, ByteArray.toList_eq] at h
 exact ByteArray.ext (Array.ext' h)
def cutC (xs : List Int) (a : Int) (q m : Nat) : Hd × List ByteArray × Int × Bool := match inBody ((xs.drop q).take m) with
 | some (h, x) => (h, x, ((q + m + 4 : Nat) : Int), true)
 | none => no12 a
set_option maxRecDepth 1000000 in
theorem cut_impl (w : World) (v : Value) (xs : List Int) (a : Int) (hG : Glob w) (hN : NoC w) (hs : Sl w v (bs xs)) (hb : Byt xs) (hx : xs.length ≤ 1000000000000) (hlo : -9223372036854775808 ≤ a) (hhi : a ≤ 9223372036854775807) :
  Calls Tryz.prog 157 #[v, .int .i64 a] w fun e w' => (((∃ u x, e = .panicked [{ v := .iface u x, recovered := false }]) ∧ getC xs a = no12 a) ∨ (∃ (q m b off cap : Nat), v = .slice (some ⟨b, off, none⟩) xs.length cap ∧ e = .returned (.tuple #[.slice (some ⟨b, off + q, none⟩) m (cap - q), .int .i64 ((q + m + 4 : Nat) : Int)]) ∧ q + m + 4 ≤ xs.length ∧ getC xs a = cutC xs a q m)) ∧ Below w.heap.size w w' := by
 have HS : Hid (Sl w v (bs xs)) := hs
 have HBY : Hid (Byt xs) := hb
 have HG : Hid (Glob w) := hG
 have HN : Hid (NoC w) := hN
 obtain ⟨ao0, cap0, rfl, hc0⟩ := hs.form
 rw [bs_len] at *
 clear hs hb hG hN
 have B0 : Hid (Below w.heap.size w w) := Below.refl _ _
 have q1 := Gets.get_impl w _ xs a HS.out HBY.out (by omega) hlo hhi
 obtain ⟨n, p, ok, hg⟩ : ∃ n p ok, Plain.getNum xs a = (n, p, ok) := ⟨_, _, _, rfl⟩
 rw [hg] at q1
 have HGN : Hid (Plain.getNum xs a = (n, p, ok)) := hg
 simp only at q1
 clear hg
 obtain ⟨G, hG⟩ : ∃ G, getC xs a = G := ⟨_, rfl⟩
 have HGG : Hid (getC xs a = G) := hG
 rw [hG]
 clear hG
 go_enter Tryz.func157, Tryz.ntmps157
 go_wp2_with fail
 refine (q1).mono ?_
 rintro e W_ ⟨rfl, hW_⟩
 have hW_ := hW_.symm
 subst hW_
 clear q1
 cases ok
 ·have HNO : Hid (G = no12 a) := by show _ = _; rw [← HGG.out]; unfold getC; rw [HGN.out, if_neg (by simp)]
  go_wp2_with fail
  refine (giveup_no w (HN.out.later B0.out)).mono ?_
  rintro e W_ ⟨⟨u9, x9, rfl⟩, hW_⟩
  subst hW_
  go_wp2
  exact ⟨rfl, Or.inl ⟨⟨_, _, rfl⟩, HNO.out⟩, B0.out⟩
 ·obtain ⟨g0, g1, g2, g3, g4, g5⟩ := Plain.getNum_bd HGN.out
  obtain ⟨m, rfl⟩ : ∃ m : Nat, n = (m : Int) := ⟨n.toNat, by omega⟩
  obtain ⟨q, rfl⟩ : ∃ q : Nat, p = (q : Int) := ⟨p.toNat, by omega⟩
  have wa : IntKind.i64.wrap ((xs.length : Int) - (q : Int)) = (xs.length : Int) - (q : Int) := by rw [IntKind.wrap_i64]; omega
  have wb : IntKind.i64.wrap ((xs.length : Int) - (q : Int) - 4) = (xs.length : Int) - (q : Int) - 4 := by rw [IntKind.wrap_i64]; omega
  by_cases hcc : (m : Int) ≤ (xs.length : Int) - (q : Int) - 4
  ·have dc : decide ((m : Int) ≤ (xs.length : Int) - (q : Int) - 4) = true := decide_eq_true hcc
   go_wp2_with fail
   refine (giveup_yes w).mono ?_
   rintro e W_ ⟨rfl, hW_⟩
   subst hW_
   clear dc
   obtain ⟨b, off, cap, he, hcap⟩ := slForm HS.out (by rw [bs_len]; omega)
   simp only [Value.slice.injEq] at he
   obtain ⟨rfl, -, rfl⟩ := he
   rw [bs_len] at hcap
   have hcq : ¬ cap0 = q := by omega
   obtain ⟨Y, hY⟩ : ∃ Y, (xs.drop q).take m = Y := ⟨_, rfl⟩
   have hYl : Y.length ≤ m ∧ m ≤ Y.length := by rw [← hY, List.length_take, List.length_drop]; omega
   have HYB : Hid (Byt Y) := by show Byt Y; rw [← hY]; exact fun y hy => HBY.out y (List.mem_of_mem_drop (List.mem_of_mem_take hy))
   have f_Y0 : Hid (Sl w (.slice (some ⟨b, off + q, none⟩) m (cap0 - q)) (bs Y)) := by show Sl _ _ _; rw [← hY]; exact slMidB (HS.out.later B0.out) q m (by omega)
   have HYY : Hid ((xs.drop q).take m = Y) := hY
   clear hY
   obtain ⟨K, hK⟩ : ∃ K, q + m = K := ⟨_, rfl⟩
   obtain ⟨J, hJ⟩ : ∃ J, K + 4 = J := ⟨_, rfl⟩
   have HKJ : Hid (q + m = K ∧ K + 4 = J) := ⟨hK, hJ⟩
   have iK : (K : Int) = (q : Int) + (m : Int) ∧ (J : Int) = (K : Int) + 4 := by omega
   have HIK : Hid ((K : Int) = (q : Int) + (m : Int) ∧ (J : Int) = (K : Int) + 4) := iK
   clear hK hJ iK
   obtain ⟨T, hT⟩ : ∃ T, Plain.txt ((xs.drop K).take 4) = T := ⟨_, rfl⟩
   have cv : ∀ W, Below w.heap.size w W → (convert 22 9 (.slice (some ⟨b, off + K, none⟩) 4 (cap0 - K))).run Tryz.prog W = .ok (.string T) W := fun W hW => by rw [← hT]; exact conv12 (HS.out.later hW) HBY.out (by have := HKJ.out; omega)
   have HTT : Hid (Plain.txt ((xs.drop K).take 4) = T) := hT
   have HCV : Hid (∀ W, Below w.heap.size w W → (convert 22 9 (.slice (some ⟨b, off + K, none⟩) 4 (cap0 - K))).run Tryz.prog W = .ok (.string T) W) := cv
   clear hT cv
   obtain ⟨d1, d2, d3⟩ := dig4 Y
   have qd : ∀ W v1, Glob W → Sl W v1 (bs Y) → _ := fun W v1 g1 h1 => sum_impl W v1 Y g1 h1 HYB.out (by omega)
   obtain ⟨D4, hD4⟩ : ∃ T, (Plain.txt (digest Y)).extract 0 4 = T := ⟨_, rfl⟩
   rw [hD4] at d2 d3
   simp only [hD4] at qd
   have HD4 : Hid (sb D4 = sum4 Y) := d3
   clear d1 d2 d3 hD4
   have HIY : Hid (getC xs a = if T = D4 then cutC xs a q m else no12 a) := by
    show _ = _
    unfold getC cutC
    rw [HGN.out, if_pos ⟨rfl, hcc⟩]
    simp only [Int.toNat_natCast]
    rw [HYY.out]
    have e4 : (xs.drop (q + m)).take 4 = sb T := by rw [HKJ.out.1]; rw [← HTT.out, sb_txt (fun y hy => HBY.out y (List.mem_of_mem_drop (List.mem_of_mem_take hy)))]
    cases inBody Y with
    | none => simp
    | some z =>
     obtain ⟨h, x⟩ := z
     simp only
     by_cases hTD : T = D4
     ·rw [if_pos hTD, if_pos (by rw [e4, hTD, HD4.out])]
      simp only [Prod.mk.injEq, true_and, and_true]
      omega
     ·rw [if_neg hTD, if_neg]
      intro he
      rw [e4, ← HD4.out] at he
      exact hTD (sb_inj12 he)
   have wr1 : IntKind.i64.wrap ((q : Int) + (m : Int)) = (K : Int) := by have := HIK.out; rw [IntKind.wrap_i64]; omega
   have wr2 : IntKind.i64.wrap ((K : Int) + 4) = (J : Int) := by have := HIK.out; rw [IntKind.wrap_i64]; omega
   have wr3 : (J : Int) ≤ (cap0 : Int) := by have := HIK.out; omega
   have wr4 : (K : Int) ≤ max (J : Int) 0 := by have := HIK.out; omega
   have wr5 : ¬ cap0 = K := by have := HKJ.out; omega
   have wr6 : J - K = 4 := by have := HKJ.out; omega
   have wr7 : (K : Int) ≤ (J : Int) := by have := HIK.out; omega
   have wr8 : K - q = m := by have := HKJ.out; omega
   have wr9 : (q : Int) ≤ (K : Int) := by have := HIK.out; omega
   have wrA : (K : Int) ≤ (cap0 : Int) := by have := HIK.out; omega
   have hJx : J ≤ xs.length := by have := HIK.out; omega
   go_wp2_with fail
   refine wp_region_held_drew (S := fun w' => (convert 22 9 (.slice (some ⟨b, off + K, none⟩) 4 (cap0 - K))).run Tryz.prog w' = .ok (.string T) w') (by kernel_rfl) (HCV.out _ (Below.drew B0.out)) (fun hHeld => ?_)
   refine Ke.q 0 ?_; try simp only [Act.put, pq]
   refine Ke.q 1 ?_; try simp only [Act.put, pq]
   refine Ke.q 2 ?_; try simp only [Act.put, pq]
   refine Ke.q 3 ?_; try simp only [Act.put, pq]
   refine Ke.q 4 ?_; try simp only [Act.put, pq]
   refine Ke.q 5 ?_; try simp only [Act.put, pq]
   refine Ke.z 6 rfl (fun K hK => ?_)
   go_simp
   refine (qd w.drew _ (HG.out.later (Below.drew B0.out)) (Sl.later (w := w) f_Y0.out (Below.drew (Below.refl _ _)))).mono ?_
   rintro e W1 ⟨rfl, b1⟩
   have b1 : Below w.heap.size w W1 := (Below.drew (Below.refl _ _)).trans b1
   refine hK.out _ _ (HCV.out _ (B0.out.trans (b1.mono B0.out.size))) (fun hHeld => ?_)
   clear hK K
   try simp only [Act.put, pq]
   have z1 := b1.size
   have B1 := Ke.b B0 b1
   clear f_Y0
   clear qd
   by_cases hT : T = D4
   ·have HY6 : Hid (G = cutC xs a q m) := by show _ = _; rw [← HGG.out, HIY.out, if_pos hT]
    clear HIY HD4 HTT HCV
    subst hT
    have te : (T.toList == T.toList) = true := by simp
    refine Ke.q 7 ?_; try simp only [Act.put, pq]
    refine Ke.z 8 rfl (fun K hK => ?_)
    go_simp
    refine (giveup_yes W1).mono ?_
    rintro e W_ ⟨rfl, hW_⟩
    subst hW_
    refine hK.out _ _ hHeld (fun hHeld => ?_)
    clear hK K
    try simp only [Act.put, pq]
    refine wpAnyH_done (by kernel_rfl) ?_ _
    clear hHeld
    go_wp2
    go_ret2
    have e7 : q + m + 4 = J := by have := HKJ.out; omega
    exact ⟨Or.inr ⟨q, m, b, off, cap0, rfl, by rw [e7]; rfl, by rw [e7]; exact hJx, HY6.out⟩, B1.out⟩
   ·have HY6 : Hid (G = no12 a) := by show _ = _; rw [← HGG.out, HIY.out, if_neg hT]
    clear HIY HD4 HTT HCV
    have hTl : (T.toList == D4.toList) = false := by rw [beq_eq_false_iff_ne]; exact fun h9 => hT (toList_inj12 h9)
    refine Ke.q 7 ?_; try simp only [Act.put, pq]
    refine Ke.z 8 rfl (fun K hK => ?_)
    go_simp
    refine (giveup_no W1 (HN.out.later B1.out)).mono ?_
    rintro e W_ ⟨⟨u9, x9, rfl⟩, hW_⟩
    subst hW_
    go_simp
    exact ⟨rfl, Or.inl ⟨⟨_, _, rfl⟩, HY6.out⟩, B1.out⟩
  ·have dc : decide ((m : Int) ≤ (xs.length : Int) - (q : Int) - 4) = false := decide_eq_false hcc
   have HNO : Hid (G = no12 a) := by show _ = _; rw [← HGG.out]; unfold getC; rw [HGN.out, if_neg (fun h9 => hcc h9.2)]
   go_wp2_with fail
   refine (giveup_no w (HN.out.later B0.out)).mono ?_
   rintro e W_ ⟨⟨u9, x9, rfl⟩, hW_⟩
   subst hW_
   go_wp2
   exact ⟨rfl, Or.inl ⟨⟨_, _, rfl⟩, HNO.out⟩, B0.out⟩
set_option maxRecDepth 1000000 in
theorem readb_impl (w : World) (v : Value) (Y : List Int) (hN : NoC w) (hs : Sl w v (bs Y)) (hb : Byt Y) (hx : Y.length ≤ 1000000000000) :
  Calls Tryz.prog 158 #[v] w fun e w' => (((∃ u x, e = .panicked [{ v := .iface u x, recovered := false }]) ∧ inBody Y = none) ∨ (∃ (h : Hd) (x : List ByteArray) (u : Value), e = .returned (.tuple #[.agg #[.int .i64 h.n, .string h.r], u]) ∧ inBody Y = some (h, x) ∧ Own w' w.heap.size w'.heap.size 9 u (ss x))) ∧ Below w.heap.size w w' := by
 have HS : Hid (Sl w v (bs Y)) := hs
 have HBY : Hid (Byt Y) := hb
 have HN : Hid (NoC w) := hN
 obtain ⟨ao0, cap0, rfl, hc0⟩ := hs.form
 rw [bs_len] at *
 clear hs hb hN
 have B0 : Hid (Below w.heap.size w w) := Below.refl _ _
 obtain ⟨i9, hi9, hz9a, hz9b, hz9c⟩ := info_parts info9t
 obtain ⟨W1, HW1, b1, y1, hS1, r_res1⟩ := Ke.l1 w #[.int .i64 0, .string ⟨#[]⟩] 26
 have z1 := b1.size
 have B1 := Ke.b B0 b1
 have q2 := Gets.get_impl W1 _ Y 0 (HS.out.later B1.out) HBY.out (by omega) (by omega) (by omega)
 obtain ⟨n2, p2, ok2, hg2⟩ : ∃ n p ok, Plain.getNum Y 0 = (n, p, ok) := ⟨_, _, _, rfl⟩
 simp only [hg2] at q2
 have HG2 : Hid (Plain.getNum Y 0 = (n2, p2, ok2)) := hg2
 have sm2 := getNum_small Y 0
 rw [hg2] at sm2
 simp only at sm2
 clear hg2
 have q3 := GetT.text_impl W1 _ Y p2 (HS.out.later B1.out) HBY.out (by omega) (by omega) (by omega)
 obtain ⟨s3, p3, ok3, hg3⟩ : ∃ n p ok, Plain.getText Y p2 = (n, p, ok) := ⟨_, _, _, rfl⟩
 simp only [hg3] at q3
 have HG3 : Hid (Plain.getText Y p2 = (s3, p3, ok3)) := hg3
 have sm3 := getText_small Y p2
 rw [hg3] at sm3
 simp only at sm3
 clear hg3
 have q4 := GetTs.texts_impl W1 _ Y p3 (HS.out.later B1.out) HBY.out (by omega) (by omega) (by omega)
 obtain ⟨l4, p4, ok4, hg4⟩ : ∃ n p ok, Plain.getTexts Y p3 = (n, p, ok) := ⟨_, _, _, rfl⟩
 unfold GetTs.Done at q4
 simp only [hg4] at q4
 have HG4 : Hid (Plain.getTexts Y p3 = (l4, p4, ok4)) := hg4
 have sm4 := Plain.getTexts_len Y p3
 rw [hg4] at sm4
 simp only at sm4
 clear hg4
 obtain ⟨G, hG⟩ : ∃ G, inBody Y = G := ⟨_, rfl⟩
 rw [hG]
 have HIF : Hid (¬ (ok2 = true ∧ ok3 = true ∧ ok4 = true ∧ p4 = (Y.length : Int) ∧ okH ⟨n2, s3⟩ = true ∧ ¬ l4.length = 0) → G = none) := by
  intro hnot
  rw [← hG]
  unfold inBody
  rw [HG2.out]
  simp only
  rw [HG3.out]
  simp only
  rw [HG4.out]
  exact if_neg hnot
 have HIY : Hid (ok2 = true → ok3 = true → ok4 = true → p4 = (Y.length : Int) → okH ⟨n2, s3⟩ = true → ¬ l4.length = 0 → G = some (⟨n2, s3⟩, l4)) := by
  intro h1 h2 h3 h4 h5 h6
  rw [← hG]
  unfold inBody
  rw [HG2.out]
  simp only
  rw [HG3.out]
  simp only
  rw [HG4.out]
  exact if_pos ⟨h1, h2, h3, h4, h5, h6⟩
 clear hG
 go_enter Tryz.func158, Tryz.ntmps158
 go_wp2_with fail
 rw [HW1.out]
 refine (q2).mono ?_
 rintro e W_ ⟨rfl, hW_⟩
 have hW_ := hW_.symm
 subst hW_
 clear q2
 cases ok2
 ·have HNO : Hid (G = none) := HIF.out (by rintro ⟨h1, h2, h3, h4, h5, h6⟩; cases h1)
  go_wp2_with fail
  refine (giveup_no W1 (HN.out.later B1.out)).mono ?_
  rintro e W_ ⟨⟨u9, x9, rfl⟩, hW_⟩
  subst hW_
  go_wp2
  exact ⟨rfl, Or.inl ⟨⟨_, _, rfl⟩, HNO.out⟩, B1.out⟩
 ·go_wp2_with fail
  refine (giveup_yes W1).mono ?_
  rintro e W_ ⟨rfl, hW_⟩
  subst hW_
  go_wp2_with fail
  refine (q3).mono ?_
  rintro e W_ ⟨rfl, hW_⟩
  have hW_ := hW_.symm
  subst hW_
  clear q3
  cases ok3
  ·have HNO : Hid (G = none) := HIF.out (by rintro ⟨h1, h2, h3, h4, h5, h6⟩; cases h2)
   go_wp2_with fail
   refine (giveup_no W1 (HN.out.later B1.out)).mono ?_
   rintro e W_ ⟨⟨u9, x9, rfl⟩, hW_⟩
   subst hW_
   go_wp2
   exact ⟨rfl, Or.inl ⟨⟨_, _, rfl⟩, HNO.out⟩, B1.out⟩
  ·go_wp2_with fail
   refine (giveup_yes W1).mono ?_
   rintro e W_ ⟨rfl, hW_⟩
   subst hW_
   go_wp2_with fail
   refine (q4).mono ?_
   rintro e W2 ⟨v_t, rfl, o_t2, b2⟩
   obtain ⟨ao_t, L_t, cap_t, rfl, hL_t, hM_t⟩ := o_t2.form
   have o_t2 : Hid (Own W2 W1.heap.size W2.heap.size 9 (.slice ao_t L_t cap_t) (ss l4)) := o_t2
   clear hL_t hM_t
   have z2 := b2.size
   have B2 := Ke.b B1 b2
   have r_res2 := Ke.r r_res1 b2
   clear r_res1
   clear q4
   have hLt : L_t ≤ l4.length ∧ l4.length ≤ L_t := by obtain ⟨a9, L9, c9, he, h1, h2⟩ := Mem.Own.form o_t2.out; injection he with _ he2 _; rw [ss_len] at h1 h2; omega
   cases ok4
   ·have HNO : Hid (G = none) := HIF.out (by rintro ⟨h1, h2, h3, h4, h5, h6⟩; cases h3)
    go_wp2_with fail
    refine (giveup_no W2 (HN.out.later B2.out)).mono ?_
    rintro e W_ ⟨⟨u9, x9, rfl⟩, hW_⟩
    subst hW_
    go_wp2
    exact ⟨rfl, Or.inl ⟨⟨_, _, rfl⟩, HNO.out⟩, B2.out⟩
   ·by_cases hp : p4 = (Y.length : Int)
    ·have pe : (p4 == (Y.length : Int)) = true := by rw [beq_iff_eq]; exact hp
     have HP : Hid (p4 = (Y.length : Int)) := hp
     clear hp
     go_wp2_with fail
     refine (giveup_yes W2).mono ?_
     rintro e W_ ⟨rfl, hW_⟩
     subst hW_
     obtain ⟨W3, HW3, b3, y3, hS3, r_h3⟩ := Ke.l1 W2 #[.int .i64 n2, .string s3] 26
     have z3 := b3.size
     have B3 := Ke.b B2 b3
     have r_res3 := Ke.r r_res2 b3
     have o_t3 := Ke.o o_t2 b3
     clear r_res2 o_t2
     have qh : ∀ W v1, Sl W v1 (ss l4) → _ := fun W v1 h1 => iscommit_impl W (⟨n2, s3⟩ : Hd) v1 l4 h1 (by omega) (by show s3.size ≤ _; omega)
     have hE := isC_iff ⟨n2, s3⟩ l4
     obtain ⟨E, hEE⟩ : ∃ E, isC ⟨n2, s3⟩ l4 = E := ⟨_, rfl⟩
     simp only [hEE] at qh hE
     have HE : Hid (E = true ↔ okH ⟨n2, s3⟩ = true ∧ 1 ≤ l4.length ∧ l4.length ≤ 200) := hE
     clear hE hEE
     go_wp2_with fail
     rw [HW3.out]
     refine (qh W3 _ o_t3.out.sl).mono ?_
     rintro e W4 ⟨rfl, b4⟩
     have z4 := b4.size
     have B4 := Ke.b B3 b4
     have r_res4 := Ke.r r_res3 b4
     have r_h4 := Ke.r r_h3 b4
     have o_t4 := Ke.o o_t3 b4
     clear r_res3 r_h3 o_t3
     clear qh
     cases E
     ·have HNO : Hid (G = none) := HIF.out (by rintro ⟨h1, h2, h3, h4, h5, h6⟩; exact absurd (HE.out.2 ⟨h5, by omega, by omega⟩) (by simp))
      go_wp2_with fail
      refine (giveup_no W4 (HN.out.later B4.out)).mono ?_
      rintro e W_ ⟨⟨u9, x9, rfl⟩, hW_⟩
      subst hW_
      go_wp2
      exact ⟨rfl, Or.inl ⟨⟨_, _, rfl⟩, HNO.out⟩, B4.out⟩
     ·have hE := HE.out.1 rfl
      have HNY : Hid (G = some (⟨n2, s3⟩, l4)) := HIY.out (by trivial) (by trivial) (by trivial) HP.out hE.1 (by omega)
      clear hE HIY HIF HE
      go_wp2_with fail
      refine (giveup_yes W4).mono ?_
      rintro e W_ ⟨rfl, hW_⟩
      subst hW_
      go_wp2_with (first | (refine wpList_load_row rfl 26 _ rfl (W2.heap.size) rfl 26 (hc ⟨n2, s3⟩) (0, 0) _ r_h4.out Tryz.underlying26 rfl (sizeH _) ?_) | (refine wpList_store_row rfl 26 _ _ rfl (w.heap.size) (hc ⟨n2, s3⟩) rfl rfl 26 _ r_res4.out (sizeH _) rfl (oneH _) ?_))
      refine bodyPost_ret (res_row_tmp rfl _ _ (w.heap.size) 26 (hc ⟨n2, s3⟩) (0, 0) _ rfl (setRow_heap _ _ _ _ _ (0, 0) r_res4.out) Tryz.underlying26 rfl (sizeH _)) rfl ⟨Or.inr ⟨⟨n2, s3⟩, l4, .slice ao_t L_t cap_t, rfl, HNY.out, ?_⟩, below_setRow B4.out (by omega) _⟩
      exact (Own.setRow o_t4.out _ (by omega)).mono (by omega) (by rw [size_setRow]; omega)
    ·have pe : (p4 == (Y.length : Int)) = false := by rw [beq_eq_false_iff_ne]; exact hp
     have HNO : Hid (G = none) := HIF.out (by rintro ⟨h1, h2, h3, h4, h5, h6⟩; exact hp h4)
     go_wp2_with fail
     refine (giveup_no W2 (HN.out.later B2.out)).mono ?_
     rintro e W_ ⟨⟨u9, x9, rfl⟩, hW_⟩
     subst hW_
     go_wp2
     exact ⟨rfl, Or.inl ⟨⟨_, _, rfl⟩, HNO.out⟩, B2.out⟩
end Go.Proofs.YtchonoonclllbaaGreatDoor.Sr
