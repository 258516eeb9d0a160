/- Texts in one: KpC. -/
import Derived.Test.YtfpaichdkddglaaGreatDoorPm28
import Derived.Test.YtfpaichdkddglaaGreatDoorPm10
import Derived.Lib.ConvBytes
import Derived.Lib.AtoiErrMem
namespace Go.Proofs.YtfpaichdkddglaaGreatDoor.Sr
open Go.RowKit Go.Proofs.YtfpaichdkddglaaGreatDoor.Mem Go.Proofs.YtfpaichdkddglaaGreatDoor.Laws Go.Proofs.YtfpaichdkddglaaGreatDoor.Bytes Go.Proofs.YtfpaichdkddglaaGreatDoor.Sha Go.Proofs.YtfpaichdkddglaaGreatDoor.Tr Go.Proofs.YtfpaichdkddglaaGreatDoor.He Go.Proofs.YtfpaichdkddglaaGreatDoor.Lg
set_option linter.unusedVariables false
set_option linter.unusedSimpArgs false
theorem strB12 (w : World) (s : ByteArray) : ∃ (cap : Nat) (W : World), (convert 9 22 (.string s)).run Tryz.prog w = .ok (.slice (some ⟨w.heap.size, 0, none⟩) s.size cap) W ∧ Sl W (.slice (some ⟨w.heap.size, 0, none⟩) s.size cap) (bs (sb s)) ∧ Below w.heap.size w W := by
 refine ⟨_, _, Lib.run_convert_string_bytes w 9 22 5 s Tryz.underlying9 Tryz.underlying22 Tryz.underlying5, ⟨_, _, by rw [bs_len, sb_len], by rw [bs_len, sb_len]; exact grownCap_ge w s.size 0 5, fun h => (by cases h), fun _ => ⟨w.heap.size, 0, rfl, fun j hj => ?_⟩⟩, Lib.bytesWorld_below w 5 s⟩
 rw [bs_len, sb_len] at hj
 rw [Nat.zero_add, Lib.bytesWorld_cell w 5 s j hj, bs_get]
 have hj3 : j < s.data.size := hj
 simp [sb, List.getD]
 rw [Array.getElem?_eq_getElem hj3]
 simp
theorem nil5 (w : World) (lo hi : Nat) : Own w lo hi 5 (.slice none 0 0) (bs []) := ⟨⟨rfl, Or.inl ⟨rfl, rfl⟩⟩, fun g hg => by simp [Value.ownBlock] at hg⟩
theorem slOne {W : World} {g : Nat} {u : Value} (h : Sl W (.slice (some ⟨g, 0, none⟩) 1 1) [u]) : W.cell? ⟨g, 0, none⟩ = some u := by
 obtain ⟨ao, cap, he, _, _, hr⟩ := h
 simp only [Value.slice.injEq] at he
 obtain ⟨rfl, _, rfl⟩ := he
 obtain ⟨b, off, he, hc⟩ := hr (by simp)
 simp only [Option.some.injEq, Addr.mk.injEq, and_true] at he
 obtain ⟨rfl, rfl⟩ := he
 exact hc 0 (by simp)
theorem slAlloc (w : World) (cs : List Value) (t : TypeId) : Sl (w.alloc (.cells cs.toArray t)) (.slice (some ⟨w.heap.size, 0, none⟩) cs.length cs.length) cs := by
 refine ⟨_, _, rfl, Nat.le_refl _, fun h => by simp at h, fun _ => ⟨w.heap.size, 0, rfl, fun j hj => ?_⟩⟩
 rw [Nat.zero_add, cell_of_row _ w.heap.size j cs.toArray t (0, 0) (heap_alloc_new w _)]
 simp
theorem part2 {W : World} {a b : Value} {p q : List Int} (h : Sl W a (bs p)) (k : Sl W b (bs q)) : ∀ (i : Nat) (v : Value) (r : List Int), [a, b][i]? = some v → [p, q][i]? = some r → Sl W v (bs r) := by
 intro i v r h1 h2
 match i with
 | 0 => simp at h1 h2; rw [← h1, ← h2]; exact h
 | 1 => simp at h1 h2; rw [← h1, ← h2]; exact k
 | i + 2 => simp at h1
theorem part3 {W : World} {a b c : Value} {p q s : List Int} (h : Sl W a (bs p)) (k : Sl W b (bs q)) (m : Sl W c (bs s)) : ∀ (i : Nat) (v : Value) (r : List Int), [a, b, c][i]? = some v → [p, q, s][i]? = some r → Sl W v (bs r) := by
 intro i v r h1 h2
 match i with
 | 0 => simp at h1 h2; rw [← h1, ← h2]; exact h
 | 1 => simp at h1 h2; rw [← h1, ← h2]; exact k
 | 2 => simp at h1 h2; rw [← h1, ← h2]; exact m
 | i + 3 => simp at h1
set_option maxRecDepth 1000000 in
set_option maxHeartbeats 4000000 in
theorem putc_impl (w : World) (h : Hd) (v : Value) (x : List ByteArray) (hG : Glob w) (hs : Sl w v (ss x)) (hl : x.length ≤ 1000000000) (ht : Puts.tot x ≤ 100000000000) (hr : h.r.size ≤ 100000000000) :
  Calls Tryz.prog 58 #[.agg #[.int .i64 h.n, .string h.r], v] w fun e w' => ∃ v', e = .returned v' ∧ Own w' w.heap.size w'.heap.size 5 v' (bs (putC h x)) ∧ Below w.heap.size w w' := by
 have HS : Hid (Sl w v (ss x)) := hs
 have HG : Hid (Glob w) := hG
 have htl := Puts.txs_len x
 have hbl := body_len h x
 have n1 := (Puts.num_len h.n).2
 have n2 := Puts.tx_len h.r
 obtain ⟨ao0, cap0, rfl, hc0⟩ := hs.form
 rw [ss_len] at *
 clear hs hG
 have B0 : Hid (Below w.heap.size w w) := Below.refl _ _
 have HT : Hid ((Puts.txs x).length ≤ 5 * x.length + Puts.tot x) := htl
 clear htl
 obtain ⟨W1, HW1, b1, y1, hS1, r_h1⟩ : ∃ X, Hid ((w.alloc (.cells #[.int .i64 h.n, .string h.r] 28)) = X) ∧ Below w.heap.size w X ∧ w.heap.size + 1 ≤ X.heap.size ∧ Hid (X.heap.size = w.heap.size + 1) ∧ Hid (X.heap[w.heap.size]? = some (.cells #[.int .i64 h.n, .string h.r] 28 (0, 0))) := ⟨_, rfl, ((Below.refl _ _).alloc (Nat.le_refl _) _), by simp, by show _ = _; simp, (by show _ = _; exact alloc_nth1_0 w _)⟩
 have B1 : Hid (Below w.heap.size w W1) := B0.out.trans (b1.mono B0.out.size)
 have q1 : ∀ W v1, Sl W v1 (ss x) → _ := fun W v1 h1 => iscommit_impl W h v1 x h1 (by omega) (by omega)
 have hP : putC h x = if isC h x = true then put h x else [] := putC_isC h x
 obtain ⟨A, hA⟩ : ∃ A, isC h x = A := ⟨_, rfl⟩
 simp only [hA] at q1 hP
 clear hA
 obtain ⟨P, hPP⟩ : ∃ P, putC h x = P := ⟨_, rfl⟩
 rw [hPP]
 rw [hPP] at hP
 have HP : Hid (P = if A = true then put h x else []) := hP
 clear hP hPP
 go_enter Tryz.func58, Tryz.ntmps58
 go_wp2_with fail
 rw [HW1.out]
 refine (q1 W1 _ (HS.out.later B1.out)).mono ?_
 rintro e W2 ⟨rfl, b2⟩
 have z2 : W1.heap.size ≤ W2.heap.size := b2.size
 have B2 : Hid (Below w.heap.size w W2) := B1.out.trans (b2.mono B1.out.size)
 have r_h2 : Hid (W2.heap[w.heap.size]? = some (.cells #[.int .i64 h.n, .string h.r] 28 (0, 0))) := rowKeep r_h1.out b2
 have c_h2_0 : W2.cell? ⟨w.heap.size, 0, none⟩ = some (.int .i64 h.n) := row_at r_h2.out 0
 have c_h2_1 : W2.cell? ⟨w.heap.size, 1, none⟩ = some (.string h.r) := row_at r_h2.out 1
 clear r_h1
 clear q1
 cases A
 ·
  have e9 : P = [] := by rw [HP.out]; rfl
  subst e9
  go_wp2
  go_ret
  exact ⟨_, rfl, nil5 _ _ _, B2.out⟩
 ·
  go_wp2_with fail
  refine wp_region_held_drew (S := fun w' => w'.cell? ⟨w.heap.size, 0, none⟩ = some (.int .i64 h.n) ∧ w'.cell? ⟨w.heap.size, 1, none⟩ = some (.string h.r)) (by kernel_rfl) ⟨c_h2_0, c_h2_1⟩ (fun hHeld => ?_)
  (refine wpAnyH_take (i := 0) (v := ?v0x1) rfl (by kernel_rfl) (by kernel_rfl) (by kernel_rfl) (fun _ _ _ h => h) (Or.inl ⟨by rfl, ?hy0x1⟩) (by assumption) ?rest0x1; case hy0x1 => (intro w hSw; (try dsimp only at hSw); go_split_ands; go_simp; (try with_reducible rfl)))
  try simp only [Act.put, pu1, pu2, pu3, pu4, pu5, pu6]
  (refine wpAnyH_take (i := 1) (v := ?v1x2) rfl (by kernel_rfl) (by kernel_rfl) (by kernel_rfl) (fun _ _ _ h => h) (Or.inl ⟨by rfl, ?hy1x2⟩) (by assumption) ?rest1x2; case hy1x2 => (intro w hSw; (try dsimp only at hSw); go_split_ands; go_simp; (try with_reducible rfl)))
  try simp only [Act.put, pu1, pu2, pu3, pu4, pu5, pu6]
  (refine wpAnyH_take (i := 4) (v := ?v4x3) rfl (by kernel_rfl) (by kernel_rfl) (by kernel_rfl) (fun _ _ _ h => h) (Or.inl ⟨by rfl, ?hy4x3⟩) (by assumption) ?rest4x3; case hy4x3 => (intro w hSw; (try dsimp only at hSw); go_split_ands; go_simp; (try with_reducible rfl)))
  try simp only [Act.put, pu1, pu2, pu3, pu4, pu5, pu6]
  (refine wpAnyH_take (i := 5) (v := ?v5x4) rfl (by kernel_rfl) (by kernel_rfl) (by kernel_rfl) (fun _ _ _ h => h) (Or.inl ⟨by rfl, ?hy5x4⟩) (by assumption) ?rest5x4; case hy5x4 => (intro w hSw; (try dsimp only at hSw); go_split_ands; go_simp; (try with_reducible rfl)))
  try simp only [Act.put, pu1, pu2, pu3, pu4, pu5, pu6]
  (refine wpAnyH_take (i := 8) (v := ?v8x5) rfl (by kernel_rfl) (by kernel_rfl) (by kernel_rfl) (fun _ _ _ h => h) (Or.inl ⟨by rfl, ?hy8x5⟩) (by assumption) ?rest8x5; case hy8x5 => (intro w hSw; (try dsimp only at hSw); go_split_ands; go_simp; (try with_reducible rfl)))
  try simp only [Act.put, pu1, pu2, pu3, pu4, pu5, pu6]
  refine wpAnyH_ready (rs := [2, 6]) (by kernel_rfl) (by simp) ?_
  refine AllReadyH.cons rfl (fun K hK => ?_) (AllReadyH.cons rfl (fun K hK => ?_) AllReadyH.nil)
  ·
   go_simp
   refine hK.out _ _ ⟨(keepR (W := W2.drew) hHeld.1 ((Below.refl _ _).alloc (Nat.le_refl _) _)), (keepR (W := W2.drew) hHeld.2 ((Below.refl _ _).alloc (Nat.le_refl _) _))⟩ (fun hHeld => ?_)
   clear hK K
   try simp only [Act.put, pu1, pu2, pu3, pu4, pu5, pu6]
   obtain ⟨W3, HW3, b3, ff3⟩ : ∃ X, Hid ((W2.alloc (.cells #[.int .i64 h.n] 3)).drew = X) ∧ Below W2.heap.size W2 X ∧ Hid (Sl X (.slice (some ⟨W2.heap.size, 0, none⟩) 1 1) [.int .i64 h.n]) := ⟨_, rfl, (Below.drew ((Below.refl _ _).alloc (Nat.le_refl _) _)), Laws.Sl.one W2 _ _⟩
   have HHW3 := HW3.out
   rw [HHW3] at hHeld ⊢
   clear HHW3
   have z3 : W2.heap.size ≤ W3.heap.size := b3.size
   have B3 : Hid (Below w.heap.size w W3) := B2.out.trans (b3.mono B2.out.size)
   clear r_h2 c_h2_0 c_h2_1
   have f_n3 : Hid (Sl W3 (.slice (some ⟨W2.heap.size, 0, none⟩) 1 1) [.int .i64 h.n]) := ff3.out
   clear ff3
   refine wpAnyH_ready (rs := [3, 6]) (by kernel_rfl) (by simp) ?_
   refine AllReadyH.cons rfl (fun K hK => ?_) (AllReadyH.cons rfl (fun K hK => ?_) AllReadyH.nil)
   ·
    go_simp
    refine (Puts.nums_one W3 W3.heap.size _ [] _ h.n (nil5 _ _ _) (Nat.le_refl _) (by simp) (slOne f_n3.out)).mono ?_
    rintro e W4 ⟨v_a, rfl, o_a4, b4⟩
    refine hK.out _ _ ⟨(keepR (W := W3) hHeld.1 b4), (keepR (W := W3) hHeld.2 b4)⟩ (fun hHeld => ?_)
    clear hK K
    try simp only [Act.put, pu1, pu2, pu3, pu4, pu5, pu6]
    obtain ⟨ao_a, L_a, cap_a, rfl, hL_a, hM_a⟩ := o_a4.form
    have o_a4 : Hid (Own W4 W3.heap.size W4.heap.size 5 (.slice ao_a L_a cap_a) (bs ([] ++ Puts.num h.n))) := o_a4
    clear hL_a hM_a
    have z4 : W3.heap.size ≤ W4.heap.size := b4.size
    have B4 : Hid (Below w.heap.size w W4) := B3.out.trans (b4.mono B3.out.size)
    clear f_n3
    refine wpAnyH_ready (rs := [6]) (by kernel_rfl) (by simp) ?_
    refine AllReadyH.cons rfl (fun K hK => ?_) AllReadyH.nil
    go_simp
    refine hK.out _ _ ⟨(keepR (W := W4) hHeld.1 ((Below.refl _ _).alloc (Nat.le_refl _) _)), (keepR (W := W4) hHeld.2 ((Below.refl _ _).alloc (Nat.le_refl _) _))⟩ (fun hHeld => ?_)
    clear hK K
    try simp only [Act.put, pu1, pu2, pu3, pu4, pu5, pu6]
    obtain ⟨W5, HW5, b5, ff5⟩ : ∃ X, Hid ((W4.alloc (.cells #[.string h.r] 9)) = X) ∧ Below W4.heap.size W4 X ∧ Hid (Sl X (.slice (some ⟨W4.heap.size, 0, none⟩) 1 1) (ss [h.r])) := ⟨_, rfl, ((Below.refl _ _).alloc (Nat.le_refl _) _), Puts.Sl.oneStr W4 _ _⟩
    have HHW5 := HW5.out
    rw [HHW5] at hHeld ⊢
    clear HHW5
    have z5 : W4.heap.size ≤ W5.heap.size := b5.size
    have B5 : Hid (Below w.heap.size w W5) := B4.out.trans (b5.mono B4.out.size)
    have o_a5 : Hid (Own W5 (W3.heap.size) (W4.heap.size) 5 (.slice ao_a L_a cap_a) (bs ([] ++ Puts.num h.n))) := Own.later o_a4.out b5 (by omega)
    clear o_a4
    have f_t5 : Hid (Sl W5 (.slice (some ⟨W4.heap.size, 0, none⟩) 1 1) (ss [h.r])) := ff5.out
    clear ff5
    refine wpAnyH_ready (rs := [7]) (by kernel_rfl) (by simp) ?_
    refine AllReadyH.cons rfl (fun K hK => ?_) AllReadyH.nil
    go_simp
    refine (Puts.texts_any W5 (W3.heap.size) _ ([] ++ Puts.num h.n) _ [h.r] (Own.mono o_a5.out (Nat.le_refl _) (by omega)) (by omega) f_t5.out (fun _ _ h9 => by simp at h9) (by simp [Puts.txs]; omega) (by simp)).mono ?_
    rintro e W6 ⟨v_b, rfl, o_b6, q6⟩
    refine hK.out _ _ ⟨((q6.cell (p := ⟨w.heap.size, 0, none⟩) (by show w.heap.size < W3.heap.size; omega)).trans hHeld.1), ((q6.cell (p := ⟨w.heap.size, 1, none⟩) (by show w.heap.size < W3.heap.size; omega)).trans hHeld.2)⟩ (fun hHeld => ?_)
    clear hK K
    try simp only [Act.put, pu1, pu2, pu3, pu4, pu5, pu6]
    obtain ⟨ao_b, L_b, cap_b, rfl, _, _⟩ := Mem.Own.form o_b6
    have o_b6 : Hid (Own W6 (W3.heap.size) W6.heap.size 5 (.slice ao_b L_b cap_b) (bs ([] ++ Puts.num h.n ++ Puts.txs [h.r]))) := o_b6
    have z6 : W5.heap.size ≤ W6.heap.size := q6.size
    have B6 : Hid (Below w.heap.size w W6) := B5.out.trans (q6.mono (by have := B5.out.size; omega))
    clear o_a5
    clear f_t5
    clear q6
    refine wpAnyH_ready (rs := [9]) (by kernel_rfl) (by simp) ?_
    refine AllReadyH.cons rfl (fun K hK => ?_) AllReadyH.nil
    go_simp
    refine (Puts.putts_impl W6 _ _ ([] ++ Puts.num h.n ++ Puts.txs [h.r]) x o_b6.out.sl (HS.out.later B6.out) (by have := HT.out; simp only [Puts.txs, List.nil_append, List.append_nil, List.length_append]; omega) (by omega)).mono ?_
    rintro e W7 ⟨v_c, rfl, o_c7, b7⟩
    refine hK.out _ _ ⟨(keepR (W := W6) hHeld.1 b7), (keepR (W := W6) hHeld.2 b7)⟩ (fun hHeld => ?_)
    clear hK K
    try simp only [Act.put, pu1, pu2, pu3, pu4, pu5, pu6]
    obtain ⟨ao_c, L_c, cap_c, rfl, hL_c, hM_c⟩ := o_c7.form
    have o_c7 : Hid (Own W7 W6.heap.size W7.heap.size 5 (.slice ao_c L_c cap_c) (bs ([] ++ Puts.num h.n ++ Puts.txs [h.r] ++ Puts.num (x.length : Int) ++ Puts.txs x))) := o_c7
    clear hL_c hM_c
    have z7 : W6.heap.size ≤ W7.heap.size := b7.size
    have B7 : Hid (Below w.heap.size w W7) := B6.out.trans (b7.mono B6.out.size)
    clear o_b6
    (refine wpAnyH_take (i := 10) (v := ?v10x6) rfl (by kernel_rfl) (by kernel_rfl) (by kernel_rfl) (fun _ _ _ h => h) (Or.inl ⟨by rfl, ?hy10x6⟩) (by assumption) ?rest10x6; case hy10x6 => (intro w hSw; (try dsimp only at hSw); go_split_ands; go_simp; (try with_reducible rfl)))
    try simp only [Act.put, pu1, pu2, pu3, pu4, pu5, pu6]
    refine wpAnyH_done (by kernel_rfl) ?_ _
    clear hHeld
    obtain ⟨Y, hY⟩ : ∃ Y, body h x = Y := ⟨_, rfl⟩
    have o_c7 : Hid (Own W7 (W6.heap.size) (W7.heap.size) 5 (.slice ao_c L_c cap_c) (bs Y)) := by show Own _ _ _ _ _ _; have h9 := o_c7.out; have e9 : [] ++ Puts.num h.n ++ Puts.txs [h.r] ++ Puts.num (x.length : Int) ++ Puts.txs x = Y := by { rw [← hY]; unfold body; simp only [Puts.txs, List.nil_append, List.append_nil, List.append_assoc] }; rw [e9] at h9; exact h9
    have hLc : L_c ≤ Y.length ∧ Y.length ≤ L_c := by obtain ⟨a9, L9, c9, he, h1, h2⟩ := Mem.Own.form o_c7.out; injection he with _ he2 _; rw [bs_len] at h1 h2; omega
    have hYb : Y.length ≤ h.r.size + 15 + 5 * x.length + Puts.tot x := by rw [← hY]; exact hbl
    have hYB : Byt Y := by rw [← hY]; exact body_byt h x
    have HY : Hid (body h x = Y) := hY
    have HYB : Hid (Byt Y) := hYB
    clear hY hbl hYB
    have hLe : (L_c : Int) = (Y.length : Int) := by omega
    have HLE : Hid ((L_c : Int) = (Y.length : Int)) := hLe
    clear hLe
    go_wp2_with fail
    refine (Puts.put_impl W7 (.slice none 0 0) [] (L_c : Int) (Sl.nil _) (by simp)).mono ?_
    rintro e W8 ⟨v_m, rfl, o_m8, b8⟩
    obtain ⟨ao_m, L_m, cap_m, rfl, hL_m, hM_m⟩ := o_m8.form
    have o_m8 : Hid (Own W8 W7.heap.size W8.heap.size 5 (.slice ao_m L_m cap_m) (bs ([] ++ Puts.num (L_c : Int)))) := o_m8
    clear hL_m hM_m
    have z8 : W7.heap.size ≤ W8.heap.size := b8.size
    have B8 : Hid (Below w.heap.size w W8) := B7.out.trans (b8.mono B7.out.size)
    have o_c8 : Hid (Own W8 (W6.heap.size) (W7.heap.size) 5 (.slice ao_c L_c cap_c) (bs Y)) := Own.later o_c7.out b8 (by omega)
    clear o_c7
    obtain ⟨N, hN⟩ : ∃ N, Puts.num (L_c : Int) = N := ⟨_, rfl⟩
    have n3 := (Puts.num_len (L_c : Int)).2
    rw [hN] at n3
    have o_m8 : Hid (Own W8 (W7.heap.size) (W8.heap.size) 5 (.slice ao_m L_m cap_m) (bs N)) := by show Own _ _ _ _ _ _; have h9 := o_m8.out; rw [hN, List.nil_append] at h9; exact h9
    have HN : Hid (Puts.num (Y.length : Int) = N) := by show _ = _; rw [← HLE.out, hN]
    clear hN
    obtain ⟨d1, d2, d3⟩ := dig4 Y
    have qd : ∀ W v1, Glob W → Sl W v1 (bs Y) → _ := fun W v1 g1 h1 => sum_impl W v1 Y g1 h1 HYB.out (by omega)
    obtain ⟨T, hT⟩ : ∃ T, (Plain.txt (digest Y)).extract 0 4 = T := ⟨_, rfl⟩
    rw [hT] at d2 d3
    simp only [hT] at qd
    have HT4 : Hid (sb T = sum4 Y) := d3
    have hTs : T.size ≤ 4 := by omega
    clear d1 d2 d3 hT
    go_wp2_with fail
    refine (qd W8 _ (HG.out.later B8.out) o_c8.out.sl).mono ?_
    rintro e W9 ⟨rfl, b9⟩
    have z9 : W8.heap.size ≤ W9.heap.size := b9.size
    have B9 : Hid (Below w.heap.size w W9) := B8.out.trans (b9.mono B8.out.size)
    have o_c9 : Hid (Own W9 (W6.heap.size) (W7.heap.size) 5 (.slice ao_c L_c cap_c) (bs Y)) := Own.later o_c8.out b9 (by omega)
    have o_m9 : Hid (Own W9 (W7.heap.size) (W8.heap.size) 5 (.slice ao_m L_m cap_m) (bs N)) := Own.later o_m8.out b9 (by omega)
    clear o_c8 o_m8
    obtain ⟨cpT, W10, hcv10, slT, b10⟩ := strB12 W9 T
    have z10 : W9.heap.size ≤ W10.heap.size := b10.size
    have B10 : Hid (Below w.heap.size w W10) := B9.out.trans (b10.mono B9.out.size)
    have o_c10 : Hid (Own W10 (W6.heap.size) (W7.heap.size) 5 (.slice ao_c L_c cap_c) (bs Y)) := Own.later o_c9.out b10 (by omega)
    have o_m10 : Hid (Own W10 (W7.heap.size) (W8.heap.size) 5 (.slice ao_m L_m cap_m) (bs N)) := Own.later o_m9.out b10 (by omega)
    clear o_c9 o_m9
    have f_T10 : Hid (Sl W10 (.slice (some ⟨W9.heap.size, 0, none⟩) T.size cpT) (bs (sb T))) := slT
    clear slT
    obtain ⟨W11, HW11, b11, ff11⟩ : ∃ X, Hid ((W10.alloc (.cells #[.slice ao_m L_m cap_m, .slice ao_c L_c cap_c, .slice (some ⟨W9.heap.size, 0, none⟩) T.size cpT] 22)) = X) ∧ Below W10.heap.size W10 X ∧ Hid (Sl X (.slice (some ⟨W10.heap.size, 0, none⟩) 3 3) [.slice ao_m L_m cap_m, .slice ao_c L_c cap_c, .slice (some ⟨W9.heap.size, 0, none⟩) T.size cpT]) := ⟨_, rfl, (Below.refl _ _).alloc (Nat.le_refl _) _, slAlloc W10 [.slice ao_m L_m cap_m, .slice ao_c L_c cap_c, .slice (some ⟨W9.heap.size, 0, none⟩) T.size cpT] 22⟩
    have z11 : W10.heap.size ≤ W11.heap.size := b11.size
    have B11 : Hid (Below w.heap.size w W11) := B10.out.trans (b11.mono B10.out.size)
    have o_c11 : Hid (Own W11 (W6.heap.size) (W7.heap.size) 5 (.slice ao_c L_c cap_c) (bs Y)) := Own.later o_c10.out b11 (by omega)
    have o_m11 : Hid (Own W11 (W7.heap.size) (W8.heap.size) 5 (.slice ao_m L_m cap_m) (bs N)) := Own.later o_m10.out b11 (by omega)
    clear o_c10 o_m10
    have f_T11 : Hid (Sl W11 (.slice (some ⟨W9.heap.size, 0, none⟩) T.size cpT) (bs (sb T))) := Sl.later f_T10.out b11
    clear f_T10
    have qj := joined_impl W11 _ _ [N, Y, sb T] ff11.out rfl (part3 o_m11.out.sl o_c11.out.sl f_T11.out) (by simp) (by simp [sb_len]; omega)
    have e9 : [N, Y, sb T].flatten = P := by
     rw [HP.out]
     simp only [if_true]
     unfold put
     rw [HY.out, HN.out, HT4.out]
     simp
    rw [e9] at qj
    clear e9 HP HT4 HN HY HT HYB HLE qd
    go_wp2_with fail
    rw [HW11.out]
    refine (qj).mono ?_
    rintro e W12 ⟨v_z, rfl, o_z12, b12⟩
    obtain ⟨ao_z, L_z, cap_z, rfl, hL_z, hM_z⟩ := o_z12.form
    have o_z12 : Hid (Own W12 W11.heap.size W12.heap.size 5 (.slice ao_z L_z cap_z) (bs P)) := o_z12
    clear hL_z hM_z
    have B12 : Hid (Below w.heap.size w W12) := B11.out.trans (b12.mono B11.out.size)
    clear o_c11 o_m11
    clear f_T11
    go_wp2
    go_ret
    exact ⟨_, rfl, o_z12.out.mono (by omega) (Nat.le_refl _), B12.out⟩
   ·
    go_simp
    refine hK.out _ _ ⟨(keepR (W := W3) hHeld.1 ((Below.refl _ _).alloc (Nat.le_refl _) _)), (keepR (W := W3) hHeld.2 ((Below.refl _ _).alloc (Nat.le_refl _) _))⟩ (fun hHeld => ?_)
    clear hK K
    try simp only [Act.put, pu1, pu2, pu3, pu4, pu5, pu6]
    obtain ⟨W4, HW4, b4, ff4⟩ : ∃ X, Hid ((W3.alloc (.cells #[.string h.r] 9)) = X) ∧ Below W3.heap.size W3 X ∧ Hid (Sl X (.slice (some ⟨W3.heap.size, 0, none⟩) 1 1) (ss [h.r])) := ⟨_, rfl, ((Below.refl _ _).alloc (Nat.le_refl _) _), Puts.Sl.oneStr W3 _ _⟩
    have HHW4 := HW4.out
    rw [HHW4] at hHeld ⊢
    clear HHW4
    have z4 : W3.heap.size ≤ W4.heap.size := b4.size
    have B4 : Hid (Below w.heap.size w W4) := B3.out.trans (b4.mono B3.out.size)
    have f_n4 : Hid (Sl W4 (.slice (some ⟨W2.heap.size, 0, none⟩) 1 1) [.int .i64 h.n]) := Sl.later f_n3.out b4
    clear f_n3
    have f_t4 : Hid (Sl W4 (.slice (some ⟨W3.heap.size, 0, none⟩) 1 1) (ss [h.r])) := ff4.out
    clear ff4
    refine wpAnyH_ready (rs := [3]) (by kernel_rfl) (by simp) ?_
    refine AllReadyH.cons rfl (fun K hK => ?_) AllReadyH.nil
    go_simp
    refine (Puts.nums_one W4 W4.heap.size _ [] _ h.n (nil5 _ _ _) (Nat.le_refl _) (by simp) (slOne f_n4.out)).mono ?_
    rintro e W5 ⟨v_a, rfl, o_a5, b5⟩
    refine hK.out _ _ ⟨(keepR (W := W4) hHeld.1 b5), (keepR (W := W4) hHeld.2 b5)⟩ (fun hHeld => ?_)
    clear hK K
    try simp only [Act.put, pu1, pu2, pu3, pu4, pu5, pu6]
    obtain ⟨ao_a, L_a, cap_a, rfl, hL_a, hM_a⟩ := o_a5.form
    have o_a5 : Hid (Own W5 W4.heap.size W5.heap.size 5 (.slice ao_a L_a cap_a) (bs ([] ++ Puts.num h.n))) := o_a5
    clear hL_a hM_a
    have z5 : W4.heap.size ≤ W5.heap.size := b5.size
    have B5 : Hid (Below w.heap.size w W5) := B4.out.trans (b5.mono B4.out.size)
    have f_t5 : Hid (Sl W5 (.slice (some ⟨W3.heap.size, 0, none⟩) 1 1) (ss [h.r])) := Sl.later f_t4.out b5
    clear f_n4 f_t4
    refine wpAnyH_ready (rs := [7]) (by kernel_rfl) (by simp) ?_
    refine AllReadyH.cons rfl (fun K hK => ?_) AllReadyH.nil
    go_simp
    refine (Puts.texts_any W5 (W4.heap.size) _ ([] ++ Puts.num h.n) _ [h.r] (Own.mono o_a5.out (Nat.le_refl _) (by omega)) (by omega) f_t5.out (fun _ _ h9 => by simp at h9) (by simp [Puts.txs]; omega) (by simp)).mono ?_
    rintro e W6 ⟨v_b, rfl, o_b6, q6⟩
    refine hK.out _ _ ⟨((q6.cell (p := ⟨w.heap.size, 0, none⟩) (by show w.heap.size < W4.heap.size; omega)).trans hHeld.1), ((q6.cell (p := ⟨w.heap.size, 1, none⟩) (by show w.heap.size < W4.heap.size; omega)).trans hHeld.2)⟩ (fun hHeld => ?_)
    clear hK K
    try simp only [Act.put, pu1, pu2, pu3, pu4, pu5, pu6]
    obtain ⟨ao_b, L_b, cap_b, rfl, _, _⟩ := Mem.Own.form o_b6
    have o_b6 : Hid (Own W6 (W4.heap.size) W6.heap.size 5 (.slice ao_b L_b cap_b) (bs ([] ++ Puts.num h.n ++ Puts.txs [h.r]))) := o_b6
    have z6 : W5.heap.size ≤ W6.heap.size := q6.size
    have B6 : Hid (Below w.heap.size w W6) := B5.out.trans (q6.mono (by have := B5.out.size; omega))
    clear o_a5
    clear f_t5
    clear q6
    refine wpAnyH_ready (rs := [9]) (by kernel_rfl) (by simp) ?_
    refine AllReadyH.cons rfl (fun K hK => ?_) AllReadyH.nil
    go_simp
    refine (Puts.putts_impl W6 _ _ ([] ++ Puts.num h.n ++ Puts.txs [h.r]) x o_b6.out.sl (HS.out.later B6.out) (by have := HT.out; simp only [Puts.txs, List.nil_append, List.append_nil, List.length_append]; omega) (by omega)).mono ?_
    rintro e W7 ⟨v_c, rfl, o_c7, b7⟩
    refine hK.out _ _ ⟨(keepR (W := W6) hHeld.1 b7), (keepR (W := W6) hHeld.2 b7)⟩ (fun hHeld => ?_)
    clear hK K
    try simp only [Act.put, pu1, pu2, pu3, pu4, pu5, pu6]
    obtain ⟨ao_c, L_c, cap_c, rfl, hL_c, hM_c⟩ := o_c7.form
    have o_c7 : Hid (Own W7 W6.heap.size W7.heap.size 5 (.slice ao_c L_c cap_c) (bs ([] ++ Puts.num h.n ++ Puts.txs [h.r] ++ Puts.num (x.length : Int) ++ Puts.txs x))) := o_c7
    clear hL_c hM_c
    have z7 : W6.heap.size ≤ W7.heap.size := b7.size
    have B7 : Hid (Below w.heap.size w W7) := B6.out.trans (b7.mono B6.out.size)
    clear o_b6
    (refine wpAnyH_take (i := 10) (v := ?v10x7) rfl (by kernel_rfl) (by kernel_rfl) (by kernel_rfl) (fun _ _ _ h => h) (Or.inl ⟨by rfl, ?hy10x7⟩) (by assumption) ?rest10x7; case hy10x7 => (intro w hSw; (try dsimp only at hSw); go_split_ands; go_simp; (try with_reducible rfl)))
    try simp only [Act.put, pu1, pu2, pu3, pu4, pu5, pu6]
    refine wpAnyH_done (by kernel_rfl) ?_ _
    clear hHeld
    obtain ⟨Y, hY⟩ : ∃ Y, body h x = Y := ⟨_, rfl⟩
    have o_c7 : Hid (Own W7 (W6.heap.size) (W7.heap.size) 5 (.slice ao_c L_c cap_c) (bs Y)) := by show Own _ _ _ _ _ _; have h9 := o_c7.out; have e9 : [] ++ Puts.num h.n ++ Puts.txs [h.r] ++ Puts.num (x.length : Int) ++ Puts.txs x = Y := by { rw [← hY]; unfold body; simp only [Puts.txs, List.nil_append, List.append_nil, List.append_assoc] }; rw [e9] at h9; exact h9
    have hLc : L_c ≤ Y.length ∧ Y.length ≤ L_c := by obtain ⟨a9, L9, c9, he, h1, h2⟩ := Mem.Own.form o_c7.out; injection he with _ he2 _; rw [bs_len] at h1 h2; omega
    have hYb : Y.length ≤ h.r.size + 15 + 5 * x.length + Puts.tot x := by rw [← hY]; exact hbl
    have hYB : Byt Y := by rw [← hY]; exact body_byt h x
    have HY : Hid (body h x = Y) := hY
    have HYB : Hid (Byt Y) := hYB
    clear hY hbl hYB
    have hLe : (L_c : Int) = (Y.length : Int) := by omega
    have HLE : Hid ((L_c : Int) = (Y.length : Int)) := hLe
    clear hLe
    go_wp2_with fail
    refine (Puts.put_impl W7 (.slice none 0 0) [] (L_c : Int) (Sl.nil _) (by simp)).mono ?_
    rintro e W8 ⟨v_m, rfl, o_m8, b8⟩
    obtain ⟨ao_m, L_m, cap_m, rfl, hL_m, hM_m⟩ := o_m8.form
    have o_m8 : Hid (Own W8 W7.heap.size W8.heap.size 5 (.slice ao_m L_m cap_m) (bs ([] ++ Puts.num (L_c : Int)))) := o_m8
    clear hL_m hM_m
    have z8 : W7.heap.size ≤ W8.heap.size := b8.size
    have B8 : Hid (Below w.heap.size w W8) := B7.out.trans (b8.mono B7.out.size)
    have o_c8 : Hid (Own W8 (W6.heap.size) (W7.heap.size) 5 (.slice ao_c L_c cap_c) (bs Y)) := Own.later o_c7.out b8 (by omega)
    clear o_c7
    obtain ⟨N, hN⟩ : ∃ N, Puts.num (L_c : Int) = N := ⟨_, rfl⟩
    have n3 := (Puts.num_len (L_c : Int)).2
    rw [hN] at n3
    have o_m8 : Hid (Own W8 (W7.heap.size) (W8.heap.size) 5 (.slice ao_m L_m cap_m) (bs N)) := by show Own _ _ _ _ _ _; have h9 := o_m8.out; rw [hN, List.nil_append] at h9; exact h9
    have HN : Hid (Puts.num (Y.length : Int) = N) := by show _ = _; rw [← HLE.out, hN]
    clear hN
    obtain ⟨d1, d2, d3⟩ := dig4 Y
    have qd : ∀ W v1, Glob W → Sl W v1 (bs Y) → _ := fun W v1 g1 h1 => sum_impl W v1 Y g1 h1 HYB.out (by omega)
    obtain ⟨T, hT⟩ : ∃ T, (Plain.txt (digest Y)).extract 0 4 = T := ⟨_, rfl⟩
    rw [hT] at d2 d3
    simp only [hT] at qd
    have HT4 : Hid (sb T = sum4 Y) := d3
    have hTs : T.size ≤ 4 := by omega
    clear d1 d2 d3 hT
    go_wp2_with fail
    refine (qd W8 _ (HG.out.later B8.out) o_c8.out.sl).mono ?_
    rintro e W9 ⟨rfl, b9⟩
    have z9 : W8.heap.size ≤ W9.heap.size := b9.size
    have B9 : Hid (Below w.heap.size w W9) := B8.out.trans (b9.mono B8.out.size)
    have o_c9 : Hid (Own W9 (W6.heap.size) (W7.heap.size) 5 (.slice ao_c L_c cap_c) (bs Y)) := Own.later o_c8.out b9 (by omega)
    have o_m9 : Hid (Own W9 (W7.heap.size) (W8.heap.size) 5 (.slice ao_m L_m cap_m) (bs N)) := Own.later o_m8.out b9 (by omega)
    clear o_c8 o_m8
    obtain ⟨cpT, W10, hcv10, slT, b10⟩ := strB12 W9 T
    have z10 : W9.heap.size ≤ W10.heap.size := b10.size
    have B10 : Hid (Below w.heap.size w W10) := B9.out.trans (b10.mono B9.out.size)
    have o_c10 : Hid (Own W10 (W6.heap.size) (W7.heap.size) 5 (.slice ao_c L_c cap_c) (bs Y)) := Own.later o_c9.out b10 (by omega)
    have o_m10 : Hid (Own W10 (W7.heap.size) (W8.heap.size) 5 (.slice ao_m L_m cap_m) (bs N)) := Own.later o_m9.out b10 (by omega)
    clear o_c9 o_m9
    have f_T10 : Hid (Sl W10 (.slice (some ⟨W9.heap.size, 0, none⟩) T.size cpT) (bs (sb T))) := slT
    clear slT
    obtain ⟨W11, HW11, b11, ff11⟩ : ∃ X, Hid ((W10.alloc (.cells #[.slice ao_m L_m cap_m, .slice ao_c L_c cap_c, .slice (some ⟨W9.heap.size, 0, none⟩) T.size cpT] 22)) = X) ∧ Below W10.heap.size W10 X ∧ Hid (Sl X (.slice (some ⟨W10.heap.size, 0, none⟩) 3 3) [.slice ao_m L_m cap_m, .slice ao_c L_c cap_c, .slice (some ⟨W9.heap.size, 0, none⟩) T.size cpT]) := ⟨_, rfl, (Below.refl _ _).alloc (Nat.le_refl _) _, slAlloc W10 [.slice ao_m L_m cap_m, .slice ao_c L_c cap_c, .slice (some ⟨W9.heap.size, 0, none⟩) T.size cpT] 22⟩
    have z11 : W10.heap.size ≤ W11.heap.size := b11.size
    have B11 : Hid (Below w.heap.size w W11) := B10.out.trans (b11.mono B10.out.size)
    have o_c11 : Hid (Own W11 (W6.heap.size) (W7.heap.size) 5 (.slice ao_c L_c cap_c) (bs Y)) := Own.later o_c10.out b11 (by omega)
    have o_m11 : Hid (Own W11 (W7.heap.size) (W8.heap.size) 5 (.slice ao_m L_m cap_m) (bs N)) := Own.later o_m10.out b11 (by omega)
    clear o_c10 o_m10
    have f_T11 : Hid (Sl W11 (.slice (some ⟨W9.heap.size, 0, none⟩) T.size cpT) (bs (sb T))) := Sl.later f_T10.out b11
    clear f_T10
    have qj := joined_impl W11 _ _ [N, Y, sb T] ff11.out rfl (part3 o_m11.out.sl o_c11.out.sl f_T11.out) (by simp) (by simp [sb_len]; omega)
    have e9 : [N, Y, sb T].flatten = P := by
     rw [HP.out]
     simp only [if_true]
     unfold put
     rw [HY.out, HN.out, HT4.out]
     simp
    rw [e9] at qj
    clear e9 HP HT4 HN HY HT HYB HLE qd
    go_wp2_with fail
    rw [HW11.out]
    refine (qj).mono ?_
    rintro e W12 ⟨v_z, rfl, o_z12, b12⟩
    obtain ⟨ao_z, L_z, cap_z, rfl, hL_z, hM_z⟩ := o_z12.form
    have o_z12 : Hid (Own W12 W11.heap.size W12.heap.size 5 (.slice ao_z L_z cap_z) (bs P)) := o_z12
    clear hL_z hM_z
    have B12 : Hid (Below w.heap.size w W12) := B11.out.trans (b12.mono B11.out.size)
    clear o_c11 o_m11
    clear f_T11
    go_wp2
    go_ret
    exact ⟨_, rfl, o_z12.out.mono (by omega) (Nat.le_refl _), B12.out⟩
  ·
   go_simp
   refine hK.out _ _ ⟨(keepR (W := W2.drew) hHeld.1 ((Below.refl _ _).alloc (Nat.le_refl _) _)), (keepR (W := W2.drew) hHeld.2 ((Below.refl _ _).alloc (Nat.le_refl _) _))⟩ (fun hHeld => ?_)
   clear hK K
   try simp only [Act.put, pu1, pu2, pu3, pu4, pu5, pu6]
   obtain ⟨W3, HW3, b3, ff3⟩ : ∃ X, Hid ((W2.alloc (.cells #[.string h.r] 9)).drew = X) ∧ Below W2.heap.size W2 X ∧ Hid (Sl X (.slice (some ⟨W2.heap.size, 0, none⟩) 1 1) (ss [h.r])) := ⟨_, rfl, (Below.drew ((Below.refl _ _).alloc (Nat.le_refl _) _)), Puts.Sl.oneStr W2 _ _⟩
   have HHW3 := HW3.out
   rw [HHW3] at hHeld ⊢
   clear HHW3
   have z3 : W2.heap.size ≤ W3.heap.size := b3.size
   have B3 : Hid (Below w.heap.size w W3) := B2.out.trans (b3.mono B2.out.size)
   clear r_h2 c_h2_0 c_h2_1
   have f_t3 : Hid (Sl W3 (.slice (some ⟨W2.heap.size, 0, none⟩) 1 1) (ss [h.r])) := ff3.out
   clear ff3
   refine wpAnyH_ready (rs := [2]) (by kernel_rfl) (by simp) ?_
   refine AllReadyH.cons rfl (fun K hK => ?_) AllReadyH.nil
   go_simp
   refine hK.out _ _ ⟨(keepR (W := W3) hHeld.1 ((Below.refl _ _).alloc (Nat.le_refl _) _)), (keepR (W := W3) hHeld.2 ((Below.refl _ _).alloc (Nat.le_refl _) _))⟩ (fun hHeld => ?_)
   clear hK K
   try simp only [Act.put, pu1, pu2, pu3, pu4, pu5, pu6]
   obtain ⟨W4, HW4, b4, ff4⟩ : ∃ X, Hid ((W3.alloc (.cells #[.int .i64 h.n] 3)) = X) ∧ Below W3.heap.size W3 X ∧ Hid (Sl X (.slice (some ⟨W3.heap.size, 0, none⟩) 1 1) [.int .i64 h.n]) := ⟨_, rfl, ((Below.refl _ _).alloc (Nat.le_refl _) _), Laws.Sl.one W3 _ _⟩
   have HHW4 := HW4.out
   rw [HHW4] at hHeld ⊢
   clear HHW4
   have z4 : W3.heap.size ≤ W4.heap.size := b4.size
   have B4 : Hid (Below w.heap.size w W4) := B3.out.trans (b4.mono B3.out.size)
   have f_t4 : Hid (Sl W4 (.slice (some ⟨W2.heap.size, 0, none⟩) 1 1) (ss [h.r])) := Sl.later f_t3.out b4
   clear f_t3
   have f_n4 : Hid (Sl W4 (.slice (some ⟨W3.heap.size, 0, none⟩) 1 1) [.int .i64 h.n]) := ff4.out
   clear ff4
   refine wpAnyH_ready (rs := [3]) (by kernel_rfl) (by simp) ?_
   refine AllReadyH.cons rfl (fun K hK => ?_) AllReadyH.nil
   go_simp
   refine (Puts.nums_one W4 W4.heap.size _ [] _ h.n (nil5 _ _ _) (Nat.le_refl _) (by simp) (slOne f_n4.out)).mono ?_
   rintro e W5 ⟨v_a, rfl, o_a5, b5⟩
   refine hK.out _ _ ⟨(keepR (W := W4) hHeld.1 b5), (keepR (W := W4) hHeld.2 b5)⟩ (fun hHeld => ?_)
   clear hK K
   try simp only [Act.put, pu1, pu2, pu3, pu4, pu5, pu6]
   obtain ⟨ao_a, L_a, cap_a, rfl, hL_a, hM_a⟩ := o_a5.form
   have o_a5 : Hid (Own W5 W4.heap.size W5.heap.size 5 (.slice ao_a L_a cap_a) (bs ([] ++ Puts.num h.n))) := o_a5
   clear hL_a hM_a
   have z5 : W4.heap.size ≤ W5.heap.size := b5.size
   have B5 : Hid (Below w.heap.size w W5) := B4.out.trans (b5.mono B4.out.size)
   have f_t5 : Hid (Sl W5 (.slice (some ⟨W2.heap.size, 0, none⟩) 1 1) (ss [h.r])) := Sl.later f_t4.out b5
   clear f_t4 f_n4
   refine wpAnyH_ready (rs := [7]) (by kernel_rfl) (by simp) ?_
   refine AllReadyH.cons rfl (fun K hK => ?_) AllReadyH.nil
   go_simp
   refine (Puts.texts_any W5 (W4.heap.size) _ ([] ++ Puts.num h.n) _ [h.r] (Own.mono o_a5.out (Nat.le_refl _) (by omega)) (by omega) f_t5.out (fun _ _ h9 => by simp at h9) (by simp [Puts.txs]; omega) (by simp)).mono ?_
   rintro e W6 ⟨v_b, rfl, o_b6, q6⟩
   refine hK.out _ _ ⟨((q6.cell (p := ⟨w.heap.size, 0, none⟩) (by show w.heap.size < W4.heap.size; omega)).trans hHeld.1), ((q6.cell (p := ⟨w.heap.size, 1, none⟩) (by show w.heap.size < W4.heap.size; omega)).trans hHeld.2)⟩ (fun hHeld => ?_)
   clear hK K
   try simp only [Act.put, pu1, pu2, pu3, pu4, pu5, pu6]
   obtain ⟨ao_b, L_b, cap_b, rfl, _, _⟩ := Mem.Own.form o_b6
   have o_b6 : Hid (Own W6 (W4.heap.size) W6.heap.size 5 (.slice ao_b L_b cap_b) (bs ([] ++ Puts.num h.n ++ Puts.txs [h.r]))) := o_b6
   have z6 : W5.heap.size ≤ W6.heap.size := q6.size
   have B6 : Hid (Below w.heap.size w W6) := B5.out.trans (q6.mono (by have := B5.out.size; omega))
   clear o_a5
   clear f_t5
   clear q6
   refine wpAnyH_ready (rs := [9]) (by kernel_rfl) (by simp) ?_
   refine AllReadyH.cons rfl (fun K hK => ?_) AllReadyH.nil
   go_simp
   refine (Puts.putts_impl W6 _ _ ([] ++ Puts.num h.n ++ Puts.txs [h.r]) x o_b6.out.sl (HS.out.later B6.out) (by have := HT.out; simp only [Puts.txs, List.nil_append, List.append_nil, List.length_append]; omega) (by omega)).mono ?_
   rintro e W7 ⟨v_c, rfl, o_c7, b7⟩
   refine hK.out _ _ ⟨(keepR (W := W6) hHeld.1 b7), (keepR (W := W6) hHeld.2 b7)⟩ (fun hHeld => ?_)
   clear hK K
   try simp only [Act.put, pu1, pu2, pu3, pu4, pu5, pu6]
   obtain ⟨ao_c, L_c, cap_c, rfl, hL_c, hM_c⟩ := o_c7.form
   have o_c7 : Hid (Own W7 W6.heap.size W7.heap.size 5 (.slice ao_c L_c cap_c) (bs ([] ++ Puts.num h.n ++ Puts.txs [h.r] ++ Puts.num (x.length : Int) ++ Puts.txs x))) := o_c7
   clear hL_c hM_c
   have z7 : W6.heap.size ≤ W7.heap.size := b7.size
   have B7 : Hid (Below w.heap.size w W7) := B6.out.trans (b7.mono B6.out.size)
   clear o_b6
   (refine wpAnyH_take (i := 10) (v := ?v10x8) rfl (by kernel_rfl) (by kernel_rfl) (by kernel_rfl) (fun _ _ _ h => h) (Or.inl ⟨by rfl, ?hy10x8⟩) (by assumption) ?rest10x8; case hy10x8 => (intro w hSw; (try dsimp only at hSw); go_split_ands; go_simp; (try with_reducible rfl)))
   try simp only [Act.put, pu1, pu2, pu3, pu4, pu5, pu6]
   refine wpAnyH_done (by kernel_rfl) ?_ _
   clear hHeld
   obtain ⟨Y, hY⟩ : ∃ Y, body h x = Y := ⟨_, rfl⟩
   have o_c7 : Hid (Own W7 (W6.heap.size) (W7.heap.size) 5 (.slice ao_c L_c cap_c) (bs Y)) := by show Own _ _ _ _ _ _; have h9 := o_c7.out; have e9 : [] ++ Puts.num h.n ++ Puts.txs [h.r] ++ Puts.num (x.length : Int) ++ Puts.txs x = Y := by { rw [← hY]; unfold body; simp only [Puts.txs, List.nil_append, List.append_nil, List.append_assoc] }; rw [e9] at h9; exact h9
   have hLc : L_c ≤ Y.length ∧ Y.length ≤ L_c := by obtain ⟨a9, L9, c9, he, h1, h2⟩ := Mem.Own.form o_c7.out; injection he with _ he2 _; rw [bs_len] at h1 h2; omega
   have hYb : Y.length ≤ h.r.size + 15 + 5 * x.length + Puts.tot x := by rw [← hY]; exact hbl
   have hYB : Byt Y := by rw [← hY]; exact body_byt h x
   have HY : Hid (body h x = Y) := hY
   have HYB : Hid (Byt Y) := hYB
   clear hY hbl hYB
   have hLe : (L_c : Int) = (Y.length : Int) := by omega
   have HLE : Hid ((L_c : Int) = (Y.length : Int)) := hLe
   clear hLe
   go_wp2_with fail
   refine (Puts.put_impl W7 (.slice none 0 0) [] (L_c : Int) (Sl.nil _) (by simp)).mono ?_
   rintro e W8 ⟨v_m, rfl, o_m8, b8⟩
   obtain ⟨ao_m, L_m, cap_m, rfl, hL_m, hM_m⟩ := o_m8.form
   have o_m8 : Hid (Own W8 W7.heap.size W8.heap.size 5 (.slice ao_m L_m cap_m) (bs ([] ++ Puts.num (L_c : Int)))) := o_m8
   clear hL_m hM_m
   have z8 : W7.heap.size ≤ W8.heap.size := b8.size
   have B8 : Hid (Below w.heap.size w W8) := B7.out.trans (b8.mono B7.out.size)
   have o_c8 : Hid (Own W8 (W6.heap.size) (W7.heap.size) 5 (.slice ao_c L_c cap_c) (bs Y)) := Own.later o_c7.out b8 (by omega)
   clear o_c7
   obtain ⟨N, hN⟩ : ∃ N, Puts.num (L_c : Int) = N := ⟨_, rfl⟩
   have n3 := (Puts.num_len (L_c : Int)).2
   rw [hN] at n3
   have o_m8 : Hid (Own W8 (W7.heap.size) (W8.heap.size) 5 (.slice ao_m L_m cap_m) (bs N)) := by show Own _ _ _ _ _ _; have h9 := o_m8.out; rw [hN, List.nil_append] at h9; exact h9
   have HN : Hid (Puts.num (Y.length : Int) = N) := by show _ = _; rw [← HLE.out, hN]
   clear hN
   obtain ⟨d1, d2, d3⟩ := dig4 Y
   have qd : ∀ W v1, Glob W → Sl W v1 (bs Y) → _ := fun W v1 g1 h1 => sum_impl W v1 Y g1 h1 HYB.out (by omega)
   obtain ⟨T, hT⟩ : ∃ T, (Plain.txt (digest Y)).extract 0 4 = T := ⟨_, rfl⟩
   rw [hT] at d2 d3
   simp only [hT] at qd
   have HT4 : Hid (sb T = sum4 Y) := d3
   have hTs : T.size ≤ 4 := by omega
   clear d1 d2 d3 hT
   go_wp2_with fail
   refine (qd W8 _ (HG.out.later B8.out) o_c8.out.sl).mono ?_
   rintro e W9 ⟨rfl, b9⟩
   have z9 : W8.heap.size ≤ W9.heap.size := b9.size
   have B9 : Hid (Below w.heap.size w W9) := B8.out.trans (b9.mono B8.out.size)
   have o_c9 : Hid (Own W9 (W6.heap.size) (W7.heap.size) 5 (.slice ao_c L_c cap_c) (bs Y)) := Own.later o_c8.out b9 (by omega)
   have o_m9 : Hid (Own W9 (W7.heap.size) (W8.heap.size) 5 (.slice ao_m L_m cap_m) (bs N)) := Own.later o_m8.out b9 (by omega)
   clear o_c8 o_m8
   obtain ⟨cpT, W10, hcv10, slT, b10⟩ := strB12 W9 T
   have z10 : W9.heap.size ≤ W10.heap.size := b10.size
   have B10 : Hid (Below w.heap.size w W10) := B9.out.trans (b10.mono B9.out.size)
   have o_c10 : Hid (Own W10 (W6.heap.size) (W7.heap.size) 5 (.slice ao_c L_c cap_c) (bs Y)) := Own.later o_c9.out b10 (by omega)
   have o_m10 : Hid (Own W10 (W7.heap.size) (W8.heap.size) 5 (.slice ao_m L_m cap_m) (bs N)) := Own.later o_m9.out b10 (by omega)
   clear o_c9 o_m9
   have f_T10 : Hid (Sl W10 (.slice (some ⟨W9.heap.size, 0, none⟩) T.size cpT) (bs (sb T))) := slT
   clear slT
   obtain ⟨W11, HW11, b11, ff11⟩ : ∃ X, Hid ((W10.alloc (.cells #[.slice ao_m L_m cap_m, .slice ao_c L_c cap_c, .slice (some ⟨W9.heap.size, 0, none⟩) T.size cpT] 22)) = X) ∧ Below W10.heap.size W10 X ∧ Hid (Sl X (.slice (some ⟨W10.heap.size, 0, none⟩) 3 3) [.slice ao_m L_m cap_m, .slice ao_c L_c cap_c, .slice (some ⟨W9.heap.size, 0, none⟩) T.size cpT]) := ⟨_, rfl, (Below.refl _ _).alloc (Nat.le_refl _) _, slAlloc W10 [.slice ao_m L_m cap_m, .slice ao_c L_c cap_c, .slice (some ⟨W9.heap.size, 0, none⟩) T.size cpT] 22⟩
   have z11 : W10.heap.size ≤ W11.heap.size := b11.size
   have B11 : Hid (Below w.heap.size w W11) := B10.out.trans (b11.mono B10.out.size)
   have o_c11 : Hid (Own W11 (W6.heap.size) (W7.heap.size) 5 (.slice ao_c L_c cap_c) (bs Y)) := Own.later o_c10.out b11 (by omega)
   have o_m11 : Hid (Own W11 (W7.heap.size) (W8.heap.size) 5 (.slice ao_m L_m cap_m) (bs N)) := Own.later o_m10.out b11 (by omega)
   clear o_c10 o_m10
   have f_T11 : Hid (Sl W11 (.slice (some ⟨W9.heap.size, 0, none⟩) T.size cpT) (bs (sb T))) := Sl.later f_T10.out b11
   clear f_T10
   have qj := joined_impl W11 _ _ [N, Y, sb T] ff11.out rfl (part3 o_m11.out.sl o_c11.out.sl f_T11.out) (by simp) (by simp [sb_len]; omega)
   have e9 : [N, Y, sb T].flatten = P := by
    rw [HP.out]
    simp only [if_true]
    unfold put
    rw [HY.out, HN.out, HT4.out]
    simp
   rw [e9] at qj
   clear e9 HP HT4 HN HY HT HYB HLE qd
   go_wp2_with fail
   rw [HW11.out]
   refine (qj).mono ?_
   rintro e W12 ⟨v_z, rfl, o_z12, b12⟩
   obtain ⟨ao_z, L_z, cap_z, rfl, hL_z, hM_z⟩ := o_z12.form
   have o_z12 : Hid (Own W12 W11.heap.size W12.heap.size 5 (.slice ao_z L_z cap_z) (bs P)) := o_z12
   clear hL_z hM_z
   have B12 : Hid (Below w.heap.size w W12) := B11.out.trans (b12.mono B11.out.size)
   clear o_c11 o_m11
   clear f_T11
   go_wp2
   go_ret
   exact ⟨_, rfl, o_z12.out.mono (by omega) (Nat.le_refl _), B12.out⟩
end Go.Proofs.YtfpaichdkddglaaGreatDoor.Sr
