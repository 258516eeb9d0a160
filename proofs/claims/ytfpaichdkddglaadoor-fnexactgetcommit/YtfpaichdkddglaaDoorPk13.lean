/- Texts in one: SrA. -/
import Derived.Test.YtfpaichdkddglaaDoorPk12
import Derived.Test.YtfpaichdkddglaaDoorPk9
import Derived.Test.YtfpaichdkddglaaDoorPk11
/- Chapter 12, the specification's side: commits as bytes. -/
namespace Go.Proofs.YtfpaichdkddglaaDoor.Sr
open Go.RowKit Go.Proofs.YtfpaichdkddglaaDoor.Mem Go.Proofs.YtfpaichdkddglaaDoor.Laws Go.Proofs.YtfpaichdkddglaaDoor.Bytes Go.Proofs.YtfpaichdkddglaaDoor.Sha Go.Proofs.YtfpaichdkddglaaDoor.Tr Go.Proofs.YtfpaichdkddglaaDoor.He Go.Proofs.YtfpaichdkddglaaDoor.Lg
set_option linter.unusedVariables false
set_option linter.unusedSimpArgs false

/-- the first four bytes of a digest, as a text -/
theorem dig4 (Y : List Int) : (Plain.txt (digest Y)).size = 32 ∧ ((Plain.txt (digest Y)).extract 0 4).size = 4 ∧ sb ((Plain.txt (digest Y)).extract 0 4) = sum4 Y := by
  have h32 : (Plain.txt (digest Y)).size = 32 := by rw [txt_size, digest_len]
  have e : sb (Plain.txt (digest Y)) = digest Y := sb_txt (digest_byt Y)
  have e2 : sb ((Plain.txt (digest Y)).extract 0 4) = (sb (Plain.txt (digest Y))).take 4 := by
    unfold sb
    rw [ByteArray.data_extract, Array.toList_extract, ← List.map_take]
    simp [List.extract]
  refine ⟨h32, ?_, ?_⟩
  · have h4 : (sb ((Plain.txt (digest Y)).extract 0 4)).length = 4 := by rw [e2, e, List.length_take, digest_len]; rfl
    rw [sb_len] at h4
    exact h4
  · rw [e2, e]; rfl

set_option maxRecDepth 1000000 in
set_option maxHeartbeats 4000000 in
theorem put_spec (w : World) (h : Hd) (v : Value) (x : List ByteArray) (hs : Sl w v (ss x)) (hl : x.length ≤ 1000000000) (ht : Puts.tot x ≤ 100000000000) (hr : h.r.size ≤ 100000000000) :
    Calls Tryd.prog 42 #[.agg #[.int .i64 h.n, .string h.r], v] w fun e w' => ∃ v', e = .returned v' ∧ Own w' w.heap.size w'.heap.size 5 v' (bs (put h x)) ∧ Below w.heap.size w w' := by
  have HS : Hid (Sl w v (ss x)) := hs
  have htl := Puts.txs_len x
  have hbl := body_len h x
  have n1 := (Puts.num_len h.n).2
  have n2 := Puts.tx_len h.r
  obtain ⟨ao0, cap0, rfl, hc0⟩ := hs.form
  rw [ss_len] at *
  clear hs
  have B0 : Hid (Below w.heap.size w w) := Below.refl _ _
  have HT : Hid ((Puts.txs x).length ≤ 5 * x.length + Puts.tot x) := htl
  clear htl
  obtain ⟨i5, hi5, hz5a, hz5b, hz5c⟩ := info_parts info5
  obtain ⟨W1, HW1, b1, y1, hS1, r_h1⟩ : ∃ X, Hid ((w.alloc (.cells #[.int .i64 h.n, .string h.r] 25)) = X) ∧ Below w.heap.size w X ∧ w.heap.size + 1 ≤ X.heap.size ∧ Hid (X.heap.size = w.heap.size + 1) ∧ Hid (X.heap[w.heap.size]? = some (.cells #[.int .i64 h.n, .string h.r] 25 (0, 0))) := ⟨_, rfl, ((Below.refl _ _).alloc (Nat.le_refl _) _), by simp, by show _ = _; simp, (by show _ = _; exact alloc_nth1_0 w _)⟩
  have z1 : w.heap.size ≤ W1.heap.size := b1.size
  have B1 : Hid (Below w.heap.size w W1) := B0.out.trans (b1.mono B0.out.size)
  have c_h1_0 : W1.cell? ⟨w.heap.size, 0, none⟩ = some (.int .i64 h.n) := row_at r_h1.out 0
  have c_h1_1 : W1.cell? ⟨w.heap.size, 1, none⟩ = some (.string h.r) := row_at r_h1.out 1
  go_enter Tryd.func42, Tryd.ntmps42
  go_wp2_with fail
  rw [HW1.out]
  refine wp_region_held_drew (S := fun w' => w'.cell? ⟨w.heap.size, 0, none⟩ = some (.int .i64 h.n) ∧ w'.cell? ⟨w.heap.size, 1, none⟩ = some (.string h.r)) (by kernel_rfl) ⟨c_h1_0, c_h1_1⟩ (fun hHeld => ?_)
  (refine wpAnyH_take (i := 1) (v := ?v1x1) rfl (by kernel_rfl) (by kernel_rfl) (by kernel_rfl) (fun _ _ _ h => h) (Or.inl ⟨by rfl, ?hy1x1⟩) (by assumption) ?rest1x1; case hy1x1 => (intro w hSw; (try dsimp only at hSw); go_split_ands; go_simp; (try with_reducible rfl)))
  try simp only [Act.put, List.setIfInBounds_toArray, List.set_cons_zero, List.set_cons_succ, List.getElem_toArray, List.getElem_cons_zero, List.getElem_cons_succ]
  (refine wpAnyH_take (i := 2) (v := ?v2x2) rfl (by kernel_rfl) (by kernel_rfl) (by kernel_rfl) (fun _ _ _ h => h) (Or.inl ⟨by rfl, ?hy2x2⟩) (by assumption) ?rest2x2; case hy2x2 => (intro w hSw; (try dsimp only at hSw); go_split_ands; go_simp; (try with_reducible rfl)))
  try simp only [Act.put, List.setIfInBounds_toArray, List.set_cons_zero, List.set_cons_succ, List.getElem_toArray, List.getElem_cons_zero, List.getElem_cons_succ]
  (refine wpAnyH_take (i := 4) (v := ?v4x3) rfl (by kernel_rfl) (by kernel_rfl) (by kernel_rfl) (fun _ _ _ h => h) (Or.inl ⟨by rfl, ?hy4x3⟩) (by assumption) ?rest4x3; case hy4x3 => (intro w hSw; (try dsimp only at hSw); go_split_ands; go_simp; (try with_reducible rfl)))
  try simp only [Act.put, List.setIfInBounds_toArray, List.set_cons_zero, List.set_cons_succ, List.getElem_toArray, List.getElem_cons_zero, List.getElem_cons_succ]
  (refine wpAnyH_take (i := 5) (v := ?v5x4) rfl (by kernel_rfl) (by kernel_rfl) (by kernel_rfl) (fun _ _ _ h => h) (Or.inl ⟨by rfl, ?hy5x4⟩) (by assumption) ?rest5x4; case hy5x4 => (intro w hSw; (try dsimp only at hSw); go_split_ands; go_simp; (try with_reducible rfl)))
  try simp only [Act.put, List.setIfInBounds_toArray, List.set_cons_zero, List.set_cons_succ, List.getElem_toArray, List.getElem_cons_zero, List.getElem_cons_succ]
  (refine wpAnyH_take (i := 7) (v := ?v7x5) rfl (by kernel_rfl) (by kernel_rfl) (by kernel_rfl) (fun _ _ _ h => h) (Or.inl ⟨by rfl, ?hy7x5⟩) (by assumption) ?rest7x5; case hy7x5 => (intro w hSw; (try dsimp only at hSw); go_split_ands; go_simp; (try with_reducible rfl)))
  try simp only [Act.put, List.setIfInBounds_toArray, List.set_cons_zero, List.set_cons_succ, List.getElem_toArray, List.getElem_cons_zero, List.getElem_cons_succ]
  refine wpAnyH_ready (rs := [0]) (by kernel_rfl) (by simp) ?_
  refine AllReadyH.cons rfl (fun K hK => ?_) AllReadyH.nil
  go_simp
  refine hK.out _ _ ⟨(keepR (W := W1.drew) hHeld.1 ((Below.refl _ _).alloc (Nat.le_refl _) _)), (keepR (W := W1.drew) hHeld.2 ((Below.refl _ _).alloc (Nat.le_refl _) _))⟩ (fun hHeld => ?_)
  clear hK K
  try simp only [Act.put, List.setIfInBounds_toArray, List.set_cons_zero, List.set_cons_succ, List.getElem_toArray, List.getElem_cons_zero, List.getElem_cons_succ]
  obtain ⟨W2, HW2, b2, o_e2⟩ : ∃ X, Hid ((W1.alloc (.cells #[] 5)).drew = X) ∧ Below W1.heap.size W1 X ∧ Hid (Own X W1.heap.size X.heap.size 5 (.slice (some ⟨W1.heap.size, 0, none⟩) 0 0) (bs [])) := ⟨_, rfl, (Below.drew ((Below.refl _ _).alloc (Nat.le_refl _) _)), Puts.Own.empty W1 W1.heap.size (Nat.le_refl _)⟩
  have HHW2 := HW2.out
  rw [HHW2] at hHeld ⊢
  clear HHW2
  have z2 : W1.heap.size ≤ W2.heap.size := b2.size
  have B2 : Hid (Below w.heap.size w W2) := B1.out.trans (b2.mono B1.out.size)
  have r_h2 : Hid (W2.heap[w.heap.size]? = some (.cells #[.int .i64 h.n, .string h.r] 25 (0, 0))) := rowKeep r_h1.out b2
  have c_h2_0 : W2.cell? ⟨w.heap.size, 0, none⟩ = some (.int .i64 h.n) := row_at r_h2.out 0
  have c_h2_1 : W2.cell? ⟨w.heap.size, 1, none⟩ = some (.string h.r) := row_at r_h2.out 1
  clear r_h1 c_h1_0 c_h1_1
  refine wpAnyH_ready (rs := [3]) (by kernel_rfl) (by simp) ?_
  refine AllReadyH.cons rfl (fun K hK => ?_) AllReadyH.nil
  go_simp
  refine (Puts.put_spec W2 _ [] h.n o_e2.out.sl (by simp)).mono ?_
  rintro e W3 ⟨v_a, rfl, o_a3, b3⟩
  refine hK.out _ _ ⟨(keepR (W := W2) hHeld.1 b3), (keepR (W := W2) hHeld.2 b3)⟩ (fun hHeld => ?_)
  clear hK K
  try simp only [Act.put, List.setIfInBounds_toArray, List.set_cons_zero, List.set_cons_succ, List.getElem_toArray, List.getElem_cons_zero, List.getElem_cons_succ]
  obtain ⟨ao_a, L_a, cap_a, rfl, hL_a, hM_a⟩ := o_a3.form
  have o_a3 : Hid (Own W3 W2.heap.size W3.heap.size 5 (.slice ao_a L_a cap_a) (bs ([] ++ Puts.num h.n))) := o_a3
  clear hL_a hM_a
  have z3 : W2.heap.size ≤ W3.heap.size := b3.size
  have B3 : Hid (Below w.heap.size w W3) := B2.out.trans (b3.mono B2.out.size)
  have r_h3 : Hid (W3.heap[w.heap.size]? = some (.cells #[.int .i64 h.n, .string h.r] 25 (0, 0))) := rowKeep r_h2.out b3
  have o_e3 : Hid (Own W3 (W1.heap.size) (W2.heap.size) 5 (.slice (some ⟨W1.heap.size, 0, none⟩) 0 0) (bs [])) := Own.later o_e2.out b3 (by omega)
  have c_h3_0 : W3.cell? ⟨w.heap.size, 0, none⟩ = some (.int .i64 h.n) := row_at r_h3.out 0
  have c_h3_1 : W3.cell? ⟨w.heap.size, 1, none⟩ = some (.string h.r) := row_at r_h3.out 1
  clear r_h2 c_h2_0 c_h2_1 o_e2
  refine wpAnyH_ready (rs := [6]) (by kernel_rfl) (by simp) ?_
  refine AllReadyH.cons rfl (fun K hK => ?_) AllReadyH.nil
  go_simp
  refine (Puts.putt_spec W3 _ ([] ++ Puts.num h.n) h.r o_a3.out.sl (by rw [List.nil_append]; omega) (by omega)).mono ?_
  rintro e W4 ⟨v_b, rfl, o_b4, b4⟩
  refine hK.out _ _ ⟨(keepR (W := W3) hHeld.1 b4), (keepR (W := W3) hHeld.2 b4)⟩ (fun hHeld => ?_)
  clear hK K
  try simp only [Act.put, List.setIfInBounds_toArray, List.set_cons_zero, List.set_cons_succ, List.getElem_toArray, List.getElem_cons_zero, List.getElem_cons_succ]
  obtain ⟨ao_b, L_b, cap_b, rfl, hL_b, hM_b⟩ := o_b4.form
  have o_b4 : Hid (Own W4 W3.heap.size W4.heap.size 5 (.slice ao_b L_b cap_b) (bs ([] ++ Puts.num h.n ++ Puts.tx h.r))) := o_b4
  clear hL_b hM_b
  have z4 : W3.heap.size ≤ W4.heap.size := b4.size
  have B4 : Hid (Below w.heap.size w W4) := B3.out.trans (b4.mono B3.out.size)
  have r_h4 : Hid (W4.heap[w.heap.size]? = some (.cells #[.int .i64 h.n, .string h.r] 25 (0, 0))) := rowKeep r_h3.out b4
  have o_e4 : Hid (Own W4 (W1.heap.size) (W2.heap.size) 5 (.slice (some ⟨W1.heap.size, 0, none⟩) 0 0) (bs [])) := Own.later o_e3.out b4 (by omega)
  have o_a4 : Hid (Own W4 (W2.heap.size) (W3.heap.size) 5 (.slice ao_a L_a cap_a) (bs ([] ++ Puts.num h.n))) := Own.later o_a3.out b4 (by omega)
  have c_h4_0 : W4.cell? ⟨w.heap.size, 0, none⟩ = some (.int .i64 h.n) := row_at r_h4.out 0
  have c_h4_1 : W4.cell? ⟨w.heap.size, 1, none⟩ = some (.string h.r) := row_at r_h4.out 1
  clear r_h3 c_h3_0 c_h3_1 o_e3 o_a3
  refine wpAnyH_ready (rs := [8]) (by kernel_rfl) (by simp) ?_
  refine AllReadyH.cons rfl (fun K hK => ?_) AllReadyH.nil
  go_simp
  refine (Puts.putts_spec W4 _ _ ([] ++ Puts.num h.n ++ Puts.tx h.r) x o_b4.out.sl (HS.out.later B4.out) (by have := HT.out; rw [List.nil_append, List.length_append]; omega) (by omega)).mono ?_
  rintro e W5 ⟨v_c, rfl, o_c5, b5⟩
  refine hK.out _ _ ⟨(keepR (W := W4) hHeld.1 b5), (keepR (W := W4) hHeld.2 b5)⟩ (fun hHeld => ?_)
  clear hK K
  try simp only [Act.put, List.setIfInBounds_toArray, List.set_cons_zero, List.set_cons_succ, List.getElem_toArray, List.getElem_cons_zero, List.getElem_cons_succ]
  obtain ⟨ao_c, L_c, cap_c, rfl, hL_c, hM_c⟩ := o_c5.form
  have o_c5 : Hid (Own W5 W4.heap.size W5.heap.size 5 (.slice ao_c L_c cap_c) (bs ([] ++ Puts.num h.n ++ Puts.tx h.r ++ Puts.num (x.length : Int) ++ Puts.txs x))) := o_c5
  clear hL_c hM_c
  have z5 : W4.heap.size ≤ W5.heap.size := b5.size
  have B5 : Hid (Below w.heap.size w W5) := B4.out.trans (b5.mono B4.out.size)
  have r_h5 : Hid (W5.heap[w.heap.size]? = some (.cells #[.int .i64 h.n, .string h.r] 25 (0, 0))) := rowKeep r_h4.out b5
  have o_e5 : Hid (Own W5 (W1.heap.size) (W2.heap.size) 5 (.slice (some ⟨W1.heap.size, 0, none⟩) 0 0) (bs [])) := Own.later o_e4.out b5 (by omega)
  have o_a5 : Hid (Own W5 (W2.heap.size) (W3.heap.size) 5 (.slice ao_a L_a cap_a) (bs ([] ++ Puts.num h.n))) := Own.later o_a4.out b5 (by omega)
  have o_b5 : Hid (Own W5 (W3.heap.size) (W4.heap.size) 5 (.slice ao_b L_b cap_b) (bs ([] ++ Puts.num h.n ++ Puts.tx h.r))) := Own.later o_b4.out b5 (by omega)
  have c_h5_0 : W5.cell? ⟨w.heap.size, 0, none⟩ = some (.int .i64 h.n) := row_at r_h5.out 0
  have c_h5_1 : W5.cell? ⟨w.heap.size, 1, none⟩ = some (.string h.r) := row_at r_h5.out 1
  clear r_h4 c_h4_0 c_h4_1 o_e4 o_a4 o_b4
  (refine wpAnyH_take (i := 9) (v := ?v9x6) rfl (by kernel_rfl) (by kernel_rfl) (by kernel_rfl) (fun _ _ _ h => h) (Or.inl ⟨by rfl, ?hy9x6⟩) (by assumption) ?rest9x6; case hy9x6 => (intro w hSw; (try dsimp only at hSw); go_split_ands; go_simp; (try with_reducible rfl)))
  try simp only [Act.put, List.setIfInBounds_toArray, List.set_cons_zero, List.set_cons_succ, List.getElem_toArray, List.getElem_cons_zero, List.getElem_cons_succ]
  refine wpAnyH_done (by kernel_rfl) ?_ _
  clear hHeld
  obtain ⟨Y, hY⟩ : ∃ Y, body h x = Y := ⟨_, rfl⟩
  have o_c5 : Hid (Own W5 (W4.heap.size) (W5.heap.size) 5 (.slice ao_c L_c cap_c) (bs Y)) := by show Own _ _ _ _ _ _; have h9 := o_c5.out; have e9 : [] ++ Puts.num h.n ++ Puts.tx h.r ++ Puts.num (x.length : Int) ++ Puts.txs x = Y := by { rw [← hY]; unfold body; simp only [List.nil_append, List.append_assoc] }; rw [e9] at h9; exact h9
  have hLc : L_c ≤ Y.length ∧ Y.length ≤ L_c := by obtain ⟨a9, L9, c9, he, h1, h2⟩ := Mem.Own.form o_c5.out; injection he with _ he2 _; rw [bs_len] at h1 h2; omega
  have hYb : Y.length ≤ h.r.size + 15 + 5 * x.length + Puts.tot x := by rw [← hY]; exact hbl
  have hYB : Byt Y := by rw [← hY]; exact body_byt h x
  have HY : Hid (body h x = Y) := hY
  have HYB : Hid (Byt Y) := hYB
  clear hY hbl hYB
  clear o_e5
  clear o_a5
  clear o_b5
  clear r_h5 c_h5_0 c_h5_1
  obtain ⟨W6, HW6, b6, o_n6⟩ : ∃ X, Hid ((W5.alloc (.cells #[] 5)) = X) ∧ Below W5.heap.size W5 X ∧ Hid (Own X W5.heap.size X.heap.size 5 (.slice (some ⟨W5.heap.size, 0, none⟩) 0 0) (bs [])) := ⟨_, rfl, (Below.refl _ _).alloc (Nat.le_refl _) _, Puts.Own.empty W5 W5.heap.size (Nat.le_refl _)⟩
  have z6 : W5.heap.size ≤ W6.heap.size := b6.size
  have B6 : Hid (Below w.heap.size w W6) := B5.out.trans (b6.mono B5.out.size)
  have o_c6 : Hid (Own W6 (W4.heap.size) (W5.heap.size) 5 (.slice ao_c L_c cap_c) (bs Y)) := Own.later o_c5.out b6 (by omega)
  clear o_c5
  have hLe : (L_c : Int) = (Y.length : Int) := by omega
  have HLE : Hid ((L_c : Int) = (Y.length : Int)) := hLe
  clear hLe
  go_wp2_with fail
  rw [HW6.out]
  refine (Puts.put_spec W6 _ [] (L_c : Int) o_n6.out.sl (by simp)).mono ?_
  rintro e W7 ⟨v_m, rfl, o_m7, b7⟩
  obtain ⟨ao_m, L_m, cap_m, rfl, hL_m, hM_m⟩ := o_m7.form
  have o_m7 : Hid (Own W7 W6.heap.size W7.heap.size 5 (.slice ao_m L_m cap_m) (bs ([] ++ Puts.num (L_c : Int)))) := o_m7
  clear hL_m hM_m
  have z7 : W6.heap.size ≤ W7.heap.size := b7.size
  have B7 : Hid (Below w.heap.size w W7) := B6.out.trans (b7.mono B6.out.size)
  have o_c7 : Hid (Own W7 (W4.heap.size) (W5.heap.size) 5 (.slice ao_c L_c cap_c) (bs Y)) := Own.later o_c6.out b7 (by omega)
  have o_n7 : Hid (Own W7 (W5.heap.size) (W6.heap.size) 5 (.slice (some ⟨W5.heap.size, 0, none⟩) 0 0) (bs [])) := Own.later o_n6.out b7 (by omega)
  clear o_c6 o_n6
  obtain ⟨N, hN⟩ : ∃ N, Puts.num (L_c : Int) = N := ⟨_, rfl⟩
  have n3 := (Puts.num_len (L_c : Int)).2
  rw [hN] at n3
  have o_m7 : Hid (Own W7 (W6.heap.size) (W7.heap.size) 5 (.slice ao_m L_m cap_m) (bs N)) := by show Own _ _ _ _ _ _; have h9 := o_m7.out; rw [hN, List.nil_append] at h9; exact h9
  have HN : Hid (Puts.num (Y.length : Int) = N) := by show _ = _; rw [← HLE.out, hN]
  clear hN
  have c6_8 : (bs N).length + (bs Y).length ≤ maxLen := by rw [bs_len, bs_len]; unfold maxLen; (try simp only [List.length_nil]); omega
  have c7_8 : ((bs N).length + (bs Y).length) * 1 ≤ 140737488355328 := by rw [bs_len, bs_len]; (try simp only [List.length_nil]); omega
  have sE8 : Hid (Sl W7 _ (bs Y)) := o_c7.out.sl
  go_wp2_with (at_builtin; go_must (refine wpl_app _ rfl (.tmp 19) (.tmp 20) 22 rfl 5 i5 (.int .u8 0) 1 Tryd.underlying22 hi5 hz5a hz5b hz5c rfl (W6.heap.size) _ (bs N) rfl (Own.mono o_m7.out (Nat.le_refl _) (by omega)) _ rfl (bs Y) sE8.out (bs_one Y) c6_8 c7_8 (by omega) ?_))
  intro v_p W8 o_p8 _ g8
  have o_p8 : Own W8 (W6.heap.size) W8.heap.size 5 v_p (bs (N ++ Y)) := by show Own _ _ _ _ _ _; rw [bs_app]; exact o_p8
  have o_p8h : Hid (Own W8 (W6.heap.size) W8.heap.size 5 v_p (bs (N ++ Y))) := o_p8
  clear o_p8
  have o_p8 := o_p8h
  clear o_p8h
  obtain ⟨ao_p, L_p, cap_p, rfl, _, _⟩ := Mem.Own.form o_p8.out
  have z8 : W7.heap.size ≤ W8.heap.size := g8.size
  have B8 : Hid (Below w.heap.size w W8) := belowGro B7.out g8 B7.out.size (Own.low o_m7.out (by have := B7.out.size; omega))
  have o_c8 : Hid (Own W8 (W4.heap.size) (W5.heap.size) 5 (.slice ao_c L_c cap_c) (bs Y)) := Own.gro o_c7.out g8 (Own.neFar o_m7.out o_c7.out (by omega))
  have o_n8 : Hid (Own W8 (W5.heap.size) (W6.heap.size) 5 (.slice (some ⟨W5.heap.size, 0, none⟩) 0 0) (bs [])) := Own.gro o_n7.out g8 (Own.neFar o_m7.out o_n7.out (by omega))
  clear o_c7 o_n7 o_m7
  clear g8 sE8 c6_8 c7_8
  obtain ⟨d1, d2, d3⟩ := dig4 Y
  have qd : ∀ W v1, Sl W v1 (bs Y) → _ := fun W v1 h1 => digest_spec W v1 Y h1 HYB.out (by omega)
  obtain ⟨D, hD⟩ : ∃ D, Plain.txt (digest Y) = D := ⟨_, rfl⟩
  rw [hD] at d1 d2 d3
  simp only [hD] at qd
  have dd : ¬ ((D.size : Int) < 4) := by omega
  have dn : 4 ≤ D.size := by omega
  obtain ⟨T, hT⟩ : ∃ T, D.extract 0 4 = T := ⟨_, rfl⟩
  rw [hT] at d2 d3
  have HT4 : Hid (sb T = sum4 Y) := d3
  have hTs : T.size ≤ 4 := by omega
  clear d1 d2 d3 hD
  go_wp2_with fail
  refine (qd W8 _ o_c8.out.sl).mono ?_
  rintro e W9 ⟨rfl, b9⟩
  have z9 : W8.heap.size ≤ W9.heap.size := b9.size
  have B9 : Hid (Below w.heap.size w W9) := B8.out.trans (b9.mono B8.out.size)
  have o_c9 : Hid (Own W9 (W4.heap.size) (W5.heap.size) 5 (.slice ao_c L_c cap_c) (bs Y)) := Own.later o_c8.out b9 (by omega)
  have o_n9 : Hid (Own W9 (W5.heap.size) (W6.heap.size) 5 (.slice (some ⟨W5.heap.size, 0, none⟩) 0 0) (bs [])) := Own.later o_n8.out b9 (by omega)
  have o_p9 : Hid (Own W9 (W6.heap.size) (W8.heap.size) 5 (.slice ao_p L_p cap_p) (bs (N ++ Y))) := Own.later o_p8.out b9 (by omega)
  clear o_c8 o_n8 o_p8
  have c6_10 : ((N ++ Y)).length + (T).size ≤ 140737488355328 := by rw [List.length_append]; omega
  go_wp2_with (at_builtin; go_must (refine wpl_strG _ rfl (.tmp 22) (.tmp 25) 22 9 rfl 5 i5 Tryd.underlying22 Tryd.underlying9 hi5 hz5a hz5b hz5c (W6.heap.size) _ ((N ++ Y)) rfl (Own.mono o_p9.out (Nat.le_refl _) (by omega)) (T) rfl c6_10 (by omega) ?_))
  intro v_z W10 o_z10 g10
  have o_z10 : Own W10 (W6.heap.size) W10.heap.size 5 v_z (bs (N ++ (Y ++ sb T))) := o_z10
  have o_z10h : Hid (Own W10 (W6.heap.size) W10.heap.size 5 v_z (bs (N ++ (Y ++ sb T)))) := o_z10
  clear o_z10
  have o_z10 := o_z10h
  clear o_z10h
  obtain ⟨ao_z, L_z, cap_z, rfl, _, _⟩ := Mem.Own.form o_z10.out
  have z10 : W9.heap.size ≤ W10.heap.size := g10.size
  have B10 : Hid (Below w.heap.size w W10) := belowGro B9.out g10 B9.out.size (Own.low o_p9.out (by have := B9.out.size; omega))
  have o_c10 : Hid (Own W10 (W4.heap.size) (W5.heap.size) 5 (.slice ao_c L_c cap_c) (bs Y)) := Own.gro o_c9.out g10 (Own.neFar o_p9.out o_c9.out (by omega))
  have o_n10 : Hid (Own W10 (W5.heap.size) (W6.heap.size) 5 (.slice (some ⟨W5.heap.size, 0, none⟩) 0 0) (bs [])) := Own.gro o_n9.out g10 (Own.neFar o_p9.out o_n9.out (by omega))
  clear o_c9 o_n9 o_p9
  clear g10 c6_10
  go_wp2
  go_ret
  refine ⟨_, rfl, ?_, B10.out⟩
  have e9 : put h x = N ++ (Y ++ sb T) := by unfold put; rw [HY.out, HN.out, HT4.out]
  rw [e9]
  exact Own.mono o_z10.out (by omega) (Nat.le_refl _)

end Go.Proofs.YtfpaichdkddglaaDoor.Sr
