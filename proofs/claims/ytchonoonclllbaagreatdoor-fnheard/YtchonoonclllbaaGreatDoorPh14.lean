/- Texts in one: SrC, SrD, Crs2, Crs3, Mg1, Mi1. -/
import Derived.Test.YtchonoonclllbaaGreatDoorPh13
set_option maxHeartbeats 16000000
set_option linter.unusedVariables false
set_option linter.unusedSimpArgs false
namespace Go.Proofs.YtchonoonclllbaaGreatDoor.Sr
open Go.RowKit Mem Laws Bytes Sha Tr He Lg
def sc (v : Value) (h : Hd) (b : Value) (s : Int) : Array Value := #[v, .int .i64 h.n, .string h.r, b, .int .i64 s]
theorem sizeS (v : Value) (h : Hd) (b : Value) (s : Int) : (Tryz.prog.info? 30).map (·.size) = some (sc v h b s).size := by
 show _ = some 5
 kernel_rfl
theorem oneS {v b : Value} (h : Hd) (s : Int) (hv : v.oneCell' = true) (hb : b.oneCell' = true) : (sc v h b s).all (·.oneCell') = true := by
 simp [sc, Value.oneCell']
 exact ⟨hv, hb⟩
set_option maxRecDepth 1000000 in
theorem storenew_spec (w : World) : Calls Tryz.prog 141 #[] w fun e w' => e = .returned (.agg #[.slice none 0 0, .int .i64 (headOf []).n, .string (headOf []).r, .slice none 0 0, .int .i64 0]) ∧ Below w.heap.size w w' := by
 have B0 : Hid (Below w.heap.size w w) := Below.refl _ _
 obtain ⟨W1, HW1, b1, y1, hS1, r_res1⟩ := Ke.l1 w #[.slice none 0 0, .int .i64 0, .string ⟨#[]⟩, .slice none 0 0, .int .i64 0] 30
 have z1 := b1.size
 have B1 := Ke.b B0 b1
 obtain ⟨M, hM⟩ : ∃ M, headOf [] = M := ⟨_, rfl⟩
 have q : ∀ W, _ := fun W => lognew_spec W
 simp only [hM] at q
 rw [hM]
 clear hM
 go_enter Tryz.func141, Tryz.ntmps141
 go_wp2_with fail
 rw [HW1.out]
 refine (q W1).mono ?_
 rintro e W2 ⟨rfl, b2⟩
 have z2 := b2.size
 have B2 := Ke.b B1 b2
 have r_res2 := Ke.r r_res1 b2
 clear r_res1
 go_wp2_with (refine wpList_store_row rfl 30 _ _ rfl (w.heap.size) (sc (.slice none 0 0) M (.slice none 0 0) 0) rfl rfl 30 _ r_res2.out (sizeS _ _ _ _) rfl (oneS _ _ rfl rfl) ?_)
 refine bodyPost_ret (v := .agg (sc (.slice none 0 0) M (.slice none 0 0) 0)) (results_cell_row rfl _ _ (w.heap.size) 30 _ (0, 0) _ rfl (setRow_heap _ _ _ _ _ (0, 0) r_res2.out) Tryz.underlying30 rfl (sizeS _ _ _ _)) rfl ⟨rfl, below_setRow B2.out (by omega) _⟩
set_option maxRecDepth 1000000 in
theorem copy_spec (w : World) (v vb : Value) (st : Sto) (hs : Sl w v (ss st.l)) (hb : Sl w vb (bs st.b)) (hl : st.l.length ≤ 1000000000) (hbl : st.b.length ≤ 1000000000) :
  Calls Tryz.prog 90 #[.agg #[v, .int .i64 st.h.n, .string st.h.r, vb, .int .i64 st.s]] w fun e w' => ∃ v' vb', e = .returned (.agg #[v', .int .i64 st.h.n, .string st.h.r, vb', .int .i64 st.s]) ∧ Own w' w.heap.size w'.heap.size 9 v' (ss st.l) ∧ Own w' w.heap.size w'.heap.size 5 vb' (bs st.b) ∧ Below w.heap.size w w' := by
 obtain ⟨l, h, b, s⟩ := st
 simp only at *
 have HS : Hid (Sl w v (ss l)) := hs
 have HSB : Hid (Sl w vb (bs b)) := hb
 obtain ⟨ao0, cap0, rfl, hc0⟩ := hs.form
 obtain ⟨ao1, cap1, rfl, hc1⟩ := hb.form
 rw [ss_len] at *
 rw [bs_len] at *
 clear hs hb
 have B0 : Hid (Below w.heap.size w w) := Below.refl _ _
 obtain ⟨i5, hi5, hz5a, hz5b, hz5c⟩ := info_parts info5
 obtain ⟨W1, HW1, b1, y1, hS1, r_a1, r_res1⟩ := Ke.l2 w #[.slice ao0 l.length cap0, .int .i64 h.n, .string h.r, .slice ao1 b.length cap1, .int .i64 s] 30 #[.slice none 0 0, .int .i64 0, .string ⟨#[]⟩, .slice none 0 0, .int .i64 0] 30
 have z1 := b1.size
 have B1 := Ke.b B0 b1
 have c_a1 := Ke.c r_a1
 have q : ∀ W v1, Sl W v1 (ss l) → _ := fun W v1 h1 => Lg.copy_spec W v1 l h h1 hl
 go_enter Tryz.func90, Tryz.ntmps90
 go_wp2_with fail
 rw [HW1.out]
 refine wp_region_held_drew (S := fun w' => w'.cell? ⟨w.heap.size, 0, none⟩ = some (.slice ao0 l.length cap0) ∧ w'.cell? ⟨w.heap.size, 1, none⟩ = some (.int .i64 h.n) ∧ w'.cell? ⟨w.heap.size, 2, none⟩ = some (.string h.r) ∧ w'.cell? ⟨w.heap.size, 3, none⟩ = some (.slice ao1 b.length cap1) ∧ w'.cell? ⟨w.heap.size, 4, none⟩ = some (.int .i64 s)) (by kernel_rfl) ⟨(c_a1 0), (c_a1 1), (c_a1 2), (c_a1 3), (c_a1 4)⟩ (fun hHeld => ?_)
 refine Ke.q 0 ?_; try simp only [Act.put, pq]
 refine Ke.q 1 ?_; try simp only [Act.put, pq]
 refine Ke.q 4 ?_; try simp only [Act.put, pq]
 refine Ke.q 5 ?_; try simp only [Act.put, pq]
 refine Ke.q 7 ?_; try simp only [Act.put, pq]
 refine Ke.q 8 ?_; try simp only [Act.put, pq]
 refine wpAnyH_ready (rs := [2, 3]) (by kernel_rfl) (by simp) ?_
 refine AllReadyH.cons rfl (fun K hK => ?_) (AllReadyH.cons rfl (fun K hK => ?_) AllReadyH.nil)
 ·go_simp
  refine (q W1.drew _ (Sl.later (w := W1) (HS.out.later B1.out) (Below.drew (Below.refl _ _)))).mono ?_
  rintro e W2 ⟨v_s, rfl, o_s2, b2⟩
  have b2 : Below W1.heap.size W1 W2 := (Below.drew (Below.refl _ _)).trans b2
  refine hK.out _ _ ⟨(keepR (W := W1) hHeld.1 b2), (keepR (W := W1) hHeld.2.1 b2), (keepR (W := W1) hHeld.2.2.1 b2), (keepR (W := W1) hHeld.2.2.2.1 b2), (keepR (W := W1) hHeld.2.2.2.2 b2)⟩ (fun hHeld => ?_)
  clear hK K
  try simp only [Act.put, pq]
  have o_s2 : Own W2 W1.heap.size W2.heap.size 9 _ _ := o_s2
  obtain ⟨ao_s, L_s, cap_s, rfl, hL_s, hM_s⟩ := o_s2.form
  have o_s2 : Hid (Own W2 W1.heap.size W2.heap.size 9 (.slice ao_s L_s cap_s) (ss l)) := o_s2
  clear hL_s hM_s
  have z2 := b2.size
  have B2 := Ke.b B1 b2
  have r_a2 := Ke.r r_a1 b2
  have r_res2 := Ke.r r_res1 b2
  clear r_a1 c_a1 r_res1
  refine Ke.z 3 rfl (fun K hK => ?_)
  go_simp
  refine hK.out _ _ ⟨(keepR (W := W2) hHeld.1 ((Below.refl _ _).alloc (Nat.le_refl _) _)), (keepR (W := W2) hHeld.2.1 ((Below.refl _ _).alloc (Nat.le_refl _) _)), (keepR (W := W2) hHeld.2.2.1 ((Below.refl _ _).alloc (Nat.le_refl _) _)), (keepR (W := W2) hHeld.2.2.2.1 ((Below.refl _ _).alloc (Nat.le_refl _) _)), (keepR (W := W2) hHeld.2.2.2.2 ((Below.refl _ _).alloc (Nat.le_refl _) _))⟩ (fun hHeld => ?_)
  clear hK K
  try simp only [Act.put, pq]
  obtain ⟨W3, HW3, b3, o_e3⟩ : ∃ X, Hid ((W2.alloc (.cells #[] 5)) = X) ∧ Below W2.heap.size W2 X ∧ Hid (Own X W2.heap.size X.heap.size 5 (.slice (some ⟨W2.heap.size, 0, none⟩) 0 0) (bs [])) := ⟨_, rfl, ((Below.refl _ _).alloc (Nat.le_refl _) _), Puts.Own.empty W2 W2.heap.size (Nat.le_refl _)⟩
  have HHW3 := HW3.out
  rw [HHW3] at hHeld ⊢
  clear HHW3
  have z3 := b3.size
  have B3 := Ke.b B2 b3
  have r_a3 := Ke.r r_a2 b3
  have r_res3 := Ke.r r_res2 b3
  have o_s3 := Ke.o o_s2 b3
  clear r_a2 r_res2 o_s2
  refine Ke.z 6 rfl (fun K hK => ?_)
  have c6_4 : (bs []).length + (bs b).length ≤ maxLen := by rw [bs_len, bs_len]; unfold maxLen; (try simp only [List.length_nil]); omega
  have c7_4 : ((bs []).length + (bs b).length) * 1 ≤ 140737488355328 := by rw [bs_len, bs_len]; (try simp only [List.length_nil]); omega
  refine step_appG (by rfl) (.tmp 6) (.tmp 8) 22 (by rfl) 5 i5 (.int .u8 0) 1 Tryz.underlying22 hi5 hz5a hz5b hz5c rfl (W2.heap.size) _ (bs []) (by rfl) (Own.mono o_e3.out (Nat.le_refl _) (by omega)) _ (by rfl) (bs b) ((HSB.out.later B3.out)) (bs_one b) c6_4 c7_4 (by omega) ?_
  intro v_p W4 o_p4 g4
  refine hK.out _ _ ⟨(cellGro hHeld.1 g4 (Own.neRow o_e3.out r_a3.out (by decide))), (cellGro hHeld.2.1 g4 (Own.neRow o_e3.out r_a3.out (by decide))), (cellGro hHeld.2.2.1 g4 (Own.neRow o_e3.out r_a3.out (by decide))), (cellGro hHeld.2.2.2.1 g4 (Own.neRow o_e3.out r_a3.out (by decide))), (cellGro hHeld.2.2.2.2 g4 (Own.neRow o_e3.out r_a3.out (by decide)))⟩ (fun hHeld => ?_)
  clear hK K
  try simp only [Act.put, pq]
  have o_p4 : Own W4 (W2.heap.size) W4.heap.size 5 v_p (bs b) := o_p4
  have o_p4h : Hid (Own W4 (W2.heap.size) W4.heap.size 5 v_p (bs b)) := o_p4
  clear o_p4
  have o_p4 := o_p4h
  clear o_p4h
  obtain ⟨ao_p, L_p, cap_p, rfl, _, _⟩ := Mem.Own.form o_p4.out
  have z4 := g4.size
  have B4 : Hid (Below w.heap.size w W4) := belowGro B3.out g4 B3.out.size (Own.low o_e3.out (by have := B3.out.size; omega))
  have r_res4 := Ke.n r_res3 o_e3 g4
  have o_s4 : Hid (Own W4 (W1.heap.size) (W2.heap.size) 9 (.slice ao_s L_s cap_s) (ss l)) := Own.gro o_s3.out g4 (Own.neOwn o_e3.out o_s3.out (by decide))
  clear r_a3 r_res3 o_s3 o_e3
  clear g4 c6_4 c7_4
  refine Ke.q 9 ?_; try simp only [Act.put, pq]
  refine Ke.z 10 rfl (fun K hK => ?_)
  rw [if_pos (by rfl)]
  refine wp_store_row 30 _ _ rfl (w.heap.size + 1) (sc (.slice ao_s L_s cap_s) h (.slice ao_p L_p cap_p) s) rfl rfl 30 _ r_res4.out (sizeS _ _ _ _) rfl (oneS _ _ rfl rfl) ?_
  refine hK.out _ _ ⟨(cell_row (by show w.heap.size ≠ w.heap.size + 1; omega) hHeld.1), (cell_row (by show w.heap.size ≠ w.heap.size + 1; omega) hHeld.2.1), (cell_row (by show w.heap.size ≠ w.heap.size + 1; omega) hHeld.2.2.1), (cell_row (by show w.heap.size ≠ w.heap.size + 1; omega) hHeld.2.2.2.1), (cell_row (by show w.heap.size ≠ w.heap.size + 1; omega) hHeld.2.2.2.2)⟩ (fun hHeld => ?_)
  clear hK K
  refine wpAnyH_done (by kernel_rfl) ?_ _
  clear hHeld
  go_wp2
  refine bodyPost_ret (v := .agg (sc (.slice ao_s L_s cap_s) h (.slice ao_p L_p cap_p) s)) (results_cell_row rfl _ _ (w.heap.size + 1) 30 _ (0, 0) _ rfl (setRow_heap _ _ _ _ _ (0, 0) r_res4.out) Tryz.underlying30 rfl (sizeS _ _ _ _)) rfl ⟨.slice ao_s L_s cap_s, .slice ao_p L_p cap_p, rfl, (Own.setRow o_s4.out _ (by omega)).mono (by omega) (by rw [size_setRow]; omega), (Own.setRow o_p4.out _ (by omega)).mono (by omega) (by rw [size_setRow]; omega), below_setRow B4.out (by omega) _⟩
 ·go_simp
  refine hK.out _ _ ⟨(keepR (W := W1.drew) hHeld.1 ((Below.refl _ _).alloc (Nat.le_refl _) _)), (keepR (W := W1.drew) hHeld.2.1 ((Below.refl _ _).alloc (Nat.le_refl _) _)), (keepR (W := W1.drew) hHeld.2.2.1 ((Below.refl _ _).alloc (Nat.le_refl _) _)), (keepR (W := W1.drew) hHeld.2.2.2.1 ((Below.refl _ _).alloc (Nat.le_refl _) _)), (keepR (W := W1.drew) hHeld.2.2.2.2 ((Below.refl _ _).alloc (Nat.le_refl _) _))⟩ (fun hHeld => ?_)
  clear hK K
  try simp only [Act.put, pq]
  obtain ⟨W2, HW2, b2, o_e2⟩ : ∃ X, Hid ((W1.alloc (.cells #[] 5)).drew = X) ∧ Below W1.heap.size W1 X ∧ Hid (Own X W1.heap.size X.heap.size 5 (.slice (some ⟨W1.heap.size, 0, none⟩) 0 0) (bs [])) := ⟨_, rfl, (Below.drew ((Below.refl _ _).alloc (Nat.le_refl _) _)), Puts.Own.empty W1 W1.heap.size (Nat.le_refl _)⟩
  have HHW2 := HW2.out
  rw [HHW2] at hHeld ⊢
  clear HHW2
  have z2 := b2.size
  have B2 := Ke.b B1 b2
  have r_a2 := Ke.r r_a1 b2
  have r_res2 := Ke.r r_res1 b2
  clear r_a1 c_a1 r_res1
  refine Ke.z 2 rfl (fun K hK => ?_)
  go_simp
  refine (q W2 _ (HS.out.later B2.out)).mono ?_
  rintro e W3 ⟨v_s, rfl, o_s3, b3⟩
  refine hK.out _ _ ⟨(keepR (W := W2) hHeld.1 b3), (keepR (W := W2) hHeld.2.1 b3), (keepR (W := W2) hHeld.2.2.1 b3), (keepR (W := W2) hHeld.2.2.2.1 b3), (keepR (W := W2) hHeld.2.2.2.2 b3)⟩ (fun hHeld => ?_)
  clear hK K
  try simp only [Act.put, pq]
  obtain ⟨ao_s, L_s, cap_s, rfl, hL_s, hM_s⟩ := o_s3.form
  have o_s3 : Hid (Own W3 W2.heap.size W3.heap.size 9 (.slice ao_s L_s cap_s) (ss l)) := o_s3
  clear hL_s hM_s
  have z3 := b3.size
  have B3 := Ke.b B2 b3
  have r_a3 := Ke.r r_a2 b3
  have r_res3 := Ke.r r_res2 b3
  have o_e3 := Ke.o o_e2 b3
  clear r_a2 r_res2 o_e2
  refine Ke.z 6 rfl (fun K hK => ?_)
  have c6_4 : (bs []).length + (bs b).length ≤ maxLen := by rw [bs_len, bs_len]; unfold maxLen; (try simp only [List.length_nil]); omega
  have c7_4 : ((bs []).length + (bs b).length) * 1 ≤ 140737488355328 := by rw [bs_len, bs_len]; (try simp only [List.length_nil]); omega
  refine step_appG (by rfl) (.tmp 6) (.tmp 8) 22 (by rfl) 5 i5 (.int .u8 0) 1 Tryz.underlying22 hi5 hz5a hz5b hz5c rfl (W1.heap.size) _ (bs []) (by rfl) (Own.mono o_e3.out (Nat.le_refl _) (by omega)) _ (by rfl) (bs b) ((HSB.out.later B3.out)) (bs_one b) c6_4 c7_4 (by omega) ?_
  intro v_p W4 o_p4 g4
  refine hK.out _ _ ⟨(cellGro hHeld.1 g4 (Own.neRow o_e3.out r_a3.out (by decide))), (cellGro hHeld.2.1 g4 (Own.neRow o_e3.out r_a3.out (by decide))), (cellGro hHeld.2.2.1 g4 (Own.neRow o_e3.out r_a3.out (by decide))), (cellGro hHeld.2.2.2.1 g4 (Own.neRow o_e3.out r_a3.out (by decide))), (cellGro hHeld.2.2.2.2 g4 (Own.neRow o_e3.out r_a3.out (by decide)))⟩ (fun hHeld => ?_)
  clear hK K
  try simp only [Act.put, pq]
  have o_p4 : Own W4 (W1.heap.size) W4.heap.size 5 v_p (bs b) := o_p4
  have o_p4h : Hid (Own W4 (W1.heap.size) W4.heap.size 5 v_p (bs b)) := o_p4
  clear o_p4
  have o_p4 := o_p4h
  clear o_p4h
  obtain ⟨ao_p, L_p, cap_p, rfl, _, _⟩ := Mem.Own.form o_p4.out
  have z4 := g4.size
  have B4 : Hid (Below w.heap.size w W4) := belowGro B3.out g4 B3.out.size (Own.low o_e3.out (by have := B3.out.size; omega))
  have r_res4 := Ke.n r_res3 o_e3 g4
  have o_s4 : Hid (Own W4 (W2.heap.size) (W3.heap.size) 9 (.slice ao_s L_s cap_s) (ss l)) := Own.gro o_s3.out g4 (Own.neOwn o_e3.out o_s3.out (by decide))
  clear r_a3 r_res3 o_e3 o_s3
  clear g4 c6_4 c7_4
  refine Ke.q 9 ?_; try simp only [Act.put, pq]
  refine Ke.z 10 rfl (fun K hK => ?_)
  rw [if_pos (by rfl)]
  refine wp_store_row 30 _ _ rfl (w.heap.size + 1) (sc (.slice ao_s L_s cap_s) h (.slice ao_p L_p cap_p) s) rfl rfl 30 _ r_res4.out (sizeS _ _ _ _) rfl (oneS _ _ rfl rfl) ?_
  refine hK.out _ _ ⟨(cell_row (by show w.heap.size ≠ w.heap.size + 1; omega) hHeld.1), (cell_row (by show w.heap.size ≠ w.heap.size + 1; omega) hHeld.2.1), (cell_row (by show w.heap.size ≠ w.heap.size + 1; omega) hHeld.2.2.1), (cell_row (by show w.heap.size ≠ w.heap.size + 1; omega) hHeld.2.2.2.1), (cell_row (by show w.heap.size ≠ w.heap.size + 1; omega) hHeld.2.2.2.2)⟩ (fun hHeld => ?_)
  clear hK K
  refine wpAnyH_done (by kernel_rfl) ?_ _
  clear hHeld
  go_wp2
  refine bodyPost_ret (v := .agg (sc (.slice ao_s L_s cap_s) h (.slice ao_p L_p cap_p) s)) (results_cell_row rfl _ _ (w.heap.size + 1) 30 _ (0, 0) _ rfl (setRow_heap _ _ _ _ _ (0, 0) r_res4.out) Tryz.underlying30 rfl (sizeS _ _ _ _)) rfl ⟨.slice ao_s L_s cap_s, .slice ao_p L_p cap_p, rfl, (Own.setRow o_s4.out _ (by omega)).mono (by omega) (by rw [size_setRow]; omega), (Own.setRow o_p4.out _ (by omega)).mono (by omega) (by rw [size_setRow]; omega), below_setRow B4.out (by omega) _⟩
set_option maxRecDepth 1000000 in
theorem commit1_spec (w : World) (v vb vt vx : Value) (st : Sto) (t : List Hd) (hd : Hd) (x : List ByteArray) (hs : Sl w v (ss st.l)) (hb : Sl w vb (bs st.b)) (hst : Sh w vt t) (hsx : Sl w vx (ss x)) (hl : st.l.length ≤ 1000000000) (hbl : st.b.length ≤ 1000000000) (htl : t.length ≤ 1000000000) (hxl : x.length ≤ 1000000000)
  (hz : ∀ s ∈ st.l, s.size ≤ 10000000000) (hzx : ∀ s ∈ x, s.size ≤ 10000000000) (htx : Puts.tot x ≤ 100000000000) (hdr : hd.r.size ≤ 100000000000) :
  Calls Tryz.prog 137 #[.agg #[v, .int .i64 st.h.n, .string st.h.r, vb, .int .i64 st.s], vt, .agg #[.int .i64 hd.n, .string hd.r], vx] w fun e w' => ∃ v' vb', e = .returned (.tuple #[.agg #[v', .int .i64 (commit1 st t hd x).1.h.n, .string (commit1 st t hd x).1.h.r, vb', .int .i64 (commit1 st t hd x).1.s], .int .i64 (commit1 st t hd x).2]) ∧ Own w' w.heap.size w'.heap.size 9 v' (ss (commit1 st t hd x).1.l) ∧ Own w' w.heap.size w'.heap.size 5 vb' (bs (commit1 st t hd x).1.b) ∧ Below w.heap.size w w' := by
 obtain ⟨R, hR⟩ : ∃ R, commit1 st t hd x = R := ⟨_, rfl⟩
 have HR : Hid (commit1 st t hd x = R) := hR
 rw [hR]
 obtain ⟨l, h, b, s⟩ := st
 simp only at *
 have HS : Hid (Sl w v (ss l)) := hs
 have HSB : Hid (Sl w vb (bs b)) := hb
 have HT : Hid (Sh w vt t) := hst
 have HX : Hid (Sl w vx (ss x)) := hsx
 obtain ⟨ao0, cap0, rfl, hc0⟩ := hs.form
 obtain ⟨ao1, cap1, rfl, hc1⟩ := hb.form
 obtain ⟨ao2, cap2, rfl, hc2⟩ := hst.form
 obtain ⟨ao3, cap3, rfl, hc3⟩ := hsx.form
 simp only [ss_len, bs_len] at *
 clear hs hb hst hsx hR
 have B0 : Hid (Below w.heap.size w w) := Below.refl _ _
 obtain ⟨i5, hi5, hz5a, hz5b, hz5c⟩ := info_parts info5
 obtain ⟨W1, HW1, b1, y1, hS1, r_a1, r_h1, r_res1⟩ := Ke.l3 w #[.slice ao0 l.length cap0, .int .i64 h.n, .string h.r, .slice ao1 b.length cap1, .int .i64 s] 30 #[.int .i64 hd.n, .string hd.r] 26 #[.slice none 0 0, .int .i64 0, .string ⟨#[]⟩, .slice none 0 0, .int .i64 0] 30
 have z1 := b1.size
 have B1 := Ke.b B0 b1
 have q1 : ∀ W v1 v2, Sl W v1 (ss l) → Sl W v2 (bs b) → _ := fun W v1 v2 h1 h2 => copy_spec W v1 v2 ⟨l, h, b, s⟩ h1 h2 hl hbl
 have q2 : ∀ W v1 v2 v3, Sl W v1 (ss l) → Sh W v2 t → Sl W v3 (ss x) → _ := fun W v1 v2 v3 h1 h2 h3 => extend_spec W v1 v2 v3 l x h hd t h1 h2 h3 hl htl hxl hz hzx
 have q3 : ∀ W v1, Sl W v1 (ss x) → _ := fun W v1 h1 => put_spec W hd v1 x h1 hxl htx hdr
 obtain ⟨E, hE⟩ : ∃ E, extend l h t hd x = E := ⟨_, rfl⟩
 simp only [hE] at q2
 have HE : Hid (extend l h t hd x = E) := hE
 obtain ⟨L, H, C⟩ := E
 simp only at q1 q2
 obtain ⟨Pb, hPb⟩ : ∃ P, put hd x = P := ⟨_, rfl⟩
 have hPl : Pb.length ≤ 1000000000000 := by rw [← hPb]; have h9 := put_len hd x; have h8 := body_len hd x; omega
 simp only [hPb] at q3
 have HP : Hid (put hd x = Pb) := hPb
 clear hPb hE hz hzx htx hdr
 have HH : Hid (C = 0 → H = hd ∧ R = (⟨L, H, b ++ Pb, s⟩, 0)) := by
  intro hC
  obtain ⟨_, _, _, _, _, _, h7⟩ := extend_good (l := l) (x := x) (hd := h) (h := hd) (t := t) (by rw [HE.out]; exact hC)
  rw [HE.out] at h7
  simp only [Prod.mk.injEq] at h7
  refine ⟨h7.2.1, ?_⟩
  rw [← HR.out]
  unfold commit1
  simp only
  rw [HE.out, if_pos hC, HP.out]
 have HG : Hid (¬ C = 0 → R = (⟨l, h, b, s⟩, C)) := by
  intro hC
  rw [← HR.out]
  unfold commit1
  simp only
  rw [HE.out, if_neg hC]
 go_enter Tryz.func137, Tryz.ntmps137
 go_wp2_with fail
 rw [HW1.out]
 refine (q1 W1 _ _ (HS.out.later B1.out) (HSB.out.later B1.out)).mono ?_
 rintro e W2 ⟨v_s, v_p, rfl, o_s2, o_p2, b2⟩
 obtain ⟨ao_s, L_s, cap_s, rfl, hL_s, hM_s⟩ := o_s2.form
 have o_s2 : Hid (Own W2 W1.heap.size W2.heap.size 9 (.slice ao_s L_s cap_s) (ss l)) := o_s2
 clear hL_s hM_s
 have z2 := b2.size
 have B2 := Ke.b B1 b2
 have r_a2 := Ke.r r_a1 b2
 have r_h2 := Ke.r r_h1 b2
 have r_res2 := Ke.r r_res1 b2
 have c_a2 := Ke.c r_a2
 have c_h2 := Ke.c r_h2
 clear r_a1 r_h1 r_res1
 obtain ⟨ao_p, L_p, cap_p, rfl, _, _⟩ := o_p2.form
 have o_p2 : Hid (Own W2 W1.heap.size W2.heap.size 5 (.slice ao_p L_p cap_p) (bs b)) := o_p2
 have a_a2 := Ke.a r_a2
 have a_h2 := Ke.a r_h2
 obtain ⟨W3, HW3, b3, y3, hS3, r_out3⟩ := Ke.l1 W2 #[.slice ao_s L_s cap_s, .int .i64 h.n, .string h.r, .slice ao_p L_p cap_p, .int .i64 s] 30
 have z3 := b3.size
 have B3 := Ke.b B2 b3
 have r_h3 := Ke.r r_h2 b3
 have r_res3 := Ke.r r_res2 b3
 have o_s3 := Ke.o o_s2 b3
 have o_p3 := Ke.o o_p2 b3
 clear r_a2 c_a2 r_h2 c_h2 r_res2 o_s2 o_p2
 go_wp2_with fail
 rw [HW3.out]
 clear a_a2 a_h2
 refine (q2 W3 _ _ _ (HS.out.later B3.out) (HT.out.later B3.out) (HX.out.later B3.out)).mono ?_
 rintro e W4 ⟨v_n, rfl, o_n4, b4⟩
 obtain ⟨ao_n, L_n, cap_n, rfl, hL_n, hM_n⟩ := o_n4.form
 have o_n4 : Hid (Own W4 W3.heap.size W4.heap.size 9 (.slice ao_n L_n cap_n) (ss L)) := o_n4
 clear hL_n hM_n
 have z4 := b4.size
 have B4 := Ke.b B3 b4
 have r_h4 := Ke.r r_h3 b4
 have r_res4 := Ke.r r_res3 b4
 have r_out4 := Ke.r r_out3 b4
 have o_s4 := Ke.o o_s3 b4
 have o_p4 := Ke.o o_p3 b4
 clear r_h3 r_res3 r_out3 o_s3 o_p3
 obtain ⟨W5, HW5, b5, y5, hS5, r_l5⟩ := Ke.l1 W4 #[.slice ao_n L_n cap_n, .int .i64 H.n, .string H.r] 28
 have z5 := b5.size
 have B5 := Ke.b B4 b5
 have r_h5 := Ke.r r_h4 b5
 have r_res5 := Ke.r r_res4 b5
 have r_out5 := Ke.r r_out4 b5
 have o_s5 := Ke.o o_s4 b5
 have o_p5 := Ke.o o_p4 b5
 have o_n5 := Ke.o o_n4 b5
 clear r_h4 r_res4 r_out4 o_s4 o_p4 o_n4
 by_cases hC : C = 0
 ·obtain ⟨hH, hRR⟩ := HH.out hC
  have HN : Hid (R = (⟨L, H, b ++ Pb, s⟩, 0)) := hRR
  have HEq : Hid (H = hd) := hH
  clear hRR hH
  subst hC
  go_wp2_with ((try rw [HW5.out]); refine wpl_partG rfl 28 _ _ rfl (W2.heap.size) 0 (lc (.slice ao_n L_n cap_n) H) rfl rfl [.slice ao_s L_s cap_s, .int .i64 h.n, .string h.r, .slice ao_p L_p cap_p, .int .i64 s] 30 r_out5.out (Nat.le_of_ble_eq_true rfl) (sizeL _ _) (oneL _ rfl) [.slice ao_n L_n cap_n, .int .i64 H.n, .string H.r, .slice ao_p L_p cap_p, .int .i64 s] rfl ?_)
  intro W6 r_out6 g6
  have r_out6 := Ke.h r_out6
  have z6 := g6.size
  have B6 := Ke.i B5 g6
  have r_h6 := Ke.s r_h5 g6
  have r_res6 := Ke.s r_res5 g6
  have o_p6 := Ke.t o_p5 r_out5 g6
  have o_n6 := Ke.t o_n5 r_out5 g6
  have c_h6 := Ke.c r_h6
  have c_res6 := Ke.c r_res6
  have c_out6 := Ke.c r_out6
  clear r_h5 r_res5 r_l5 o_s5 o_p5 o_n5
  clear r_out5
  clear g6
  go_wp2_with fail
  refine wp_region_held_drew (S := fun w' => w'.cell? ⟨w.heap.size + 1, 0, none⟩ = some (.int .i64 hd.n) ∧ w'.cell? ⟨w.heap.size + 1, 1, none⟩ = some (.string hd.r)) (by kernel_rfl) ⟨(c_h6 0), (c_h6 1)⟩ (fun hHeld => ?_)
  refine Ke.q 0 ?_; try simp only [Act.put, pq]
  refine Ke.q 2 ?_; try simp only [Act.put, pq]
  refine Ke.q 3 ?_; try simp only [Act.put, pq]
  refine wpAnyH_ready (rs := [1, 4]) (by kernel_rfl) (by simp) ?_
  refine AllReadyH.cons rfl (fun K hK => ?_) (AllReadyH.cons rfl (fun K hK => ?_) AllReadyH.nil)
  ·have cd_h_0 : W6.drew.cell? ⟨w.heap.size + 1, 0, none⟩ = some (.int .i64 hd.n) := (c_h6 0)
   have cd_h_1 : W6.drew.cell? ⟨w.heap.size + 1, 1, none⟩ = some (.string hd.r) := (c_h6 1)
   have cd_res_0 : W6.drew.cell? ⟨w.heap.size + 1 + 1, 0, none⟩ = some (.slice none 0 0) := (c_res6 0)
   have cd_res_1 : W6.drew.cell? ⟨w.heap.size + 1 + 1, 1, none⟩ = some (.int .i64 0) := (c_res6 1)
   have cd_res_2 : W6.drew.cell? ⟨w.heap.size + 1 + 1, 2, none⟩ = some (.string ⟨#[]⟩) := (c_res6 2)
   have cd_res_3 : W6.drew.cell? ⟨w.heap.size + 1 + 1, 3, none⟩ = some (.slice none 0 0) := (c_res6 3)
   have cd_res_4 : W6.drew.cell? ⟨w.heap.size + 1 + 1, 4, none⟩ = some (.int .i64 0) := (c_res6 4)
   have cd_out_0 : W6.drew.cell? ⟨W2.heap.size, 0, none⟩ = some (.slice ao_n L_n cap_n) := (c_out6 0)
   have cd_out_1 : W6.drew.cell? ⟨W2.heap.size, 1, none⟩ = some (.int .i64 H.n) := (c_out6 1)
   have cd_out_2 : W6.drew.cell? ⟨W2.heap.size, 2, none⟩ = some (.string H.r) := (c_out6 2)
   have cd_out_3 : W6.drew.cell? ⟨W2.heap.size, 3, none⟩ = some (.slice ao_p L_p cap_p) := (c_out6 3)
   have cd_out_4 : W6.drew.cell? ⟨W2.heap.size, 4, none⟩ = some (.int .i64 s) := (c_out6 4)
   go_simp
   refine hK.out _ _ ⟨hHeld.1, hHeld.2⟩ (fun hHeld => ?_)
   clear hK K
   try simp only [Act.put, pq]
   clear cd_h_0 cd_h_1 cd_res_0 cd_res_1 cd_res_2 cd_res_3 cd_res_4 cd_out_0 cd_out_1 cd_out_2 cd_out_3 cd_out_4
   refine Ke.z 4 rfl (fun K hK => ?_)
   go_simp
   refine (q3 W6.drew _ (Sl.later (w := W6) (HX.out.later B6.out) (Below.drew (Below.refl _ _)))).mono ?_
   rintro e W7 ⟨v_u, rfl, o_u7, b7⟩
   have b7 : Below W6.heap.size W6 W7 := (Below.drew (Below.refl _ _)).trans b7
   refine hK.out _ _ ⟨(keepR (W := W6) hHeld.1 b7), (keepR (W := W6) hHeld.2 b7)⟩ (fun hHeld => ?_)
   clear hK K
   try simp only [Act.put, pq]
   have o_u7 : Own W7 W6.heap.size W7.heap.size 5 _ _ := o_u7
   obtain ⟨ao_u, L_u, cap_u, rfl, hL_u, hM_u⟩ := o_u7.form
   have o_u7 : Hid (Own W7 W6.heap.size W7.heap.size 5 (.slice ao_u L_u cap_u) (bs Pb)) := o_u7
   clear hL_u hM_u
   have z7 := b7.size
   have B7 := Ke.b B6 b7
   have r_h7 := Ke.r r_h6 b7
   have r_res7 := Ke.r r_res6 b7
   have r_out7 := Ke.r r_out6 b7
   have o_p7 := Ke.o o_p6 b7
   have o_n7 := Ke.o o_n6 b7
   have c_out7 := Ke.c r_out7
   clear r_h6 c_h6 r_res6 c_res6 r_out6 c_out6 o_p6 o_n6
   refine Ke.z 5 rfl (fun K hK => ?_)
   have c6_8 : (bs b).length + (bs Pb).length ≤ maxLen := by rw [bs_len, bs_len]; unfold maxLen; (try simp only [List.length_nil]); omega
   have c7_8 : ((bs b).length + (bs Pb).length) * 1 ≤ 140737488355328 := by rw [bs_len, bs_len]; (try simp only [List.length_nil]); omega
   refine step_appG (by rfl) (.tmp 31) (.tmp 34) 22 (by rfl) 5 i5 (.int .u8 0) 1 Tryz.underlying22 hi5 hz5a hz5b hz5c rfl (W1.heap.size) _ (bs b) (by rfl) (Own.mono o_p7.out (Nat.le_refl _) (by omega)) _ (by rfl) (bs Pb) (o_u7.out.sl) (bs_one Pb) c6_8 c7_8 (by omega) ?_
   intro v_y W8 o_y8 g8
   refine hK.out _ _ ⟨(cellGro hHeld.1 g8 (Own.neRow o_p7.out r_h7.out (by decide))), (cellGro hHeld.2 g8 (Own.neRow o_p7.out r_h7.out (by decide)))⟩ (fun hHeld => ?_)
   clear hK K
   try simp only [Act.put, pq]
   have o_y8 : Own W8 (W1.heap.size) W8.heap.size 5 v_y (bs (b ++ Pb)) := by show Own _ _ _ _ _ _; rw [bs_app]; exact o_y8
   have o_y8h : Hid (Own W8 (W1.heap.size) W8.heap.size 5 v_y (bs (b ++ Pb))) := o_y8
   clear o_y8
   have o_y8 := o_y8h
   clear o_y8h
   obtain ⟨ao_y, L_y, cap_y, rfl, _, _⟩ := Mem.Own.form o_y8.out
   have z8 := g8.size
   have B8 : Hid (Below w.heap.size w W8) := belowGro B7.out g8 B7.out.size (Own.low o_p7.out (by have := B7.out.size; omega))
   have r_res8 := Ke.n r_res7 o_p7 g8
   have r_out8 := Ke.n r_out7 o_p7 g8
   have o_n8 : Hid (Own W8 (W3.heap.size) (W4.heap.size) 9 (.slice ao_n L_n cap_n) (ss L)) := Own.gro o_n7.out g8 (Own.neOwn o_p7.out o_n7.out (by decide))
   clear r_h7 r_res7 r_out7 c_out7 o_p7 o_n7 o_u7
   clear g8 c6_8 c7_8
   refine Ke.q 6 ?_; try simp only [Act.put, pq]
   refine Ke.z 7 rfl (fun K hK => ?_)
   rw [if_pos (by rfl)]
   refine wp_oneG 22 _ _ rfl (W2.heap.size) 3 (.slice ao_y L_y cap_y) rfl rfl [.slice ao_n L_n cap_n, .int .i64 H.n, .string H.r, .slice ao_p L_p cap_p, .int .i64 s] 30 r_out8.out (Nat.le_of_ble_eq_true rfl) (by kernel_rfl) rfl [.slice ao_n L_n cap_n, .int .i64 H.n, .string H.r, .slice ao_y L_y cap_y, .int .i64 s] rfl ?_
   intro W9 r_out9 g9
   refine hK.out _ _ ⟨(cellGro hHeld.1 g9 (by show some (W2.heap.size) ≠ some (w.heap.size + 1); intro h9; injection h9 with h9; omega)), (cellGro hHeld.2 g9 (by show some (W2.heap.size) ≠ some (w.heap.size + 1); intro h9; injection h9 with h9; omega))⟩ (fun hHeld => ?_)
   clear hK K
   try simp only [Act.put, pq]
   have r_out9 : Hid (W9.heap[W2.heap.size]? = some (.cells #[.slice ao_n L_n cap_n, .int .i64 H.n, .string H.r, .slice ao_y L_y cap_y, .int .i64 s] 30 (0, 0))) := r_out9
   have z9 := g9.size
   have B9 := Ke.i B8 g9
   have r_res9 := Ke.s r_res8 g9
   have o_n9 := Ke.t o_n8 r_out8 g9
   have o_y9 := Ke.t o_y8 r_out8 g9
   clear r_res8 o_n8 o_y8
   clear r_out8
   clear g9
   refine wpAnyH_done (by kernel_rfl) ?_ _
   clear hHeld
   go_wp2_with (first | (refine wpList_load_row rfl 30 _ rfl (W2.heap.size) rfl 30 (sc (.slice ao_n L_n cap_n) H (.slice ao_y L_y cap_y) s) (0, 0) _ r_out9.out Tryz.underlying30 rfl (sizeS _ _ _ _) ?_) | (refine wpList_store_row rfl 30 _ _ rfl (w.heap.size + 1 + 1) (sc (.slice ao_n L_n cap_n) H (.slice ao_y L_y cap_y) s) rfl rfl 30 _ r_res9.out (sizeS _ _ _ _) rfl (oneS _ _ rfl rfl) ?_))
   refine bodyPost_ret (res_row_tmp rfl _ _ (w.heap.size + 1 + 1) 30 (sc (.slice ao_n L_n cap_n) H (.slice ao_y L_y cap_y) s) (0, 0) _ rfl (setRow_heap _ _ _ _ _ (0, 0) r_res9.out) Tryz.underlying30 rfl (sizeS _ _ _ _)) rfl ⟨.slice ao_n L_n cap_n, .slice ao_y L_y cap_y, by rw [HN.out]; rfl, ?_, ?_, below_setRow B9.out (by omega) _⟩
   ·rw [HN.out]
    exact (Own.setRow o_n9.out _ (by omega)).mono (by omega) (by rw [size_setRow]; omega)
   ·rw [HN.out]
    exact (Own.setRow o_y9.out _ (by omega)).mono (by omega) (by rw [size_setRow]; omega)
  ·go_simp
   refine (q3 W6.drew _ (Sl.later (w := W6) (HX.out.later B6.out) (Below.drew (Below.refl _ _)))).mono ?_
   rintro e W7 ⟨v_u, rfl, o_u7, b7⟩
   have b7 : Below W6.heap.size W6 W7 := (Below.drew (Below.refl _ _)).trans b7
   refine hK.out _ _ ⟨(keepR (W := W6) hHeld.1 b7), (keepR (W := W6) hHeld.2 b7)⟩ (fun hHeld => ?_)
   clear hK K
   try simp only [Act.put, pq]
   have o_u7 : Own W7 W6.heap.size W7.heap.size 5 _ _ := o_u7
   obtain ⟨ao_u, L_u, cap_u, rfl, hL_u, hM_u⟩ := o_u7.form
   have o_u7 : Hid (Own W7 W6.heap.size W7.heap.size 5 (.slice ao_u L_u cap_u) (bs Pb)) := o_u7
   clear hL_u hM_u
   have z7 := b7.size
   have B7 := Ke.b B6 b7
   have r_h7 := Ke.r r_h6 b7
   have r_res7 := Ke.r r_res6 b7
   have r_out7 := Ke.r r_out6 b7
   have o_p7 := Ke.o o_p6 b7
   have o_n7 := Ke.o o_n6 b7
   have c_out7 := Ke.c r_out7
   clear r_h6 c_h6 r_res6 c_res6 r_out6 c_out6 o_p6 o_n6
   refine Ke.z 1 rfl (fun K hK => ?_)
   go_simp
   refine hK.out _ _ ⟨hHeld.1, hHeld.2⟩ (fun hHeld => ?_)
   clear hK K
   try simp only [Act.put, pq]
   refine Ke.z 5 rfl (fun K hK => ?_)
   have c6_8 : (bs b).length + (bs Pb).length ≤ maxLen := by rw [bs_len, bs_len]; unfold maxLen; (try simp only [List.length_nil]); omega
   have c7_8 : ((bs b).length + (bs Pb).length) * 1 ≤ 140737488355328 := by rw [bs_len, bs_len]; (try simp only [List.length_nil]); omega
   refine step_appG (by rfl) (.tmp 31) (.tmp 34) 22 (by rfl) 5 i5 (.int .u8 0) 1 Tryz.underlying22 hi5 hz5a hz5b hz5c rfl (W1.heap.size) _ (bs b) (by rfl) (Own.mono o_p7.out (Nat.le_refl _) (by omega)) _ (by rfl) (bs Pb) (o_u7.out.sl) (bs_one Pb) c6_8 c7_8 (by omega) ?_
   intro v_y W8 o_y8 g8
   refine hK.out _ _ ⟨(cellGro hHeld.1 g8 (Own.neRow o_p7.out r_h7.out (by decide))), (cellGro hHeld.2 g8 (Own.neRow o_p7.out r_h7.out (by decide)))⟩ (fun hHeld => ?_)
   clear hK K
   try simp only [Act.put, pq]
   have o_y8 : Own W8 (W1.heap.size) W8.heap.size 5 v_y (bs (b ++ Pb)) := by show Own _ _ _ _ _ _; rw [bs_app]; exact o_y8
   have o_y8h : Hid (Own W8 (W1.heap.size) W8.heap.size 5 v_y (bs (b ++ Pb))) := o_y8
   clear o_y8
   have o_y8 := o_y8h
   clear o_y8h
   obtain ⟨ao_y, L_y, cap_y, rfl, _, _⟩ := Mem.Own.form o_y8.out
   have z8 := g8.size
   have B8 : Hid (Below w.heap.size w W8) := belowGro B7.out g8 B7.out.size (Own.low o_p7.out (by have := B7.out.size; omega))
   have r_res8 := Ke.n r_res7 o_p7 g8
   have r_out8 := Ke.n r_out7 o_p7 g8
   have o_n8 : Hid (Own W8 (W3.heap.size) (W4.heap.size) 9 (.slice ao_n L_n cap_n) (ss L)) := Own.gro o_n7.out g8 (Own.neOwn o_p7.out o_n7.out (by decide))
   clear r_h7 r_res7 r_out7 c_out7 o_p7 o_n7 o_u7
   clear g8 c6_8 c7_8
   refine Ke.q 6 ?_; try simp only [Act.put, pq]
   refine Ke.z 7 rfl (fun K hK => ?_)
   rw [if_pos (by rfl)]
   refine wp_oneG 22 _ _ rfl (W2.heap.size) 3 (.slice ao_y L_y cap_y) rfl rfl [.slice ao_n L_n cap_n, .int .i64 H.n, .string H.r, .slice ao_p L_p cap_p, .int .i64 s] 30 r_out8.out (Nat.le_of_ble_eq_true rfl) (by kernel_rfl) rfl [.slice ao_n L_n cap_n, .int .i64 H.n, .string H.r, .slice ao_y L_y cap_y, .int .i64 s] rfl ?_
   intro W9 r_out9 g9
   refine hK.out _ _ ⟨(cellGro hHeld.1 g9 (by show some (W2.heap.size) ≠ some (w.heap.size + 1); intro h9; injection h9 with h9; omega)), (cellGro hHeld.2 g9 (by show some (W2.heap.size) ≠ some (w.heap.size + 1); intro h9; injection h9 with h9; omega))⟩ (fun hHeld => ?_)
   clear hK K
   try simp only [Act.put, pq]
   have r_out9 : Hid (W9.heap[W2.heap.size]? = some (.cells #[.slice ao_n L_n cap_n, .int .i64 H.n, .string H.r, .slice ao_y L_y cap_y, .int .i64 s] 30 (0, 0))) := r_out9
   have z9 := g9.size
   have B9 := Ke.i B8 g9
   have r_res9 := Ke.s r_res8 g9
   have o_n9 := Ke.t o_n8 r_out8 g9
   have o_y9 := Ke.t o_y8 r_out8 g9
   clear r_res8 o_n8 o_y8
   clear r_out8
   clear g9
   refine wpAnyH_done (by kernel_rfl) ?_ _
   clear hHeld
   go_wp2_with (first | (refine wpList_load_row rfl 30 _ rfl (W2.heap.size) rfl 30 (sc (.slice ao_n L_n cap_n) H (.slice ao_y L_y cap_y) s) (0, 0) _ r_out9.out Tryz.underlying30 rfl (sizeS _ _ _ _) ?_) | (refine wpList_store_row rfl 30 _ _ rfl (w.heap.size + 1 + 1) (sc (.slice ao_n L_n cap_n) H (.slice ao_y L_y cap_y) s) rfl rfl 30 _ r_res9.out (sizeS _ _ _ _) rfl (oneS _ _ rfl rfl) ?_))
   refine bodyPost_ret (res_row_tmp rfl _ _ (w.heap.size + 1 + 1) 30 (sc (.slice ao_n L_n cap_n) H (.slice ao_y L_y cap_y) s) (0, 0) _ rfl (setRow_heap _ _ _ _ _ (0, 0) r_res9.out) Tryz.underlying30 rfl (sizeS _ _ _ _)) rfl ⟨.slice ao_n L_n cap_n, .slice ao_y L_y cap_y, by rw [HN.out]; rfl, ?_, ?_, below_setRow B9.out (by omega) _⟩
   ·rw [HN.out]
    exact (Own.setRow o_n9.out _ (by omega)).mono (by omega) (by rw [size_setRow]; omega)
   ·rw [HN.out]
    exact (Own.setRow o_y9.out _ (by omega)).mono (by omega) (by rw [size_setRow]; omega)
 ·have cn : (C == 0) = false := by rw [beq_eq_false_iff_ne]; exact hC
  have cm : (C != 0) = true := by rw [bne, cn]; rfl
  have HN : Hid (R = (⟨l, h, b, s⟩, C)) := HG.out hC
  go_wp2_with (first | ((try rw [HW5.out]); refine wpList_load_row rfl 30 _ rfl (W2.heap.size) rfl 30 (sc (.slice ao_s L_s cap_s) h (.slice ao_p L_p cap_p) s) (0, 0) _ r_out5.out Tryz.underlying30 rfl (sizeS _ _ _ _) ?_) | (refine wpList_store_row rfl 30 _ _ rfl (w.heap.size + 1 + 1) (sc (.slice ao_s L_s cap_s) h (.slice ao_p L_p cap_p) s) rfl rfl 30 _ r_res5.out (sizeS _ _ _ _) rfl (oneS _ _ rfl rfl) ?_))
  refine bodyPost_ret (res_row_tmp rfl _ _ (w.heap.size + 1 + 1) 30 (sc (.slice ao_s L_s cap_s) h (.slice ao_p L_p cap_p) s) (0, 0) _ rfl (setRow_heap _ _ _ _ _ (0, 0) r_res5.out) Tryz.underlying30 rfl (sizeS _ _ _ _)) rfl ⟨.slice ao_s L_s cap_s, .slice ao_p L_p cap_p, by rw [HN.out]; rfl, ?_, ?_, below_setRow B5.out (by omega) _⟩
  ·rw [HN.out]
   exact (Own.setRow o_s5.out _ (by omega)).mono (by omega) (by rw [size_setRow]; omega)
  ·rw [HN.out]
   exact (Own.setRow o_p5.out _ (by omega)).mono (by omega) (by rw [size_setRow]; omega)
end Go.Proofs.YtchonoonclllbaaGreatDoor.Sr
namespace Go.Proofs.YtchonoonclllbaaGreatDoor.Sr
open Go.RowKit Mem Laws Bytes Sha Tr Draw He Lg
theorem lit1S (w : World) (lo : Nat) (x : ByteArray) (h : lo ≤ w.heap.size) : Own (w.alloc (.cells #[.string x] 9)) lo (w.alloc (.cells #[.string x] 9)).heap.size 9 (.slice (some ⟨w.heap.size, 0, none⟩) 1 1) (ss [x]) :=
 Own.of (World.ownsRow_lit w #[.string x] 1 h (by unfold maxLen; omega) rfl)
theorem Apart.gro {lo hi : Nat} {a w w' : World} {r : Option Nat} (h : Apart lo hi a w) (g : w.grownBy w' r) (hr : ∀ k, r = some k → a.heap.size ≤ k) : Apart lo hi a w' :=
 h.on (belowGro (Below.refl a.heap.size w) g h.size hr)
theorem Own.far {w : World} {lo hi lo' hi' : Nat} {e : TypeId} {v : Value} {cs : List Value} (h : Own w lo hi e v cs) (d : hi ≤ lo' ∨ hi' ≤ lo) : ∀ k, v.ownBlock = some k → k < lo' ∨ hi' ≤ k := fun k hk => by
 have h1 := (h.1.lt k hk).1
 have h2 := h.2 k hk
 omega
def Oht (w : World) (lo hi : Nat) (v : Value) (t : List Hd) : Prop := Oh w lo hi v t ∧ hi ≤ w.heap.size
theorem Oht.later {w w' : World} {lo hi : Nat} {v : Value} {t : List Hd} (h : Oht w lo hi v t) (b : Below w.heap.size w w') : Oht w' lo hi v t := ⟨h.1.later b h.2, Nat.le_trans h.2 b.size⟩
theorem Oht.drawn {W0 w w' : World} {g lo hi : Nat} {vb : Value} {xs : List Int} {v : Value} {t : List Hd} (h : Oht w lo hi v t) (d : Drawn W0 w g vb xs w') (hgl : g < lo ∨ hi ≤ g) : Oht w' lo hi v t := ⟨Oh.drawn h.1 d hgl h.2, Nat.le_trans h.2 d.apart.size⟩
theorem Oht.gro {w w' : World} {lo hi : Nat} {v : Value} {t : List Hd} {r : Option Nat} (h : Oht w lo hi v t) (g : w.grownBy w' r) (hr : ∀ k, r = some k → k < lo ∨ hi ≤ k) : Oht w' lo hi v t :=
 ⟨On.keep h.1 fun k h1 h2 => g.block k (by have := h.2; omega) (fun e => by have := hr k e.symm; omega), Nat.le_trans h.2 g.size⟩
theorem Oht.wide {w : World} {lo hi lo' : Nat} {v : Value} {t : List Hd} (h : Oht w lo hi v t) (h1 : lo' ≤ lo) : Oh w lo' w.heap.size v t := On.mono h.1 h1 h.2
theorem wpl_elemG {P : Program} {ops : Array Oper} {rest : List Oper} {op : Oper} {a : Act} {w : World} {Q : Exit → Act → World → Prop} (hgd : op.guard = none) (ty : TypeId) (x y : Operand) (ho : op.op = .store ty x y) {lo hi gb n cap k : Nat} {e : TypeId} {cs : List Value}
  (o : Own w lo hi e (.slice (some ⟨gb, 0, none⟩) n cap) cs) (hk : k < cs.length) (v : Value) (hx : a.eval x = .pointer (some ⟨gb, k, none⟩)) (hy : a.eval y = v) (hin : (P.info? ty).map (·.size) = some 1) (h1 : v.oneCell' = true)
  (h : ∀ w', Own w' lo hi e (.slice (some ⟨gb, 0, none⟩) n cap) (cs.set k v) → w.grownBy w' (some gb) → wpList P ops Q rest (a.put op.dst undef) w') : wpList P ops Q (op :: rest) a w :=
 wpList_plain hgd fun _ hK => wp_elemG ty x y ho o hk v hx hy hin h1 (fun w' r g => hK _ _ (h w' r g))
theorem res_r2 {P : Program} {fn : Func} {p q u : Tmp} {ty : TypeId} (h : fn.results = #[.cell p ty, .tmp q, .tmp u]) (tmps : Array Value) (w : World) (g1 : Nat) (t : TypeId) (c1 : Array Value) (fr : Nat × Nat) (d : TypeDesc)
  (hp : tmps.getD p undef = .pointer (some ⟨g1, 0, none⟩)) (hg1 : w.heap[g1]? = some (.cells c1 t fr))
  (hu : P.underlying ty = some d) (hd : (match d with | .struct _ | .array _ _ => true | _ => false) = true) (hi1 : (P.info? ty).map (·.size) = some c1.size) :
  (results fn tmps).run P w = .ok (.tuple #[.agg c1, tmps.getD q undef, tmps.getD u undef]) w := by
 have hp' : tmps[p]?.getD undef = .pointer (some ⟨g1, 0, none⟩) := by simpa using hp
 simp [results, h, hp', asAddr, run_loadVar_row w g1 t ty c1 fr d hg1 hu hd hi1]
theorem slMidT {w : World} {b off L cap : Nat} {l : List ByteArray} (h : Sl w (.slice (some ⟨b, off, none⟩) L cap) (ss l)) (q m : Nat) (hq : q < l.length) (hm : q + m ≤ l.length) : Sl w (.slice (some ⟨b, off + q, none⟩) m (cap - q)) (ss ((l.drop q).take m)) := by
 have h1 := slBack h q (by rw [ss_len]; omega)
 have h2 := Sl.front h1 m (by rw [List.length_drop, ss_len]; omega)
 have e : ss ((l.drop q).take m) = ((ss l).drop q).take m := by unfold ss; rw [List.map_take, List.map_drop]
 rw [e]
 exact h2
structure Dst (t : List Hd) (A i : Nat) (st : Sto) : Prop where
 made : Made t st
 len : st.l.length ≤ A
 sz : ∀ s ∈ st.l, s.size ≤ 3
 lo : 0 ≤ st.s
 hi : st.s ≤ (st.b.length : Int)
 bl : st.b.length + i * 10009 ≤ 30027
theorem Dst.new (t : List Hd) (A : Nat) {i : Nat} (hi : i ≤ 3) : Dst t A i new12 := ⟨made_new t, Nat.zero_le _, fun s hs => (by cases hs), Int.le_refl _, by simp [new12], by simp [new12]; omega⟩
theorem Dst.head {t : List Hd} {A i : Nat} {st : Sto} (h : Dst t A i st) : st.h.r.size ≤ 32 := by
 have := (logOk_yes h.made.1.1).2
 rw [this]
 exact headOf_size _
theorem body_le9 {h : Hd} {x : List ByteArray} (hh : h.r.size ≤ 32) (hx : x.length ≤ 9) (hz : ∀ s ∈ x, s.size ≤ 3) : (body h x).length ≤ 10000 := by
 have h9 := body_len h x
 have ht : ∀ l : List ByteArray, (∀ s ∈ l, s.size ≤ 3) → Puts.tot l ≤ 3 * l.length := by
  intro l
  induction l with
  | nil => intro _; exact Nat.le_refl _
  | cons a r ih =>
   intro hl
   have h1 := hl a (List.mem_cons_self ..)
   have h2 := ih (fun s hs => hl s (List.mem_cons_of_mem _ hs))
   simp only [Puts.tot, List.length_cons]
   omega
 have := ht x hz
 omega
theorem Dst.step {t : List Hd} {A i : Nat} {st : Sto} {h : Hd} {x : List ByteArray} (hd : Dst t A (i + 1) st) (hi3 : i + 1 ≤ 3) (hx : st.l.length + x.length ≤ A) (hA : A ≤ 9) (hz : ∀ s ∈ x, s.size ≤ 3) (hh : h.r.size ≤ 32) : Dst t A i (commit1 st t h x).1 := by
 have hb := body_le9 hh (by omega) hz
 have hbl := hd.bl
 rw [Nat.add_mul, Nat.one_mul] at hbl
 by_cases hc : (commit1 st t h x).2 = 0
 ·obtain ⟨_, _, _, _, _, _, c7⟩ := commit1_good hc
  have hm := made_commit hd.made hc (by omega)
  have hp := put_len h x
  rw [c7] at hm ⊢
  refine ⟨hm, by rw [List.length_append]; exact hx, ?_, hd.lo, ?_, ?_⟩
  ·intro s hs
   rcases List.mem_append.1 hs with h1 | h1
   ·exact hd.sz s h1
   ·exact hz s h1
  ·have := hd.hi
   simp only [List.length_append]
   omega
  ·simp only [List.length_append]
   omega
 ·have : (commit1 st t h x).1 = st := by
   unfold commit1 at hc ⊢
   split
   ·rename_i h9; rw [if_pos h9] at hc; exact absurd rfl hc
   ·rfl
  rw [this]
  exact ⟨hd.made, hd.len, hd.sz, hd.lo, hd.hi, Nat.le_trans (Nat.add_le_add_left (Nat.mul_le_mul_right 10009 (Nat.le_succ i)) _) hd.bl⟩
theorem Dst.down {t : List Hd} {A i : Nat} {st : Sto} (hd : Dst t A (i + 1) st) : Dst t A i st := ⟨hd.made, hd.len, hd.sz, hd.lo, hd.hi, Nat.le_trans (Nat.add_le_add_left (Nat.mul_le_mul_right 10009 (Nat.le_succ i)) _) hd.bl⟩
theorem Dst.sure {t : List Hd} {A i : Nat} {st : Sto} (hd : Dst t A i st) : Dst t A i ⟨st.l, st.h, st.b, (st.b.length : Int)⟩ := ⟨made_sure hd.made _, hd.len, hd.sz, by simp, Int.le_refl _, hd.bl⟩
structure Dsq (all : List ByteArray) (t : List Hd) (i : Nat) (st : Sto) : Prop extends Dst t all.length i st where
 pre : st.l <+: all
theorem Dsq.new (all : List ByteArray) (t : List Hd) {i : Nat} (hi : i ≤ 3) : Dsq all t i new12 := ⟨Dst.new t _ hi, List.nil_prefix⟩
theorem Dsq.down {all : List ByteArray} {t : List Hd} {i : Nat} {st : Sto} (h : Dsq all t (i + 1) st) : Dsq all t i st := ⟨Dst.down h.toDst, h.pre⟩
theorem Dsq.sure {all : List ByteArray} {t : List Hd} {i : Nat} {st : Sto} (h : Dsq all t i st) : Dsq all t i ⟨st.l, st.h, st.b, (st.b.length : Int)⟩ := ⟨Dst.sure h.toDst, h.pre⟩
theorem pre_next {all l x : List ByteArray} {k : Nat} (h : l <+: all) (hx : (all.drop l.length).take k = x) : l ++ x <+: all := by
 obtain ⟨r, rfl⟩ := h
 rw [List.drop_left] at hx
 rw [← hx]
 exact ⟨r.drop k, by rw [List.append_assoc, List.take_append_drop]⟩
theorem Dsq.step {all : List ByteArray} {t : List Hd} {i k : Nat} {st : Sto} {h : Hd} {x : List ByteArray} (hd : Dsq all t (i + 1) st) (hi3 : i + 1 ≤ 3) (hx : st.l.length + x.length ≤ all.length) (hA : all.length ≤ 9) (hz : ∀ s ∈ x, s.size ≤ 3) (hh : h.r.size ≤ 32) (hxx : (all.drop st.l.length).take k = x) : Dsq all t i (commit1 st t h x).1 := by
 refine ⟨Dst.step hd.toDst hi3 hx hA hz hh, ?_⟩
 by_cases hc : (commit1 st t h x).2 = 0
 ·obtain ⟨_, _, _, _, _, _, c7⟩ := commit1_good hc
  rw [c7]
  exact pre_next hd.pre hxx
 ·have e : (commit1 st t h x).1 = st := by
   unfold commit1 at hc ⊢
   split
   ·rename_i h9; rw [if_pos h9] at hc; exact absurd rfl hc
   ·rfl
  rw [e]
  exact hd.pre
end Go.Proofs.YtchonoonclllbaaGreatDoor.Sr
namespace Go.Proofs.YtchonoonclllbaaGreatDoor.Draw
open Go.RowKit Mem Laws Bytes He Lg Sr
theorem Kd.r {W0 W W' : World} {g k : Nat} {vb : Value} {xs : List Int} {o : Obj} (h : Hid (W.heap[k]? = some o)) (d : Drawn W0 W g vb xs W') (hk : k ≠ g := by omega) : Hid (W'.heap[k]? = some o) := drawn_row h.out d hk
theorem Kd.o {W0 W W' : World} {g lo hi : Nat} {vb : Value} {xs : List Int} {e : TypeId} {v : Value} {cs : List Value} (h : Hid (Own W lo hi e v cs)) (d : Drawn W0 W g vb xs W') (hg : g < lo ∨ hi ≤ g := by omega) (hh : hi ≤ W.heap.size := by omega) : Hid (Own W' lo hi e v cs) := Own.drawn h.out d hg hh
theorem Kd.t {W0 W W' : World} {g lo hi : Nat} {vb : Value} {xs : List Int} {v : Value} {t : List Hd} (h : Hid (Oht W lo hi v t)) (d : Drawn W0 W g vb xs W') (hg : g < lo ∨ hi ≤ g := by omega) : Hid (Oht W' lo hi v t) := Oht.drawn h.out d hg
theorem Kd.B {lo hi : Nat} {a w w' : World} (h : Hid (Apart lo hi a w)) (b : Below w.heap.size w w') : Hid (Apart lo hi a w') := h.out.grow b
theorem Kd.D {W0 a w w' : World} {g : Nat} {vb : Value} {xs : List Int} (h : Hid (Apart g (g + 1) a w)) (d : Drawn W0 w g vb xs w') : Hid (Apart g (g + 1) a w') := h.out.trans d.apart
theorem Kd.c {w w' : World} {g : Nat} {vb : Value} {n : Nat} (h : Hid (Cur w g vb n)) (b : Below w.heap.size w w') : Hid (Cur w' g vb n) := h.out.keep b
theorem Kd.e {W0 w w' : World} {g : Nat} {vb : Value} {xs : List Int} (d : Drawn W0 w g vb xs w') : Hid (Cur w' g vb xs.length) := d.cur
theorem Kd.f {W0 w w' : World} {g : Nat} {vb : Value} {xs : List Int} (d : Drawn W0 w g vb xs w') : Hid (Below W0.heap.size W0 w') := d.below
theorem Kd.k {W0 W W' : World} {g k : Nat} {vb : Value} {xs : List Int} {cs : Array Value} (h : ∀ j, W.cell? ⟨k, j, none⟩ = cs[j]?) (d : Drawn W0 W g vb xs W') (hk : k ≠ g) (hn : ∃ x, cs[0]? = some x := by exact ⟨_, rfl⟩) : ∀ j, W'.cell? ⟨k, j, none⟩ = cs[j]? := by
 intro j
 obtain ⟨x, hx⟩ := hn
 have hl := World.block_lt_of_cell? W ⟨k, 0, none⟩ ((h 0).trans hx)
 have e := d.apart.block k hl (by omega)
 have e2 : W'.cell? ⟨k, j, none⟩ = W.cell? ⟨k, j, none⟩ := by simp [World.cell?, e]
 rw [e2]
 exact h j
end Go.Proofs.YtchonoonclllbaaGreatDoor.Draw
namespace Go.Proofs.YtchonoonclllbaaGreatDoor.Mg
open Go.RowKit Mem Laws Sha Tr He
structure Ms where
  k : Int
  f : Int
  t : Int
  h : Hd
  n : Int
  x : List ByteArray
def face (m : Ms) : Bool := decide (0 ≤ m.f ∧ m.f ≤ 20) && decide (0 ≤ m.t ∧ m.t ≤ 20) && !decide (m.f = m.t) && okH m.h && decide (0 ≤ m.n ∧ m.n ≤ 200)
def kindOk (m : Ms) : Bool :=
  if m.k = 1 then decide (m.n = 0) && decide (m.x.length = 0)
  else if m.k = 2 then decide (m.n < m.h.n) && decide (m.x.length = 0)
  else if m.k = 3 then decide (m.n < m.h.n) && decide ((m.x.length : Int) = m.h.n - m.n) else false
def msgOk (m : Ms) : Bool := face m && kindOk m
theorem msg_parts {m : Ms} (h : msgOk m = true) : (0 ≤ m.f ∧ m.f ≤ 20) ∧ (0 ≤ m.t ∧ m.t ≤ 20) ∧ ¬ m.f = m.t ∧ okH m.h = true ∧ (0 ≤ m.n ∧ m.n ≤ 200) ∧ kindOk m = true := by
  unfold msgOk face at h
  simp only [Bool.and_eq_true, decide_eq_true_eq, Bool.not_eq_true', decide_eq_false_iff_not] at h
  obtain ⟨⟨⟨⟨⟨a, b⟩, c⟩, d⟩, e⟩, f⟩ := h
  exact ⟨a, b, c, d, e, f⟩
theorem kind_parts {m : Ms} (h : kindOk m = true) : (m.k = 1 ∨ m.k = 2 ∨ m.k = 3) ∧ ((m.x.length : Int) = 0 ∨ (m.x.length : Int) = m.h.n - m.n) := by
  unfold kindOk at h
  split at h
  · simp only [Bool.and_eq_true, decide_eq_true_eq] at h
    exact ⟨Or.inl (by assumption), Or.inl (by omega)⟩
  · split at h
    · simp only [Bool.and_eq_true, decide_eq_true_eq] at h
      exact ⟨Or.inr (Or.inl (by assumption)), Or.inl (by omega)⟩
    · split at h
      · simp only [Bool.and_eq_true, decide_eq_true_eq] at h
        exact ⟨Or.inr (Or.inr (by assumption)), Or.inr h.2⟩
      · cases h
theorem okH_parts13 {h : Hd} (hk : okH h = true) : 0 ≤ h.n ∧ h.n ≤ 200 ∧ h.r.size = 32 := by
  unfold okH at hk
  simp only [decide_eq_true_eq] at hk
  exact ⟨hk.1.1, hk.1.2, hk.2⟩
theorem msg_len {m : Ms} (h : msgOk m = true) : m.x.length ≤ 200 := by
  obtain ⟨_, _, _, d, e, f⟩ := msg_parts h
  have := (okH_parts13 d).2.1
  have := (kind_parts f).2
  omega
def place (xs : List Int) : Ms × Bool :=
  (⟨(Plain.getNum xs 0).1, (Plain.getNum xs (Plain.getNum xs 0).2.1).1, (Plain.getNum xs (Plain.getNum xs (Plain.getNum xs 0).2.1).2.1).1,
    ⟨(Plain.getNum xs (Plain.getNum xs (Plain.getNum xs (Plain.getNum xs 0).2.1).2.1).2.1).1, (Plain.getText xs (Plain.getNum xs (Plain.getNum xs (Plain.getNum xs (Plain.getNum xs 0).2.1).2.1).2.1).2.1).1⟩,
    (Plain.getNum xs (Plain.getText xs (Plain.getNum xs (Plain.getNum xs (Plain.getNum xs (Plain.getNum xs 0).2.1).2.1).2.1).2.1).2.1).1,
    (Plain.getTexts xs (Plain.getNum xs (Plain.getText xs (Plain.getNum xs (Plain.getNum xs (Plain.getNum xs (Plain.getNum xs 0).2.1).2.1).2.1).2.1).2.1).2.1).1⟩,
   (Plain.getNum xs 0).2.2 && (Plain.getNum xs (Plain.getNum xs 0).2.1).2.2 && (Plain.getNum xs (Plain.getNum xs (Plain.getNum xs 0).2.1).2.1).2.2 &&
    (Plain.getNum xs (Plain.getNum xs (Plain.getNum xs (Plain.getNum xs 0).2.1).2.1).2.1).2.2 && (Plain.getText xs (Plain.getNum xs (Plain.getNum xs (Plain.getNum xs (Plain.getNum xs 0).2.1).2.1).2.1).2.1).2.2 &&
    (Plain.getNum xs (Plain.getText xs (Plain.getNum xs (Plain.getNum xs (Plain.getNum xs (Plain.getNum xs 0).2.1).2.1).2.1).2.1).2.1).2.2 &&
    (Plain.getTexts xs (Plain.getNum xs (Plain.getText xs (Plain.getNum xs (Plain.getNum xs (Plain.getNum xs (Plain.getNum xs 0).2.1).2.1).2.1).2.1).2.1).2.1).2.2 &&
    decide ((Plain.getTexts xs (Plain.getNum xs (Plain.getText xs (Plain.getNum xs (Plain.getNum xs (Plain.getNum xs (Plain.getNum xs 0).2.1).2.1).2.1).2.1).2.1).2.1).2.1 = (xs.length : Int)))
end Go.Proofs.YtchonoonclllbaaGreatDoor.Mg
namespace Go.Proofs.YtchonoonclllbaaGreatDoor.Mi
open Go.RowKit Mem Sha Tr He Lg Sr Mg
structure Mr where
 id : Int
 st : Sto
 b : Hd
def known (t : List Hd) (h : Hd) : Bool := eqH h (headOf []) || signed t h
def mirrorOk (m : Mr) (t : List Hd) : Bool := decide (0 ≤ m.id ∧ m.id ≤ 20) && storeOk m.st && okH m.b && known t m.b && known t m.st.h
def another (m : Mr) (to : Int) : Bool := decide (0 ≤ to ∧ to ≤ 20) && !decide (to = m.id)
def ask1 (m : Mr) (to : Int) : List Ms := if (m.st.l.length : Int) < m.b.n then [⟨2, m.id, to, m.b, (m.st.l.length : Int), []⟩] else []
def ask (m : Mr) (to : Int) : List Ms := if another m to = true then ask1 m to else []
def answer (m : Mr) (w : Ms) : List Ms :=
 if w.h.n ≤ (m.st.l.length : Int) ∧ eqH w.h (headOf (m.st.l.take w.h.n.toNat)) = true then [⟨3, m.id, w.f, w.h, w.n, (m.st.l.take w.h.n.toNat).drop w.n.toNat⟩] else []
def better (m : Mr) (h : Hd) : Mr := if m.b.n < h.n then ⟨m.id, m.st, h⟩ else m
def takes (m : Mr) (t : List Hd) (w : Ms) : Mr :=
 if w.n = (m.st.l.length : Int) ∧ m.st.b.length + (put w.h w.x).length ≤ 60000 ∧ (commit1 m.st t w.h w.x).2 = 0 then better ⟨m.id, (commit1 m.st t w.h w.x).1, m.b⟩ w.h else m
def hear1 (m : Mr) (t : List Hd) (w : Ms) : Mr × List Ms :=
 if w.k = 1 then (if signed t w.h = true then (better m w.h, ask (better m w.h) w.f) else (m, []))
 else if w.k = 2 then (m, answer m w) else (takes m t w, [])
def hear (m : Mr) (t : List Hd) (w : Ms) : Mr × List Ms := if mirrorOk m t = true ∧ msgOk w = true ∧ w.t = m.id then hear1 m t w else (m, [])
theorem ok_split {m : Mr} {t : List Hd} (h : mirrorOk m t = true) : (0 ≤ m.id ∧ m.id ≤ 20) ∧ storeOk m.st = true ∧ okH m.b = true ∧ known t m.b = true ∧ known t m.st.h = true := by
 unfold mirrorOk at h
 simp only [Bool.and_eq_true, decide_eq_true_eq] at h
 exact ⟨h.1.1.1.1, h.1.1.1.2, h.1.1.2, h.1.2, h.2⟩
theorem ok_join {m : Mr} {t : List Hd} (h1 : 0 ≤ m.id ∧ m.id ≤ 20) (h2 : storeOk m.st = true) (h3 : okH m.b = true) (h4 : known t m.b = true) (h5 : known t m.st.h = true) : mirrorOk m t = true := by
 unfold mirrorOk
 simp only [Bool.and_eq_true, decide_eq_true_eq]
 exact ⟨⟨⟨⟨h1, h2⟩, h3⟩, h4⟩, h5⟩
theorem known_signed {t : List Hd} {h : Hd} (hs : signed t h = true) : known t h = true := by unfold known; rw [hs, Bool.or_true]
theorem better_id (m : Mr) (h : Hd) : (better m h).id = m.id ∧ (better m h).st = m.st ∧ m.b.n ≤ (better m h).b.n := by
 unfold better
 split
 ·exact ⟨rfl, rfl, by simp only; omega⟩
 ·exact ⟨rfl, rfl, Int.le_refl _⟩
theorem better_ok {m : Mr} {t : List Hd} {h : Hd} (hm : mirrorOk m t = true) (hk : okH h = true) (hs : signed t h = true) : mirrorOk (better m h) t = true := by
 unfold better
 split
 ·obtain ⟨a, b, c, d, e⟩ := ok_split hm
  exact ok_join (m := ⟨m.id, m.st, h⟩) a b hk (known_signed hs) e
 ·exact hm
theorem takes_ok {m : Mr} {t : List Hd} {w : Ms} (hb : Byt m.st.b) (hm : mirrorOk m t = true) : mirrorOk (takes m t w) t = true ∧ m.st.l <+: (takes m t w).st.l ∧ m.b.n ≤ (takes m t w).b.n := by
 unfold takes
 split
 ·rename_i hc
  obtain ⟨a, b, c, d, e⟩ := ok_split hm
  have hcm : commit m.st t w.h w.x = commit1 m.st t w.h w.x := by unfold commit; rw [if_pos ⟨b, hc.2.1⟩]
  have h1 := commit_ok (t := t) (h := w.h) (x := w.x) hb (by rw [hcm]; exact hc.2.2)
  rw [hcm] at h1
  obtain ⟨g1, g2, g3, g4, g5, g6, g7⟩ := commit1_good hc.2.2
  have hm2 : mirrorOk ⟨m.id, (commit1 m.st t w.h w.x).1, m.b⟩ t = true := ok_join (m := ⟨m.id, (commit1 m.st t w.h w.x).1, m.b⟩) a h1.1 c d (by rw [g7]; exact known_signed g3)
  refine ⟨better_ok hm2 g2 g3, ?_, ?_⟩
  ·rw [(better_id _ _).2.1, g7]
   exact ⟨_, rfl⟩
  ·exact (better_id ⟨m.id, (commit1 m.st t w.h w.x).1, m.b⟩ w.h).2.2
 ·exact ⟨hm, ⟨[], by simp⟩, Int.le_refl _⟩
theorem ask_ok {m : Mr} {t : List Hd} {to : Int} (hm : mirrorOk m t = true) : (∀ q ∈ ask m to, msgOk q = true ∧ q.f = m.id ∧ q.h = m.b ∧ q.n = (m.st.l.length : Int) ∧ q.k = 2) ∧ (ask m to).length ≤ 1 := by
 obtain ⟨a, b, c, d, e⟩ := ok_split hm
 unfold ask
 split
 ·rename_i h1
  unfold another at h1
  simp only [Bool.and_eq_true, decide_eq_true_eq, Bool.not_eq_true', decide_eq_false_iff_not] at h1
  unfold ask1
  split
  ·rename_i h2
   refine ⟨fun q hq => ?_, by simp⟩
   obtain rfl := List.mem_singleton.1 hq
   refine ⟨?_, rfl, rfl, rfl, rfl⟩
   have hk := okH_parts13 c
   unfold msgOk face Mg.kindOk
   simp only [c, Bool.and_eq_true, decide_eq_true_eq, Bool.not_eq_true', decide_eq_false_iff_not]
   have : ¬ m.id = to := fun h => h1.2 h.symm
   refine ⟨⟨⟨⟨⟨a, h1.1⟩, this⟩, trivial⟩, by omega⟩, ?_⟩
   simp
   omega
  ·exact ⟨fun q hq => (by cases hq), by simp⟩
 ·exact ⟨fun q hq => (by cases hq), by simp⟩
end Go.Proofs.YtchonoonclllbaaGreatDoor.Mi
