/- Texts in one: SrC, SrD. -/
import Derived.Test.YtfpaichdkddglaaGreatDoorPm12
import Derived.Test.YtfpaichdkddglaaGreatDoorPm10
namespace Go.Proofs.YtfpaichdkddglaaGreatDoor.Sr
open Go.RowKit Go.Proofs.YtfpaichdkddglaaGreatDoor.Mem Go.Proofs.YtfpaichdkddglaaGreatDoor.Laws Go.Proofs.YtfpaichdkddglaaGreatDoor.Bytes Go.Proofs.YtfpaichdkddglaaGreatDoor.Sha Go.Proofs.YtfpaichdkddglaaGreatDoor.Tr Go.Proofs.YtfpaichdkddglaaGreatDoor.He Go.Proofs.YtfpaichdkddglaaGreatDoor.Lg
set_option linter.unusedVariables false
set_option linter.unusedSimpArgs false
def sc (v : Value) (h : Hd) (b : Value) (s : Int) : Array Value := #[v, .int .i64 h.n, .string h.r, b, .int .i64 s]
theorem sizeS (v : Value) (h : Hd) (b : Value) (s : Int) : (Tryz.prog.info? 37).map (·.size) = some (sc v h b s).size := by
 show _ = some 5
 kernel_rfl
theorem oneS {v b : Value} (h : Hd) (s : Int) (hv : v.oneCell' = true) (hb : b.oneCell' = true) : (sc v h b s).all (·.oneCell') = true := by
 simp [sc, Value.oneCell']
 exact ⟨hv, hb⟩
set_option maxRecDepth 1000000 in
set_option maxHeartbeats 1000000 in
theorem storenew_spec (w : World) : Calls Tryz.prog 63 #[] w fun e w' => e = .returned (.agg #[.slice none 0 0, .int .i64 (headOf []).n, .string (headOf []).r, .slice none 0 0, .int .i64 0]) ∧ Below w.heap.size w w' := by
 have B0 : Hid (Below w.heap.size w w) := Below.refl _ _
 obtain ⟨W1, HW1, b1, y1, hS1, r_res1⟩ : ∃ X, Hid ((w.alloc (.cells #[.slice none 0 0, .int .i64 0, .string ⟨#[]⟩, .slice none 0 0, .int .i64 0] 37)) = X) ∧ Below w.heap.size w X ∧ w.heap.size + 1 ≤ X.heap.size ∧ Hid (X.heap.size = w.heap.size + 1) ∧ Hid (X.heap[w.heap.size]? = some (.cells #[.slice none 0 0, .int .i64 0, .string ⟨#[]⟩, .slice none 0 0, .int .i64 0] 37 (0, 0))) := ⟨_, rfl, ((Below.refl _ _).alloc (Nat.le_refl _) _), by simp, by show _ = _; simp, (by show _ = _; exact alloc_nth1_0 w _)⟩
 have B1 : Hid (Below w.heap.size w W1) := B0.out.trans (b1.mono B0.out.size)
 obtain ⟨M, hM⟩ : ∃ M, headOf [] = M := ⟨_, rfl⟩
 have q : ∀ W, _ := fun W => lognew_spec W
 simp only [hM] at q
 rw [hM]
 clear hM
 go_enter Tryz.func63, Tryz.ntmps63
 go_wp2_with fail
 rw [HW1.out]
 refine (q W1).mono ?_
 rintro e W2 ⟨rfl, b2⟩
 have B2 : Hid (Below w.heap.size w W2) := B1.out.trans (b2.mono B1.out.size)
 have r_res2 : Hid (W2.heap[w.heap.size]? = some (.cells #[.slice none 0 0, .int .i64 0, .string ⟨#[]⟩, .slice none 0 0, .int .i64 0] 37 (0, 0))) := rowKeep r_res1.out b2
 clear r_res1
 go_wp2_with (refine wpList_store_row rfl 37 _ _ rfl (w.heap.size) (sc (.slice none 0 0) M (.slice none 0 0) 0) rfl rfl 37 _ r_res2.out (sizeS _ _ _ _) rfl (oneS _ _ rfl rfl) ?_)
 refine bodyPost_ret (v := .agg (sc (.slice none 0 0) M (.slice none 0 0) 0)) (results_cell_row rfl _ _ (w.heap.size) 37 _ (0, 0) _ rfl (setRow_heap _ _ _ _ _ (0, 0) r_res2.out) Tryz.underlying37 rfl (sizeS _ _ _ _)) rfl ⟨rfl, below_setRow B2.out (by omega) _⟩
set_option maxRecDepth 1000000 in
set_option maxHeartbeats 4000000 in
theorem copy_spec (w : World) (v vb : Value) (st : Sto) (hs : Sl w v (ss st.l)) (hb : Sl w vb (bs st.b)) (hl : st.l.length ≤ 1000000000) (hbl : st.b.length ≤ 1000000000) :
  Calls Tryz.prog 40 #[.agg #[v, .int .i64 st.h.n, .string st.h.r, vb, .int .i64 st.s]] w fun e w' => ∃ v' vb', e = .returned (.agg #[v', .int .i64 st.h.n, .string st.h.r, vb', .int .i64 st.s]) ∧ Own w' w.heap.size w'.heap.size 9 v' (ss st.l) ∧ Own w' w.heap.size w'.heap.size 5 vb' (bs st.b) ∧ Below w.heap.size w w' := by
 obtain ⟨l, h, b, s⟩ := st
 simp only at *
 have HS : Hid (Sl w v (ss l)) := hs
 have HSB : Hid (Sl w vb (bs b)) := hb
 obtain ⟨ao0, cap0, rfl, hc0⟩ := hs.form
 obtain ⟨ao1, cap1, rfl, hc1⟩ := hb.form
 rw [ss_len] at *
 rw [bs_len] at *
 clear hs hb
 have B0 : Hid (Below w.heap.size w w) := Below.refl _ _
 obtain ⟨i5, hi5, hz5a, hz5b, hz5c⟩ := info_parts info5
 obtain ⟨W1, HW1, b1, y1, hS1, r_a1, r_res1⟩ : ∃ X, Hid (((w.alloc (.cells #[.slice ao0 l.length cap0, .int .i64 h.n, .string h.r, .slice ao1 b.length cap1, .int .i64 s] 37)).alloc (.cells #[.slice none 0 0, .int .i64 0, .string ⟨#[]⟩, .slice none 0 0, .int .i64 0] 37)) = X) ∧ Below w.heap.size w X ∧ w.heap.size + 2 ≤ X.heap.size ∧ Hid (X.heap.size = w.heap.size + 1 + 1) ∧ Hid (X.heap[w.heap.size]? = some (.cells #[.slice ao0 l.length cap0, .int .i64 h.n, .string h.r, .slice ao1 b.length cap1, .int .i64 s] 37 (0, 0))) ∧ Hid (X.heap[w.heap.size + 1]? = some (.cells #[.slice none 0 0, .int .i64 0, .string ⟨#[]⟩, .slice none 0 0, .int .i64 0] 37 (0, 0))) := ⟨_, rfl, (((Below.refl _ _).alloc (Nat.le_refl _) _).alloc (by simp) _), by simp, by show _ = _; simp, (by show _ = _; exact alloc_nth2_0 w _ _), (by show _ = _; exact alloc_nth2_1 w _ _)⟩
 have z1 : w.heap.size ≤ W1.heap.size := b1.size
 have B1 : Hid (Below w.heap.size w W1) := B0.out.trans (b1.mono B0.out.size)
 have c_a1_0 : W1.cell? ⟨w.heap.size, 0, none⟩ = some (.slice ao0 l.length cap0) := row_at r_a1.out 0
 have c_a1_1 : W1.cell? ⟨w.heap.size, 1, none⟩ = some (.int .i64 h.n) := row_at r_a1.out 1
 have c_a1_2 : W1.cell? ⟨w.heap.size, 2, none⟩ = some (.string h.r) := row_at r_a1.out 2
 have c_a1_3 : W1.cell? ⟨w.heap.size, 3, none⟩ = some (.slice ao1 b.length cap1) := row_at r_a1.out 3
 have c_a1_4 : W1.cell? ⟨w.heap.size, 4, none⟩ = some (.int .i64 s) := row_at r_a1.out 4
 have q : ∀ W v1, Sl W v1 (ss l) → _ := fun W v1 h1 => Lg.copy_spec W v1 l h h1 hl
 go_enter Tryz.func40, Tryz.ntmps40
 go_wp2_with fail
 rw [HW1.out]
 refine wp_region_held_drew (S := fun w' => w'.cell? ⟨w.heap.size, 0, none⟩ = some (.slice ao0 l.length cap0) ∧ w'.cell? ⟨w.heap.size, 1, none⟩ = some (.int .i64 h.n) ∧ w'.cell? ⟨w.heap.size, 2, none⟩ = some (.string h.r) ∧ w'.cell? ⟨w.heap.size, 3, none⟩ = some (.slice ao1 b.length cap1) ∧ w'.cell? ⟨w.heap.size, 4, none⟩ = some (.int .i64 s)) (by kernel_rfl) ⟨c_a1_0, c_a1_1, c_a1_2, c_a1_3, c_a1_4⟩ (fun hHeld => ?_)
 (refine wpAnyH_take (i := 0) (v := ?v0x1) rfl (by kernel_rfl) (by kernel_rfl) (by kernel_rfl) (fun _ _ _ h => h) (Or.inl ⟨by rfl, ?hy0x1⟩) (by assumption) ?rest0x1; case hy0x1 => (intro w hSw; (try dsimp only at hSw); go_split_ands; go_simp; (try with_reducible rfl)))
 try simp only [Act.put, pu1, pu2, pu3, pu4, pu5, pu6]
 (refine wpAnyH_take (i := 1) (v := ?v1x2) rfl (by kernel_rfl) (by kernel_rfl) (by kernel_rfl) (fun _ _ _ h => h) (Or.inl ⟨by rfl, ?hy1x2⟩) (by assumption) ?rest1x2; case hy1x2 => (intro w hSw; (try dsimp only at hSw); go_split_ands; go_simp; (try with_reducible rfl)))
 try simp only [Act.put, pu1, pu2, pu3, pu4, pu5, pu6]
 (refine wpAnyH_take (i := 4) (v := ?v4x3) rfl (by kernel_rfl) (by kernel_rfl) (by kernel_rfl) (fun _ _ _ h => h) (Or.inl ⟨by rfl, ?hy4x3⟩) (by assumption) ?rest4x3; case hy4x3 => (intro w hSw; (try dsimp only at hSw); go_split_ands; go_simp; (try with_reducible rfl)))
 try simp only [Act.put, pu1, pu2, pu3, pu4, pu5, pu6]
 (refine wpAnyH_take (i := 5) (v := ?v5x4) rfl (by kernel_rfl) (by kernel_rfl) (by kernel_rfl) (fun _ _ _ h => h) (Or.inl ⟨by rfl, ?hy5x4⟩) (by assumption) ?rest5x4; case hy5x4 => (intro w hSw; (try dsimp only at hSw); go_split_ands; go_simp; (try with_reducible rfl)))
 try simp only [Act.put, pu1, pu2, pu3, pu4, pu5, pu6]
 (refine wpAnyH_take (i := 7) (v := ?v7x5) rfl (by kernel_rfl) (by kernel_rfl) (by kernel_rfl) (fun _ _ _ h => h) (Or.inl ⟨by rfl, ?hy7x5⟩) (by assumption) ?rest7x5; case hy7x5 => (intro w hSw; (try dsimp only at hSw); go_split_ands; go_simp; (try with_reducible rfl)))
 try simp only [Act.put, pu1, pu2, pu3, pu4, pu5, pu6]
 (refine wpAnyH_take (i := 8) (v := ?v8x6) rfl (by kernel_rfl) (by kernel_rfl) (by kernel_rfl) (fun _ _ _ h => h) (Or.inl ⟨by rfl, ?hy8x6⟩) (by assumption) ?rest8x6; case hy8x6 => (intro w hSw; (try dsimp only at hSw); go_split_ands; go_simp; (try with_reducible rfl)))
 try simp only [Act.put, pu1, pu2, pu3, pu4, pu5, pu6]
 refine wpAnyH_ready (rs := [2, 3]) (by kernel_rfl) (by simp) ?_
 refine AllReadyH.cons rfl (fun K hK => ?_) (AllReadyH.cons rfl (fun K hK => ?_) AllReadyH.nil)
 ·
  go_simp
  refine (q W1.drew _ (Sl.later (w := W1) (HS.out.later B1.out) (Below.drew (Below.refl _ _)))).mono ?_
  rintro e W2 ⟨v_s, rfl, o_s2, b2⟩
  have b2 : Below W1.heap.size W1 W2 := (Below.drew (Below.refl _ _)).trans b2
  refine hK.out _ _ ⟨(keepR (W := W1) hHeld.1 b2), (keepR (W := W1) hHeld.2.1 b2), (keepR (W := W1) hHeld.2.2.1 b2), (keepR (W := W1) hHeld.2.2.2.1 b2), (keepR (W := W1) hHeld.2.2.2.2 b2)⟩ (fun hHeld => ?_)
  clear hK K
  try simp only [Act.put, pu1, pu2, pu3, pu4, pu5, pu6]
  have o_s2 : Own W2 W1.heap.size W2.heap.size 9 _ _ := o_s2
  obtain ⟨ao_s, L_s, cap_s, rfl, hL_s, hM_s⟩ := o_s2.form
  have o_s2 : Hid (Own W2 W1.heap.size W2.heap.size 9 (.slice ao_s L_s cap_s) (ss l)) := o_s2
  clear hL_s hM_s
  have z2 : W1.heap.size ≤ W2.heap.size := b2.size
  have B2 : Hid (Below w.heap.size w W2) := B1.out.trans (b2.mono B1.out.size)
  have r_a2 : Hid (W2.heap[w.heap.size]? = some (.cells #[.slice ao0 l.length cap0, .int .i64 h.n, .string h.r, .slice ao1 b.length cap1, .int .i64 s] 37 (0, 0))) := rowKeep r_a1.out b2
  have r_res2 : Hid (W2.heap[w.heap.size + 1]? = some (.cells #[.slice none 0 0, .int .i64 0, .string ⟨#[]⟩, .slice none 0 0, .int .i64 0] 37 (0, 0))) := rowKeep r_res1.out b2
  clear r_a1 c_a1_0 c_a1_1 c_a1_2 c_a1_3 c_a1_4 r_res1
  refine wpAnyH_ready (rs := [3]) (by kernel_rfl) (by simp) ?_
  refine AllReadyH.cons rfl (fun K hK => ?_) AllReadyH.nil
  go_simp
  refine hK.out _ _ ⟨(keepR (W := W2) hHeld.1 ((Below.refl _ _).alloc (Nat.le_refl _) _)), (keepR (W := W2) hHeld.2.1 ((Below.refl _ _).alloc (Nat.le_refl _) _)), (keepR (W := W2) hHeld.2.2.1 ((Below.refl _ _).alloc (Nat.le_refl _) _)), (keepR (W := W2) hHeld.2.2.2.1 ((Below.refl _ _).alloc (Nat.le_refl _) _)), (keepR (W := W2) hHeld.2.2.2.2 ((Below.refl _ _).alloc (Nat.le_refl _) _))⟩ (fun hHeld => ?_)
  clear hK K
  try simp only [Act.put, pu1, pu2, pu3, pu4, pu5, pu6]
  obtain ⟨W3, HW3, b3, o_e3⟩ : ∃ X, Hid ((W2.alloc (.cells #[] 5)) = X) ∧ Below W2.heap.size W2 X ∧ Hid (Own X W2.heap.size X.heap.size 5 (.slice (some ⟨W2.heap.size, 0, none⟩) 0 0) (bs [])) := ⟨_, rfl, ((Below.refl _ _).alloc (Nat.le_refl _) _), Puts.Own.empty W2 W2.heap.size (Nat.le_refl _)⟩
  have HHW3 := HW3.out
  rw [HHW3] at hHeld ⊢
  clear HHW3
  have z3 : W2.heap.size ≤ W3.heap.size := b3.size
  have B3 : Hid (Below w.heap.size w W3) := B2.out.trans (b3.mono B2.out.size)
  have r_a3 : Hid (W3.heap[w.heap.size]? = some (.cells #[.slice ao0 l.length cap0, .int .i64 h.n, .string h.r, .slice ao1 b.length cap1, .int .i64 s] 37 (0, 0))) := rowKeep r_a2.out b3
  have r_res3 : Hid (W3.heap[w.heap.size + 1]? = some (.cells #[.slice none 0 0, .int .i64 0, .string ⟨#[]⟩, .slice none 0 0, .int .i64 0] 37 (0, 0))) := rowKeep r_res2.out b3
  have o_s3 : Hid (Own W3 (W1.heap.size) (W2.heap.size) 9 (.slice ao_s L_s cap_s) (ss l)) := Own.later o_s2.out b3 (by omega)
  clear r_a2 r_res2 o_s2
  refine wpAnyH_ready (rs := [6]) (by kernel_rfl) (by simp) ?_
  refine AllReadyH.cons rfl (fun K hK => ?_) AllReadyH.nil
  have c6_4 : (bs []).length + (bs b).length ≤ maxLen := by rw [bs_len, bs_len]; unfold maxLen; (try simp only [List.length_nil]); omega
  have c7_4 : ((bs []).length + (bs b).length) * 1 ≤ 140737488355328 := by rw [bs_len, bs_len]; (try simp only [List.length_nil]); omega
  refine step_appG (by rfl) (.tmp 6) (.tmp 8) 22 (by rfl) 5 i5 (.int .u8 0) 1 Tryz.underlying22 hi5 hz5a hz5b hz5c rfl (W2.heap.size) _ (bs []) (by rfl) (Own.mono o_e3.out (Nat.le_refl _) (by omega)) _ (by rfl) (bs b) ((HSB.out.later B3.out)) (bs_one b) c6_4 c7_4 (by omega) ?_
  intro v_p W4 o_p4 g4
  refine hK.out _ _ ⟨(cellGro hHeld.1 g4 (Own.neRow o_e3.out r_a3.out (by decide))), (cellGro hHeld.2.1 g4 (Own.neRow o_e3.out r_a3.out (by decide))), (cellGro hHeld.2.2.1 g4 (Own.neRow o_e3.out r_a3.out (by decide))), (cellGro hHeld.2.2.2.1 g4 (Own.neRow o_e3.out r_a3.out (by decide))), (cellGro hHeld.2.2.2.2 g4 (Own.neRow o_e3.out r_a3.out (by decide)))⟩ (fun hHeld => ?_)
  clear hK K
  try simp only [Act.put, pu1, pu2, pu3, pu4, pu5, pu6]
  have o_p4 : Own W4 (W2.heap.size) W4.heap.size 5 v_p (bs b) := o_p4
  have o_p4h : Hid (Own W4 (W2.heap.size) W4.heap.size 5 v_p (bs b)) := o_p4
  clear o_p4
  have o_p4 := o_p4h
  clear o_p4h
  obtain ⟨ao_p, L_p, cap_p, rfl, _, _⟩ := Mem.Own.form o_p4.out
  have z4 : W3.heap.size ≤ W4.heap.size := g4.size
  have B4 : Hid (Below w.heap.size w W4) := belowGro B3.out g4 B3.out.size (Own.low o_e3.out (by have := B3.out.size; omega))
  have r_res4 : Hid (W4.heap[w.heap.size + 1]? = some (.cells #[.slice none 0 0, .int .i64 0, .string ⟨#[]⟩, .slice none 0 0, .int .i64 0] 37 (0, 0))) := rowGro r_res3.out g4 (Own.neRow o_e3.out r_res3.out (by decide))
  have o_s4 : Hid (Own W4 (W1.heap.size) (W2.heap.size) 9 (.slice ao_s L_s cap_s) (ss l)) := Own.gro o_s3.out g4 (Own.neOwn o_e3.out o_s3.out (by decide))
  clear r_a3 r_res3 o_s3 o_e3
  clear g4 c6_4 c7_4
  (refine wpAnyH_take (i := 9) (v := ?v9x7) rfl (by kernel_rfl) (by kernel_rfl) (by kernel_rfl) (fun _ _ _ h => h) (Or.inl ⟨by rfl, ?hy9x7⟩) (by assumption) ?rest9x7; case hy9x7 => (intro w hSw; (try dsimp only at hSw); go_split_ands; go_simp; (try with_reducible rfl)))
  try simp only [Act.put, pu1, pu2, pu3, pu4, pu5, pu6]
  refine wpAnyH_ready (rs := [10]) (by kernel_rfl) (by simp) ?_
  refine AllReadyH.cons rfl (fun K hK => ?_) AllReadyH.nil
  rw [if_pos (by rfl)]
  refine wp_store_row 37 _ _ rfl (w.heap.size + 1) (sc (.slice ao_s L_s cap_s) h (.slice ao_p L_p cap_p) s) rfl rfl 37 _ r_res4.out (sizeS _ _ _ _) rfl (oneS _ _ rfl rfl) ?_
  refine hK.out _ _ ⟨(cell_row (by show w.heap.size ≠ w.heap.size + 1; omega) hHeld.1), (cell_row (by show w.heap.size ≠ w.heap.size + 1; omega) hHeld.2.1), (cell_row (by show w.heap.size ≠ w.heap.size + 1; omega) hHeld.2.2.1), (cell_row (by show w.heap.size ≠ w.heap.size + 1; omega) hHeld.2.2.2.1), (cell_row (by show w.heap.size ≠ w.heap.size + 1; omega) hHeld.2.2.2.2)⟩ (fun hHeld => ?_)
  clear hK K
  refine wpAnyH_done (by kernel_rfl) ?_ _
  clear hHeld
  go_wp2
  refine bodyPost_ret (v := .agg (sc (.slice ao_s L_s cap_s) h (.slice ao_p L_p cap_p) s)) (results_cell_row rfl _ _ (w.heap.size + 1) 37 _ (0, 0) _ rfl (setRow_heap _ _ _ _ _ (0, 0) r_res4.out) Tryz.underlying37 rfl (sizeS _ _ _ _)) rfl ⟨.slice ao_s L_s cap_s, .slice ao_p L_p cap_p, rfl, (Own.setRow o_s4.out _ (by omega)).mono (by omega) (by rw [size_setRow]; omega), (Own.setRow o_p4.out _ (by omega)).mono (by omega) (by rw [size_setRow]; omega), below_setRow B4.out (by omega) _⟩
 ·
  go_simp
  refine hK.out _ _ ⟨(keepR (W := W1.drew) hHeld.1 ((Below.refl _ _).alloc (Nat.le_refl _) _)), (keepR (W := W1.drew) hHeld.2.1 ((Below.refl _ _).alloc (Nat.le_refl _) _)), (keepR (W := W1.drew) hHeld.2.2.1 ((Below.refl _ _).alloc (Nat.le_refl _) _)), (keepR (W := W1.drew) hHeld.2.2.2.1 ((Below.refl _ _).alloc (Nat.le_refl _) _)), (keepR (W := W1.drew) hHeld.2.2.2.2 ((Below.refl _ _).alloc (Nat.le_refl _) _))⟩ (fun hHeld => ?_)
  clear hK K
  try simp only [Act.put, pu1, pu2, pu3, pu4, pu5, pu6]
  obtain ⟨W2, HW2, b2, o_e2⟩ : ∃ X, Hid ((W1.alloc (.cells #[] 5)).drew = X) ∧ Below W1.heap.size W1 X ∧ Hid (Own X W1.heap.size X.heap.size 5 (.slice (some ⟨W1.heap.size, 0, none⟩) 0 0) (bs [])) := ⟨_, rfl, (Below.drew ((Below.refl _ _).alloc (Nat.le_refl _) _)), Puts.Own.empty W1 W1.heap.size (Nat.le_refl _)⟩
  have HHW2 := HW2.out
  rw [HHW2] at hHeld ⊢
  clear HHW2
  have z2 : W1.heap.size ≤ W2.heap.size := b2.size
  have B2 : Hid (Below w.heap.size w W2) := B1.out.trans (b2.mono B1.out.size)
  have r_a2 : Hid (W2.heap[w.heap.size]? = some (.cells #[.slice ao0 l.length cap0, .int .i64 h.n, .string h.r, .slice ao1 b.length cap1, .int .i64 s] 37 (0, 0))) := rowKeep r_a1.out b2
  have r_res2 : Hid (W2.heap[w.heap.size + 1]? = some (.cells #[.slice none 0 0, .int .i64 0, .string ⟨#[]⟩, .slice none 0 0, .int .i64 0] 37 (0, 0))) := rowKeep r_res1.out b2
  clear r_a1 c_a1_0 c_a1_1 c_a1_2 c_a1_3 c_a1_4 r_res1
  refine wpAnyH_ready (rs := [2]) (by kernel_rfl) (by simp) ?_
  refine AllReadyH.cons rfl (fun K hK => ?_) AllReadyH.nil
  go_simp
  refine (q W2 _ (HS.out.later B2.out)).mono ?_
  rintro e W3 ⟨v_s, rfl, o_s3, b3⟩
  refine hK.out _ _ ⟨(keepR (W := W2) hHeld.1 b3), (keepR (W := W2) hHeld.2.1 b3), (keepR (W := W2) hHeld.2.2.1 b3), (keepR (W := W2) hHeld.2.2.2.1 b3), (keepR (W := W2) hHeld.2.2.2.2 b3)⟩ (fun hHeld => ?_)
  clear hK K
  try simp only [Act.put, pu1, pu2, pu3, pu4, pu5, pu6]
  obtain ⟨ao_s, L_s, cap_s, rfl, hL_s, hM_s⟩ := o_s3.form
  have o_s3 : Hid (Own W3 W2.heap.size W3.heap.size 9 (.slice ao_s L_s cap_s) (ss l)) := o_s3
  clear hL_s hM_s
  have z3 : W2.heap.size ≤ W3.heap.size := b3.size
  have B3 : Hid (Below w.heap.size w W3) := B2.out.trans (b3.mono B2.out.size)
  have r_a3 : Hid (W3.heap[w.heap.size]? = some (.cells #[.slice ao0 l.length cap0, .int .i64 h.n, .string h.r, .slice ao1 b.length cap1, .int .i64 s] 37 (0, 0))) := rowKeep r_a2.out b3
  have r_res3 : Hid (W3.heap[w.heap.size + 1]? = some (.cells #[.slice none 0 0, .int .i64 0, .string ⟨#[]⟩, .slice none 0 0, .int .i64 0] 37 (0, 0))) := rowKeep r_res2.out b3
  have o_e3 : Hid (Own W3 (W1.heap.size) (W2.heap.size) 5 (.slice (some ⟨W1.heap.size, 0, none⟩) 0 0) (bs [])) := Own.later o_e2.out b3 (by omega)
  clear r_a2 r_res2 o_e2
  refine wpAnyH_ready (rs := [6]) (by kernel_rfl) (by simp) ?_
  refine AllReadyH.cons rfl (fun K hK => ?_) AllReadyH.nil
  have c6_4 : (bs []).length + (bs b).length ≤ maxLen := by rw [bs_len, bs_len]; unfold maxLen; (try simp only [List.length_nil]); omega
  have c7_4 : ((bs []).length + (bs b).length) * 1 ≤ 140737488355328 := by rw [bs_len, bs_len]; (try simp only [List.length_nil]); omega
  refine step_appG (by rfl) (.tmp 6) (.tmp 8) 22 (by rfl) 5 i5 (.int .u8 0) 1 Tryz.underlying22 hi5 hz5a hz5b hz5c rfl (W1.heap.size) _ (bs []) (by rfl) (Own.mono o_e3.out (Nat.le_refl _) (by omega)) _ (by rfl) (bs b) ((HSB.out.later B3.out)) (bs_one b) c6_4 c7_4 (by omega) ?_
  intro v_p W4 o_p4 g4
  refine hK.out _ _ ⟨(cellGro hHeld.1 g4 (Own.neRow o_e3.out r_a3.out (by decide))), (cellGro hHeld.2.1 g4 (Own.neRow o_e3.out r_a3.out (by decide))), (cellGro hHeld.2.2.1 g4 (Own.neRow o_e3.out r_a3.out (by decide))), (cellGro hHeld.2.2.2.1 g4 (Own.neRow o_e3.out r_a3.out (by decide))), (cellGro hHeld.2.2.2.2 g4 (Own.neRow o_e3.out r_a3.out (by decide)))⟩ (fun hHeld => ?_)
  clear hK K
  try simp only [Act.put, pu1, pu2, pu3, pu4, pu5, pu6]
  have o_p4 : Own W4 (W1.heap.size) W4.heap.size 5 v_p (bs b) := o_p4
  have o_p4h : Hid (Own W4 (W1.heap.size) W4.heap.size 5 v_p (bs b)) := o_p4
  clear o_p4
  have o_p4 := o_p4h
  clear o_p4h
  obtain ⟨ao_p, L_p, cap_p, rfl, _, _⟩ := Mem.Own.form o_p4.out
  have z4 : W3.heap.size ≤ W4.heap.size := g4.size
  have B4 : Hid (Below w.heap.size w W4) := belowGro B3.out g4 B3.out.size (Own.low o_e3.out (by have := B3.out.size; omega))
  have r_res4 : Hid (W4.heap[w.heap.size + 1]? = some (.cells #[.slice none 0 0, .int .i64 0, .string ⟨#[]⟩, .slice none 0 0, .int .i64 0] 37 (0, 0))) := rowGro r_res3.out g4 (Own.neRow o_e3.out r_res3.out (by decide))
  have o_s4 : Hid (Own W4 (W2.heap.size) (W3.heap.size) 9 (.slice ao_s L_s cap_s) (ss l)) := Own.gro o_s3.out g4 (Own.neOwn o_e3.out o_s3.out (by decide))
  clear r_a3 r_res3 o_e3 o_s3
  clear g4 c6_4 c7_4
  (refine wpAnyH_take (i := 9) (v := ?v9x8) rfl (by kernel_rfl) (by kernel_rfl) (by kernel_rfl) (fun _ _ _ h => h) (Or.inl ⟨by rfl, ?hy9x8⟩) (by assumption) ?rest9x8; case hy9x8 => (intro w hSw; (try dsimp only at hSw); go_split_ands; go_simp; (try with_reducible rfl)))
  try simp only [Act.put, pu1, pu2, pu3, pu4, pu5, pu6]
  refine wpAnyH_ready (rs := [10]) (by kernel_rfl) (by simp) ?_
  refine AllReadyH.cons rfl (fun K hK => ?_) AllReadyH.nil
  rw [if_pos (by rfl)]
  refine wp_store_row 37 _ _ rfl (w.heap.size + 1) (sc (.slice ao_s L_s cap_s) h (.slice ao_p L_p cap_p) s) rfl rfl 37 _ r_res4.out (sizeS _ _ _ _) rfl (oneS _ _ rfl rfl) ?_
  refine hK.out _ _ ⟨(cell_row (by show w.heap.size ≠ w.heap.size + 1; omega) hHeld.1), (cell_row (by show w.heap.size ≠ w.heap.size + 1; omega) hHeld.2.1), (cell_row (by show w.heap.size ≠ w.heap.size + 1; omega) hHeld.2.2.1), (cell_row (by show w.heap.size ≠ w.heap.size + 1; omega) hHeld.2.2.2.1), (cell_row (by show w.heap.size ≠ w.heap.size + 1; omega) hHeld.2.2.2.2)⟩ (fun hHeld => ?_)
  clear hK K
  refine wpAnyH_done (by kernel_rfl) ?_ _
  clear hHeld
  go_wp2
  refine bodyPost_ret (v := .agg (sc (.slice ao_s L_s cap_s) h (.slice ao_p L_p cap_p) s)) (results_cell_row rfl _ _ (w.heap.size + 1) 37 _ (0, 0) _ rfl (setRow_heap _ _ _ _ _ (0, 0) r_res4.out) Tryz.underlying37 rfl (sizeS _ _ _ _)) rfl ⟨.slice ao_s L_s cap_s, .slice ao_p L_p cap_p, rfl, (Own.setRow o_s4.out _ (by omega)).mono (by omega) (by rw [size_setRow]; omega), (Own.setRow o_p4.out _ (by omega)).mono (by omega) (by rw [size_setRow]; omega), below_setRow B4.out (by omega) _⟩
set_option maxRecDepth 1000000 in
set_option maxHeartbeats 8000000 in
theorem commit1_spec (w : World) (v vb vt vx : Value) (st : Sto) (t : List Hd) (hd : Hd) (x : List ByteArray) (hs : Sl w v (ss st.l)) (hb : Sl w vb (bs st.b)) (hst : Sh w vt t) (hsx : Sl w vx (ss x)) (hl : st.l.length ≤ 1000000000) (hbl : st.b.length ≤ 1000000000) (htl : t.length ≤ 1000000000) (hxl : x.length ≤ 1000000000)
  (hz : ∀ s ∈ st.l, s.size ≤ 10000000000) (hzx : ∀ s ∈ x, s.size ≤ 10000000000) (htx : Puts.tot x ≤ 100000000000) (hdr : hd.r.size ≤ 100000000000) :
  Calls Tryz.prog 41 #[.agg #[v, .int .i64 st.h.n, .string st.h.r, vb, .int .i64 st.s], vt, .agg #[.int .i64 hd.n, .string hd.r], vx] w fun e w' => ∃ v' vb', e = .returned (.tuple #[.agg #[v', .int .i64 (commit1 st t hd x).1.h.n, .string (commit1 st t hd x).1.h.r, vb', .int .i64 (commit1 st t hd x).1.s], .int .i64 (commit1 st t hd x).2]) ∧ Own w' w.heap.size w'.heap.size 9 v' (ss (commit1 st t hd x).1.l) ∧ Own w' w.heap.size w'.heap.size 5 vb' (bs (commit1 st t hd x).1.b) ∧ Below w.heap.size w w' := by
 obtain ⟨R, hR⟩ : ∃ R, commit1 st t hd x = R := ⟨_, rfl⟩
 have HR : Hid (commit1 st t hd x = R) := hR
 rw [hR]
 obtain ⟨l, h, b, s⟩ := st
 simp only at *
 have HS : Hid (Sl w v (ss l)) := hs
 have HSB : Hid (Sl w vb (bs b)) := hb
 have HT : Hid (Sh w vt t) := hst
 have HX : Hid (Sl w vx (ss x)) := hsx
 obtain ⟨ao0, cap0, rfl, hc0⟩ := hs.form
 obtain ⟨ao1, cap1, rfl, hc1⟩ := hb.form
 obtain ⟨ao2, cap2, rfl, hc2⟩ := hst.form
 obtain ⟨ao3, cap3, rfl, hc3⟩ := hsx.form
 simp only [ss_len, bs_len] at *
 clear hs hb hst hsx hR
 have B0 : Hid (Below w.heap.size w w) := Below.refl _ _
 obtain ⟨i5, hi5, hz5a, hz5b, hz5c⟩ := info_parts info5
 obtain ⟨W1, HW1, b1, y1, hS1, r_a1, r_h1, r_res1⟩ : ∃ X, Hid ((((w.alloc (.cells #[.slice ao0 l.length cap0, .int .i64 h.n, .string h.r, .slice ao1 b.length cap1, .int .i64 s] 37)).alloc (.cells #[.int .i64 hd.n, .string hd.r] 28)).alloc (.cells #[.slice none 0 0, .int .i64 0, .string ⟨#[]⟩, .slice none 0 0, .int .i64 0] 37)) = X) ∧ Below w.heap.size w X ∧ w.heap.size + 3 ≤ X.heap.size ∧ Hid (X.heap.size = w.heap.size + 1 + 1 + 1) ∧ Hid (X.heap[w.heap.size]? = some (.cells #[.slice ao0 l.length cap0, .int .i64 h.n, .string h.r, .slice ao1 b.length cap1, .int .i64 s] 37 (0, 0))) ∧ Hid (X.heap[w.heap.size + 1]? = some (.cells #[.int .i64 hd.n, .string hd.r] 28 (0, 0))) ∧ Hid (X.heap[w.heap.size + 1 + 1]? = some (.cells #[.slice none 0 0, .int .i64 0, .string ⟨#[]⟩, .slice none 0 0, .int .i64 0] 37 (0, 0))) := ⟨_, rfl, ((((Below.refl _ _).alloc (Nat.le_refl _) _).alloc (by simp) _).alloc (by simp; omega) _), by simp, by show _ = _; simp, (by show _ = _; exact alloc_nth3_0 w _ _ _), (by show _ = _; exact alloc_nth3_1 w _ _ _), (by show _ = _; exact alloc_nth3_2 w _ _ _)⟩
 have z1 : w.heap.size ≤ W1.heap.size := b1.size
 have B1 : Hid (Below w.heap.size w W1) := B0.out.trans (b1.mono B0.out.size)
 have q1 : ∀ W v1 v2, Sl W v1 (ss l) → Sl W v2 (bs b) → _ := fun W v1 v2 h1 h2 => copy_spec W v1 v2 ⟨l, h, b, s⟩ h1 h2 hl hbl
 have q2 : ∀ W v1 v2 v3, Sl W v1 (ss l) → Sh W v2 t → Sl W v3 (ss x) → _ := fun W v1 v2 v3 h1 h2 h3 => extend_spec W v1 v2 v3 l x h hd t h1 h2 h3 hl htl hxl hz hzx
 have q3 : ∀ W v1, Sl W v1 (ss x) → _ := fun W v1 h1 => put_spec W hd v1 x h1 hxl htx hdr
 obtain ⟨E, hE⟩ : ∃ E, extend l h t hd x = E := ⟨_, rfl⟩
 simp only [hE] at q2
 have HE : Hid (extend l h t hd x = E) := hE
 obtain ⟨L, H, C⟩ := E
 simp only at q1 q2
 obtain ⟨Pb, hPb⟩ : ∃ P, put hd x = P := ⟨_, rfl⟩
 have hPl : Pb.length ≤ 1000000000000 := by rw [← hPb]; have h9 := put_len hd x; have h8 := body_len hd x; omega
 simp only [hPb] at q3
 have HP : Hid (put hd x = Pb) := hPb
 clear hPb hE hz hzx htx hdr
 have HH : Hid (C = 0 → H = hd ∧ R = (⟨L, H, b ++ Pb, s⟩, 0)) := by
  intro hC
  obtain ⟨_, _, _, _, _, _, h7⟩ := extend_good (l := l) (x := x) (hd := h) (h := hd) (t := t) (by rw [HE.out]; exact hC)
  rw [HE.out] at h7
  simp only [Prod.mk.injEq] at h7
  refine ⟨h7.2.1, ?_⟩
  rw [← HR.out]
  unfold commit1
  simp only
  rw [HE.out, if_pos hC, HP.out]
 have HG : Hid (¬ C = 0 → R = (⟨l, h, b, s⟩, C)) := by
  intro hC
  rw [← HR.out]
  unfold commit1
  simp only
  rw [HE.out, if_neg hC]
 go_enter Tryz.func41, Tryz.ntmps41
 go_wp2_with fail
 rw [HW1.out]
 refine (q1 W1 _ _ (HS.out.later B1.out) (HSB.out.later B1.out)).mono ?_
 rintro e W2 ⟨v_s, v_p, rfl, o_s2, o_p2, b2⟩
 obtain ⟨ao_s, L_s, cap_s, rfl, hL_s, hM_s⟩ := o_s2.form
 have o_s2 : Hid (Own W2 W1.heap.size W2.heap.size 9 (.slice ao_s L_s cap_s) (ss l)) := o_s2
 clear hL_s hM_s
 have z2 : W1.heap.size ≤ W2.heap.size := b2.size
 have B2 : Hid (Below w.heap.size w W2) := B1.out.trans (b2.mono B1.out.size)
 have r_a2 : Hid (W2.heap[w.heap.size]? = some (.cells #[.slice ao0 l.length cap0, .int .i64 h.n, .string h.r, .slice ao1 b.length cap1, .int .i64 s] 37 (0, 0))) := rowKeep r_a1.out b2
 have r_h2 : Hid (W2.heap[w.heap.size + 1]? = some (.cells #[.int .i64 hd.n, .string hd.r] 28 (0, 0))) := rowKeep r_h1.out b2
 have r_res2 : Hid (W2.heap[w.heap.size + 1 + 1]? = some (.cells #[.slice none 0 0, .int .i64 0, .string ⟨#[]⟩, .slice none 0 0, .int .i64 0] 37 (0, 0))) := rowKeep r_res1.out b2
 have c_a2_0 : W2.cell? ⟨w.heap.size, 0, none⟩ = some (.slice ao0 l.length cap0) := row_at r_a2.out 0
 have c_a2_1 : W2.cell? ⟨w.heap.size, 1, none⟩ = some (.int .i64 h.n) := row_at r_a2.out 1
 have c_a2_2 : W2.cell? ⟨w.heap.size, 2, none⟩ = some (.string h.r) := row_at r_a2.out 2
 have c_h2_0 : W2.cell? ⟨w.heap.size + 1, 0, none⟩ = some (.int .i64 hd.n) := row_at r_h2.out 0
 have c_h2_1 : W2.cell? ⟨w.heap.size + 1, 1, none⟩ = some (.string hd.r) := row_at r_h2.out 1
 clear r_a1 r_h1 r_res1
 obtain ⟨ao_p, L_p, cap_p, rfl, _, _⟩ := o_p2.form
 have o_p2 : Hid (Own W2 W1.heap.size W2.heap.size 5 (.slice ao_p L_p cap_p) (bs b)) := o_p2
 have a_a2_0 : ∀ o, (W2.alloc o).cell? ⟨w.heap.size, 0, none⟩ = some (.slice ao0 l.length cap0) := fun o => keepR c_a2_0 ((Below.refl _ _).alloc (Nat.le_refl _) o)
 have a_a2_1 : ∀ o, (W2.alloc o).cell? ⟨w.heap.size, 1, none⟩ = some (.int .i64 h.n) := fun o => keepR c_a2_1 ((Below.refl _ _).alloc (Nat.le_refl _) o)
 have a_a2_2 : ∀ o, (W2.alloc o).cell? ⟨w.heap.size, 2, none⟩ = some (.string h.r) := fun o => keepR c_a2_2 ((Below.refl _ _).alloc (Nat.le_refl _) o)
 have a_h2_0 : ∀ o, (W2.alloc o).cell? ⟨w.heap.size + 1, 0, none⟩ = some (.int .i64 hd.n) := fun o => keepR c_h2_0 ((Below.refl _ _).alloc (Nat.le_refl _) o)
 have a_h2_1 : ∀ o, (W2.alloc o).cell? ⟨w.heap.size + 1, 1, none⟩ = some (.string hd.r) := fun o => keepR c_h2_1 ((Below.refl _ _).alloc (Nat.le_refl _) o)
 obtain ⟨W3, HW3, b3, y3, hS3, r_out3⟩ : ∃ X, Hid ((W2.alloc (.cells #[.slice ao_s L_s cap_s, .int .i64 h.n, .string h.r, .slice ao_p L_p cap_p, .int .i64 s] 37)) = X) ∧ Below W2.heap.size W2 X ∧ W2.heap.size + 1 ≤ X.heap.size ∧ Hid (X.heap.size = W2.heap.size + 1) ∧ Hid (X.heap[W2.heap.size]? = some (.cells #[.slice ao_s L_s cap_s, .int .i64 h.n, .string h.r, .slice ao_p L_p cap_p, .int .i64 s] 37 (0, 0))) := ⟨_, rfl, ((Below.refl _ _).alloc (Nat.le_refl _) _), by simp, by show _ = _; simp, (by show _ = _; exact alloc_nth1_0 W2 _)⟩
 have z3 : W2.heap.size ≤ W3.heap.size := b3.size
 have B3 : Hid (Below w.heap.size w W3) := B2.out.trans (b3.mono B2.out.size)
 have r_h3 : Hid (W3.heap[w.heap.size + 1]? = some (.cells #[.int .i64 hd.n, .string hd.r] 28 (0, 0))) := rowKeep r_h2.out b3
 have r_res3 : Hid (W3.heap[w.heap.size + 1 + 1]? = some (.cells #[.slice none 0 0, .int .i64 0, .string ⟨#[]⟩, .slice none 0 0, .int .i64 0] 37 (0, 0))) := rowKeep r_res2.out b3
 have o_s3 : Hid (Own W3 (W1.heap.size) (W2.heap.size) 9 (.slice ao_s L_s cap_s) (ss l)) := Own.later o_s2.out b3 (by omega)
 have o_p3 : Hid (Own W3 (W1.heap.size) (W2.heap.size) 5 (.slice ao_p L_p cap_p) (bs b)) := Own.later o_p2.out b3 (by omega)
 clear r_a2 c_a2_0 c_a2_1 c_a2_2 r_h2 c_h2_0 c_h2_1 r_res2 o_s2 o_p2
 go_wp2_with fail
 rw [HW3.out]
 clear a_a2_0 a_a2_1 a_a2_2 a_h2_0 a_h2_1
 refine (q2 W3 _ _ _ (HS.out.later B3.out) (HT.out.later B3.out) (HX.out.later B3.out)).mono ?_
 rintro e W4 ⟨v_n, rfl, o_n4, b4⟩
 obtain ⟨ao_n, L_n, cap_n, rfl, hL_n, hM_n⟩ := o_n4.form
 have o_n4 : Hid (Own W4 W3.heap.size W4.heap.size 9 (.slice ao_n L_n cap_n) (ss L)) := o_n4
 clear hL_n hM_n
 have z4 : W3.heap.size ≤ W4.heap.size := b4.size
 have B4 : Hid (Below w.heap.size w W4) := B3.out.trans (b4.mono B3.out.size)
 have r_h4 : Hid (W4.heap[w.heap.size + 1]? = some (.cells #[.int .i64 hd.n, .string hd.r] 28 (0, 0))) := rowKeep r_h3.out b4
 have r_res4 : Hid (W4.heap[w.heap.size + 1 + 1]? = some (.cells #[.slice none 0 0, .int .i64 0, .string ⟨#[]⟩, .slice none 0 0, .int .i64 0] 37 (0, 0))) := rowKeep r_res3.out b4
 have r_out4 : Hid (W4.heap[W2.heap.size]? = some (.cells #[.slice ao_s L_s cap_s, .int .i64 h.n, .string h.r, .slice ao_p L_p cap_p, .int .i64 s] 37 (0, 0))) := rowKeep r_out3.out b4
 have o_s4 : Hid (Own W4 (W1.heap.size) (W2.heap.size) 9 (.slice ao_s L_s cap_s) (ss l)) := Own.later o_s3.out b4 (by omega)
 have o_p4 : Hid (Own W4 (W1.heap.size) (W2.heap.size) 5 (.slice ao_p L_p cap_p) (bs b)) := Own.later o_p3.out b4 (by omega)
 clear r_h3 r_res3 r_out3 o_s3 o_p3
 obtain ⟨W5, HW5, b5, y5, hS5, r_l5⟩ : ∃ X, Hid ((W4.alloc (.cells #[.slice ao_n L_n cap_n, .int .i64 H.n, .string H.r] 31)) = X) ∧ Below W4.heap.size W4 X ∧ W4.heap.size + 1 ≤ X.heap.size ∧ Hid (X.heap.size = W4.heap.size + 1) ∧ Hid (X.heap[W4.heap.size]? = some (.cells #[.slice ao_n L_n cap_n, .int .i64 H.n, .string H.r] 31 (0, 0))) := ⟨_, rfl, ((Below.refl _ _).alloc (Nat.le_refl _) _), by simp, by show _ = _; simp, (by show _ = _; exact alloc_nth1_0 W4 _)⟩
 have B5 : Hid (Below w.heap.size w W5) := B4.out.trans (b5.mono B4.out.size)
 have r_h5 : Hid (W5.heap[w.heap.size + 1]? = some (.cells #[.int .i64 hd.n, .string hd.r] 28 (0, 0))) := rowKeep r_h4.out b5
 have r_res5 : Hid (W5.heap[w.heap.size + 1 + 1]? = some (.cells #[.slice none 0 0, .int .i64 0, .string ⟨#[]⟩, .slice none 0 0, .int .i64 0] 37 (0, 0))) := rowKeep r_res4.out b5
 have r_out5 : Hid (W5.heap[W2.heap.size]? = some (.cells #[.slice ao_s L_s cap_s, .int .i64 h.n, .string h.r, .slice ao_p L_p cap_p, .int .i64 s] 37 (0, 0))) := rowKeep r_out4.out b5
 have o_s5 : Hid (Own W5 (W1.heap.size) (W2.heap.size) 9 (.slice ao_s L_s cap_s) (ss l)) := Own.later o_s4.out b5 (by omega)
 have o_p5 : Hid (Own W5 (W1.heap.size) (W2.heap.size) 5 (.slice ao_p L_p cap_p) (bs b)) := Own.later o_p4.out b5 (by omega)
 have o_n5 : Hid (Own W5 (W3.heap.size) (W4.heap.size) 9 (.slice ao_n L_n cap_n) (ss L)) := Own.later o_n4.out b5 (by omega)
 clear r_h4 r_res4 r_out4 o_s4 o_p4 o_n4
 by_cases hC : C = 0
 ·
  obtain ⟨hH, hRR⟩ := HH.out hC
  have HN : Hid (R = (⟨L, H, b ++ Pb, s⟩, 0)) := hRR
  clear hRR hH
  subst hC
  go_wp2_with ((try rw [HW5.out]); refine wpl_partG rfl 31 _ _ rfl (W2.heap.size) 0 (lc (.slice ao_n L_n cap_n) H) rfl rfl [.slice ao_s L_s cap_s, .int .i64 h.n, .string h.r, .slice ao_p L_p cap_p, .int .i64 s] 37 r_out5.out (Nat.le_of_ble_eq_true rfl) (sizeL _ _) (oneL _ rfl) [.slice ao_n L_n cap_n, .int .i64 H.n, .string H.r, .slice ao_p L_p cap_p, .int .i64 s] rfl ?_)
  intro W6 r_out6 g6
  have r_out6 : Hid (W6.heap[W2.heap.size]? = some (.cells #[.slice ao_n L_n cap_n, .int .i64 H.n, .string H.r, .slice ao_p L_p cap_p, .int .i64 s] 37 (0, 0))) := r_out6
  have z6 : W5.heap.size ≤ W6.heap.size := g6.size
  have B6 : Hid (Below w.heap.size w W6) := belowGro B5.out g6 B5.out.size (fun k9 h9 => by injection h9 with h9; have := B5.out.size; omega)
  have r_h6 : Hid (W6.heap[w.heap.size + 1]? = some (.cells #[.int .i64 hd.n, .string hd.r] 28 (0, 0))) := rowGro r_h5.out g6 (fun h9 => by injection h9 with h9; omega)
  have r_res6 : Hid (W6.heap[w.heap.size + 1 + 1]? = some (.cells #[.slice none 0 0, .int .i64 0, .string ⟨#[]⟩, .slice none 0 0, .int .i64 0] 37 (0, 0))) := rowGro r_res5.out g6 (fun h9 => by injection h9 with h9; omega)
  have o_p6 : Hid (Own W6 (W1.heap.size) (W2.heap.size) 5 (.slice ao_p L_p cap_p) (bs b)) := Own.gro o_p5.out g6 (fun k9 h9 e9 => Own.neRow o_p5.out r_out5.out (by decide) (h9.trans e9.symm))
  have o_n6 : Hid (Own W6 (W3.heap.size) (W4.heap.size) 9 (.slice ao_n L_n cap_n) (ss L)) := Own.gro o_n5.out g6 (fun k9 h9 e9 => Own.neRow o_n5.out r_out5.out (by decide) (h9.trans e9.symm))
  have c_h6_0 : W6.cell? ⟨w.heap.size + 1, 0, none⟩ = some (.int .i64 hd.n) := row_at r_h6.out 0
  have c_h6_1 : W6.cell? ⟨w.heap.size + 1, 1, none⟩ = some (.string hd.r) := row_at r_h6.out 1
  have c_out6_3 : W6.cell? ⟨W2.heap.size, 3, none⟩ = some (.slice ao_p L_p cap_p) := row_at r_out6.out 3
  clear r_h5 r_res5 r_l5 o_s5 o_p5 o_n5
  clear r_out5
  clear g6
  go_wp2_with fail
  refine wp_region_held_drew (S := fun w' => w'.cell? ⟨w.heap.size + 1, 0, none⟩ = some (.int .i64 hd.n) ∧ w'.cell? ⟨w.heap.size + 1, 1, none⟩ = some (.string hd.r)) (by kernel_rfl) ⟨c_h6_0, c_h6_1⟩ (fun hHeld => ?_)
  (refine wpAnyH_take (i := 0) (v := ?v0x1) rfl (by kernel_rfl) (by kernel_rfl) (by kernel_rfl) (fun _ _ _ h => h) (Or.inl ⟨by rfl, ?hy0x1⟩) (by assumption) ?rest0x1; case hy0x1 => (intro w hSw; (try dsimp only at hSw); go_split_ands; go_simp; (try with_reducible rfl)))
  try simp only [Act.put, pu1, pu2, pu3, pu4, pu5, pu6]
  (refine wpAnyH_take (i := 2) (v := ?v2x2) rfl (by kernel_rfl) (by kernel_rfl) (by kernel_rfl) (fun _ _ _ h => h) (Or.inl ⟨by rfl, ?hy2x2⟩) (by assumption) ?rest2x2; case hy2x2 => (intro w hSw; (try dsimp only at hSw); go_split_ands; go_simp; (try with_reducible rfl)))
  try simp only [Act.put, pu1, pu2, pu3, pu4, pu5, pu6]
  (refine wpAnyH_take (i := 3) (v := ?v3x3) rfl (by kernel_rfl) (by kernel_rfl) (by kernel_rfl) (fun _ _ _ h => h) (Or.inl ⟨by rfl, ?hy3x3⟩) (by assumption) ?rest3x3; case hy3x3 => (intro w hSw; (try dsimp only at hSw); go_split_ands; go_simp; (try with_reducible rfl)))
  try simp only [Act.put, pu1, pu2, pu3, pu4, pu5, pu6]
  refine wpAnyH_ready (rs := [1, 4]) (by kernel_rfl) (by simp) ?_
  refine AllReadyH.cons rfl (fun K hK => ?_) (AllReadyH.cons rfl (fun K hK => ?_) AllReadyH.nil)
  ·
   have cd_h_0 : W6.drew.cell? ⟨w.heap.size + 1, 0, none⟩ = some (.int .i64 hd.n) := c_h6_0
   have cd_out_3 : W6.drew.cell? ⟨W2.heap.size, 3, none⟩ = some (.slice ao_p L_p cap_p) := c_out6_3
   go_simp
   refine hK.out _ _ ⟨hHeld.1, hHeld.2⟩ (fun hHeld => ?_)
   clear hK K
   try simp only [Act.put, pu1, pu2, pu3, pu4, pu5, pu6]
   clear cd_h_0 cd_out_3
   refine wpAnyH_ready (rs := [4]) (by kernel_rfl) (by simp) ?_
   refine AllReadyH.cons rfl (fun K hK => ?_) AllReadyH.nil
   go_simp
   refine (q3 W6.drew _ (Sl.later (w := W6) (HX.out.later B6.out) (Below.drew (Below.refl _ _)))).mono ?_
   rintro e W7 ⟨v_u, rfl, o_u7, b7⟩
   have b7 : Below W6.heap.size W6 W7 := (Below.drew (Below.refl _ _)).trans b7
   refine hK.out _ _ ⟨(keepR (W := W6) hHeld.1 b7), (keepR (W := W6) hHeld.2 b7)⟩ (fun hHeld => ?_)
   clear hK K
   try simp only [Act.put, pu1, pu2, pu3, pu4, pu5, pu6]
   have o_u7 : Own W7 W6.heap.size W7.heap.size 5 _ _ := o_u7
   obtain ⟨ao_u, L_u, cap_u, rfl, hL_u, hM_u⟩ := o_u7.form
   have o_u7 : Hid (Own W7 W6.heap.size W7.heap.size 5 (.slice ao_u L_u cap_u) (bs Pb)) := o_u7
   clear hL_u hM_u
   have z7 : W6.heap.size ≤ W7.heap.size := b7.size
   have B7 : Hid (Below w.heap.size w W7) := B6.out.trans (b7.mono B6.out.size)
   have r_h7 : Hid (W7.heap[w.heap.size + 1]? = some (.cells #[.int .i64 hd.n, .string hd.r] 28 (0, 0))) := rowKeep r_h6.out b7
   have r_res7 : Hid (W7.heap[w.heap.size + 1 + 1]? = some (.cells #[.slice none 0 0, .int .i64 0, .string ⟨#[]⟩, .slice none 0 0, .int .i64 0] 37 (0, 0))) := rowKeep r_res6.out b7
   have r_out7 : Hid (W7.heap[W2.heap.size]? = some (.cells #[.slice ao_n L_n cap_n, .int .i64 H.n, .string H.r, .slice ao_p L_p cap_p, .int .i64 s] 37 (0, 0))) := rowKeep r_out6.out b7
   have o_p7 : Hid (Own W7 (W1.heap.size) (W2.heap.size) 5 (.slice ao_p L_p cap_p) (bs b)) := Own.later o_p6.out b7 (by omega)
   have o_n7 : Hid (Own W7 (W3.heap.size) (W4.heap.size) 9 (.slice ao_n L_n cap_n) (ss L)) := Own.later o_n6.out b7 (by omega)
   clear r_h6 c_h6_0 c_h6_1 r_res6 r_out6 c_out6_3 o_p6 o_n6
   refine wpAnyH_ready (rs := [5]) (by kernel_rfl) (by simp) ?_
   refine AllReadyH.cons rfl (fun K hK => ?_) AllReadyH.nil
   have c6_8 : (bs b).length + (bs Pb).length ≤ maxLen := by rw [bs_len, bs_len]; unfold maxLen; (try simp only [List.length_nil]); omega
   have c7_8 : ((bs b).length + (bs Pb).length) * 1 ≤ 140737488355328 := by rw [bs_len, bs_len]; (try simp only [List.length_nil]); omega
   refine step_appG (by rfl) (.tmp 31) (.tmp 34) 22 (by rfl) 5 i5 (.int .u8 0) 1 Tryz.underlying22 hi5 hz5a hz5b hz5c rfl (W1.heap.size) _ (bs b) (by rfl) (Own.mono o_p7.out (Nat.le_refl _) (by omega)) _ (by rfl) (bs Pb) (o_u7.out.sl) (bs_one Pb) c6_8 c7_8 (by omega) ?_
   intro v_y W8 o_y8 g8
   refine hK.out _ _ ⟨(cellGro hHeld.1 g8 (Own.neRow o_p7.out r_h7.out (by decide))), (cellGro hHeld.2 g8 (Own.neRow o_p7.out r_h7.out (by decide)))⟩ (fun hHeld => ?_)
   clear hK K
   try simp only [Act.put, pu1, pu2, pu3, pu4, pu5, pu6]
   have o_y8 : Own W8 (W1.heap.size) W8.heap.size 5 v_y (bs (b ++ Pb)) := by show Own _ _ _ _ _ _; rw [bs_app]; exact o_y8
   have o_y8h : Hid (Own W8 (W1.heap.size) W8.heap.size 5 v_y (bs (b ++ Pb))) := o_y8
   clear o_y8
   have o_y8 := o_y8h
   clear o_y8h
   obtain ⟨ao_y, L_y, cap_y, rfl, _, _⟩ := Mem.Own.form o_y8.out
   have z8 : W7.heap.size ≤ W8.heap.size := g8.size
   have B8 : Hid (Below w.heap.size w W8) := belowGro B7.out g8 B7.out.size (Own.low o_p7.out (by have := B7.out.size; omega))
   have r_res8 : Hid (W8.heap[w.heap.size + 1 + 1]? = some (.cells #[.slice none 0 0, .int .i64 0, .string ⟨#[]⟩, .slice none 0 0, .int .i64 0] 37 (0, 0))) := rowGro r_res7.out g8 (Own.neRow o_p7.out r_res7.out (by decide))
   have r_out8 : Hid (W8.heap[W2.heap.size]? = some (.cells #[.slice ao_n L_n cap_n, .int .i64 H.n, .string H.r, .slice ao_p L_p cap_p, .int .i64 s] 37 (0, 0))) := rowGro r_out7.out g8 (Own.neRow o_p7.out r_out7.out (by decide))
   have o_n8 : Hid (Own W8 (W3.heap.size) (W4.heap.size) 9 (.slice ao_n L_n cap_n) (ss L)) := Own.gro o_n7.out g8 (Own.neOwn o_p7.out o_n7.out (by decide))
   clear r_h7 r_res7 r_out7 o_p7 o_n7 o_u7
   clear g8 c6_8 c7_8
   (refine wpAnyH_take (i := 6) (v := ?v6x4) rfl (by kernel_rfl) (by kernel_rfl) (by kernel_rfl) (fun _ _ _ h => h) (Or.inl ⟨by rfl, ?hy6x4⟩) (by assumption) ?rest6x4; case hy6x4 => (intro w hSw; (try dsimp only at hSw); go_split_ands; go_simp; (try with_reducible rfl)))
   try simp only [Act.put, pu1, pu2, pu3, pu4, pu5, pu6]
   refine wpAnyH_ready (rs := [7]) (by kernel_rfl) (by simp) ?_
   refine AllReadyH.cons rfl (fun K hK => ?_) AllReadyH.nil
   rw [if_pos (by rfl)]
   refine wp_oneG 22 _ _ rfl (W2.heap.size) 3 (.slice ao_y L_y cap_y) rfl rfl [.slice ao_n L_n cap_n, .int .i64 H.n, .string H.r, .slice ao_p L_p cap_p, .int .i64 s] 37 r_out8.out (Nat.le_of_ble_eq_true rfl) (by kernel_rfl) rfl [.slice ao_n L_n cap_n, .int .i64 H.n, .string H.r, .slice ao_y L_y cap_y, .int .i64 s] rfl ?_
   intro W9 r_out9 g9
   refine hK.out _ _ ⟨(cellGro hHeld.1 g9 (by show some (W2.heap.size) ≠ some (w.heap.size + 1); intro h9; injection h9 with h9; omega)), (cellGro hHeld.2 g9 (by show some (W2.heap.size) ≠ some (w.heap.size + 1); intro h9; injection h9 with h9; omega))⟩ (fun hHeld => ?_)
   clear hK K
   try simp only [Act.put, pu1, pu2, pu3, pu4, pu5, pu6]
   have r_out9 : Hid (W9.heap[W2.heap.size]? = some (.cells #[.slice ao_n L_n cap_n, .int .i64 H.n, .string H.r, .slice ao_y L_y cap_y, .int .i64 s] 37 (0, 0))) := r_out9
   have z9 : W8.heap.size ≤ W9.heap.size := g9.size
   have B9 : Hid (Below w.heap.size w W9) := belowGro B8.out g9 B8.out.size (fun k9 h9 => by injection h9 with h9; have := B8.out.size; omega)
   have r_res9 : Hid (W9.heap[w.heap.size + 1 + 1]? = some (.cells #[.slice none 0 0, .int .i64 0, .string ⟨#[]⟩, .slice none 0 0, .int .i64 0] 37 (0, 0))) := rowGro r_res8.out g9 (fun h9 => by injection h9 with h9; omega)
   have o_n9 : Hid (Own W9 (W3.heap.size) (W4.heap.size) 9 (.slice ao_n L_n cap_n) (ss L)) := Own.gro o_n8.out g9 (fun k9 h9 e9 => Own.neRow o_n8.out r_out8.out (by decide) (h9.trans e9.symm))
   have o_y9 : Hid (Own W9 (W1.heap.size) (W8.heap.size) 5 (.slice ao_y L_y cap_y) (bs (b ++ Pb))) := Own.gro o_y8.out g9 (fun k9 h9 e9 => Own.neRow o_y8.out r_out8.out (by decide) (h9.trans e9.symm))
   clear r_res8 o_n8 o_y8
   clear r_out8
   clear g9
   refine wpAnyH_done (by kernel_rfl) ?_ _
   clear hHeld
   go_wp2_with (first | (refine wpList_load_row rfl 37 _ rfl (W2.heap.size) rfl 37 (sc (.slice ao_n L_n cap_n) H (.slice ao_y L_y cap_y) s) (0, 0) _ r_out9.out Tryz.underlying37 rfl (sizeS _ _ _ _) ?_) | (refine wpList_store_row rfl 37 _ _ rfl (w.heap.size + 1 + 1) (sc (.slice ao_n L_n cap_n) H (.slice ao_y L_y cap_y) s) rfl rfl 37 _ r_res9.out (sizeS _ _ _ _) rfl (oneS _ _ rfl rfl) ?_))
   refine bodyPost_ret (res_row_tmp rfl _ _ (w.heap.size + 1 + 1) 37 (sc (.slice ao_n L_n cap_n) H (.slice ao_y L_y cap_y) s) (0, 0) _ rfl (setRow_heap _ _ _ _ _ (0, 0) r_res9.out) Tryz.underlying37 rfl (sizeS _ _ _ _)) rfl ⟨.slice ao_n L_n cap_n, .slice ao_y L_y cap_y, by rw [HN.out]; rfl, ?_, ?_, below_setRow B9.out (by omega) _⟩
   ·
    rw [HN.out]
    exact (Own.setRow o_n9.out _ (by omega)).mono (by omega) (by rw [size_setRow]; omega)
   ·
    rw [HN.out]
    exact (Own.setRow o_y9.out _ (by omega)).mono (by omega) (by rw [size_setRow]; omega)
  ·
   go_simp
   refine (q3 W6.drew _ (Sl.later (w := W6) (HX.out.later B6.out) (Below.drew (Below.refl _ _)))).mono ?_
   rintro e W7 ⟨v_u, rfl, o_u7, b7⟩
   have b7 : Below W6.heap.size W6 W7 := (Below.drew (Below.refl _ _)).trans b7
   refine hK.out _ _ ⟨(keepR (W := W6) hHeld.1 b7), (keepR (W := W6) hHeld.2 b7)⟩ (fun hHeld => ?_)
   clear hK K
   try simp only [Act.put, pu1, pu2, pu3, pu4, pu5, pu6]
   have o_u7 : Own W7 W6.heap.size W7.heap.size 5 _ _ := o_u7
   obtain ⟨ao_u, L_u, cap_u, rfl, hL_u, hM_u⟩ := o_u7.form
   have o_u7 : Hid (Own W7 W6.heap.size W7.heap.size 5 (.slice ao_u L_u cap_u) (bs Pb)) := o_u7
   clear hL_u hM_u
   have z7 : W6.heap.size ≤ W7.heap.size := b7.size
   have B7 : Hid (Below w.heap.size w W7) := B6.out.trans (b7.mono B6.out.size)
   have r_h7 : Hid (W7.heap[w.heap.size + 1]? = some (.cells #[.int .i64 hd.n, .string hd.r] 28 (0, 0))) := rowKeep r_h6.out b7
   have r_res7 : Hid (W7.heap[w.heap.size + 1 + 1]? = some (.cells #[.slice none 0 0, .int .i64 0, .string ⟨#[]⟩, .slice none 0 0, .int .i64 0] 37 (0, 0))) := rowKeep r_res6.out b7
   have r_out7 : Hid (W7.heap[W2.heap.size]? = some (.cells #[.slice ao_n L_n cap_n, .int .i64 H.n, .string H.r, .slice ao_p L_p cap_p, .int .i64 s] 37 (0, 0))) := rowKeep r_out6.out b7
   have o_p7 : Hid (Own W7 (W1.heap.size) (W2.heap.size) 5 (.slice ao_p L_p cap_p) (bs b)) := Own.later o_p6.out b7 (by omega)
   have o_n7 : Hid (Own W7 (W3.heap.size) (W4.heap.size) 9 (.slice ao_n L_n cap_n) (ss L)) := Own.later o_n6.out b7 (by omega)
   have c_out7_3 : W7.cell? ⟨W2.heap.size, 3, none⟩ = some (.slice ao_p L_p cap_p) := row_at r_out7.out 3
   clear r_h6 c_h6_0 c_h6_1 r_res6 r_out6 c_out6_3 o_p6 o_n6
   refine wpAnyH_ready (rs := [1]) (by kernel_rfl) (by simp) ?_
   refine AllReadyH.cons rfl (fun K hK => ?_) AllReadyH.nil
   go_simp
   refine hK.out _ _ ⟨hHeld.1, hHeld.2⟩ (fun hHeld => ?_)
   clear hK K
   try simp only [Act.put, pu1, pu2, pu3, pu4, pu5, pu6]
   refine wpAnyH_ready (rs := [5]) (by kernel_rfl) (by simp) ?_
   refine AllReadyH.cons rfl (fun K hK => ?_) AllReadyH.nil
   have c6_8 : (bs b).length + (bs Pb).length ≤ maxLen := by rw [bs_len, bs_len]; unfold maxLen; (try simp only [List.length_nil]); omega
   have c7_8 : ((bs b).length + (bs Pb).length) * 1 ≤ 140737488355328 := by rw [bs_len, bs_len]; (try simp only [List.length_nil]); omega
   refine step_appG (by rfl) (.tmp 31) (.tmp 34) 22 (by rfl) 5 i5 (.int .u8 0) 1 Tryz.underlying22 hi5 hz5a hz5b hz5c rfl (W1.heap.size) _ (bs b) (by rfl) (Own.mono o_p7.out (Nat.le_refl _) (by omega)) _ (by rfl) (bs Pb) (o_u7.out.sl) (bs_one Pb) c6_8 c7_8 (by omega) ?_
   intro v_y W8 o_y8 g8
   refine hK.out _ _ ⟨(cellGro hHeld.1 g8 (Own.neRow o_p7.out r_h7.out (by decide))), (cellGro hHeld.2 g8 (Own.neRow o_p7.out r_h7.out (by decide)))⟩ (fun hHeld => ?_)
   clear hK K
   try simp only [Act.put, pu1, pu2, pu3, pu4, pu5, pu6]
   have o_y8 : Own W8 (W1.heap.size) W8.heap.size 5 v_y (bs (b ++ Pb)) := by show Own _ _ _ _ _ _; rw [bs_app]; exact o_y8
   have o_y8h : Hid (Own W8 (W1.heap.size) W8.heap.size 5 v_y (bs (b ++ Pb))) := o_y8
   clear o_y8
   have o_y8 := o_y8h
   clear o_y8h
   obtain ⟨ao_y, L_y, cap_y, rfl, _, _⟩ := Mem.Own.form o_y8.out
   have z8 : W7.heap.size ≤ W8.heap.size := g8.size
   have B8 : Hid (Below w.heap.size w W8) := belowGro B7.out g8 B7.out.size (Own.low o_p7.out (by have := B7.out.size; omega))
   have r_res8 : Hid (W8.heap[w.heap.size + 1 + 1]? = some (.cells #[.slice none 0 0, .int .i64 0, .string ⟨#[]⟩, .slice none 0 0, .int .i64 0] 37 (0, 0))) := rowGro r_res7.out g8 (Own.neRow o_p7.out r_res7.out (by decide))
   have r_out8 : Hid (W8.heap[W2.heap.size]? = some (.cells #[.slice ao_n L_n cap_n, .int .i64 H.n, .string H.r, .slice ao_p L_p cap_p, .int .i64 s] 37 (0, 0))) := rowGro r_out7.out g8 (Own.neRow o_p7.out r_out7.out (by decide))
   have o_n8 : Hid (Own W8 (W3.heap.size) (W4.heap.size) 9 (.slice ao_n L_n cap_n) (ss L)) := Own.gro o_n7.out g8 (Own.neOwn o_p7.out o_n7.out (by decide))
   clear r_h7 r_res7 r_out7 c_out7_3 o_p7 o_n7 o_u7
   clear g8 c6_8 c7_8
   (refine wpAnyH_take (i := 6) (v := ?v6x5) rfl (by kernel_rfl) (by kernel_rfl) (by kernel_rfl) (fun _ _ _ h => h) (Or.inl ⟨by rfl, ?hy6x5⟩) (by assumption) ?rest6x5; case hy6x5 => (intro w hSw; (try dsimp only at hSw); go_split_ands; go_simp; (try with_reducible rfl)))
   try simp only [Act.put, pu1, pu2, pu3, pu4, pu5, pu6]
   refine wpAnyH_ready (rs := [7]) (by kernel_rfl) (by simp) ?_
   refine AllReadyH.cons rfl (fun K hK => ?_) AllReadyH.nil
   rw [if_pos (by rfl)]
   refine wp_oneG 22 _ _ rfl (W2.heap.size) 3 (.slice ao_y L_y cap_y) rfl rfl [.slice ao_n L_n cap_n, .int .i64 H.n, .string H.r, .slice ao_p L_p cap_p, .int .i64 s] 37 r_out8.out (Nat.le_of_ble_eq_true rfl) (by kernel_rfl) rfl [.slice ao_n L_n cap_n, .int .i64 H.n, .string H.r, .slice ao_y L_y cap_y, .int .i64 s] rfl ?_
   intro W9 r_out9 g9
   refine hK.out _ _ ⟨(cellGro hHeld.1 g9 (by show some (W2.heap.size) ≠ some (w.heap.size + 1); intro h9; injection h9 with h9; omega)), (cellGro hHeld.2 g9 (by show some (W2.heap.size) ≠ some (w.heap.size + 1); intro h9; injection h9 with h9; omega))⟩ (fun hHeld => ?_)
   clear hK K
   try simp only [Act.put, pu1, pu2, pu3, pu4, pu5, pu6]
   have r_out9 : Hid (W9.heap[W2.heap.size]? = some (.cells #[.slice ao_n L_n cap_n, .int .i64 H.n, .string H.r, .slice ao_y L_y cap_y, .int .i64 s] 37 (0, 0))) := r_out9
   have z9 : W8.heap.size ≤ W9.heap.size := g9.size
   have B9 : Hid (Below w.heap.size w W9) := belowGro B8.out g9 B8.out.size (fun k9 h9 => by injection h9 with h9; have := B8.out.size; omega)
   have r_res9 : Hid (W9.heap[w.heap.size + 1 + 1]? = some (.cells #[.slice none 0 0, .int .i64 0, .string ⟨#[]⟩, .slice none 0 0, .int .i64 0] 37 (0, 0))) := rowGro r_res8.out g9 (fun h9 => by injection h9 with h9; omega)
   have o_n9 : Hid (Own W9 (W3.heap.size) (W4.heap.size) 9 (.slice ao_n L_n cap_n) (ss L)) := Own.gro o_n8.out g9 (fun k9 h9 e9 => Own.neRow o_n8.out r_out8.out (by decide) (h9.trans e9.symm))
   have o_y9 : Hid (Own W9 (W1.heap.size) (W8.heap.size) 5 (.slice ao_y L_y cap_y) (bs (b ++ Pb))) := Own.gro o_y8.out g9 (fun k9 h9 e9 => Own.neRow o_y8.out r_out8.out (by decide) (h9.trans e9.symm))
   clear r_res8 o_n8 o_y8
   clear r_out8
   clear g9
   refine wpAnyH_done (by kernel_rfl) ?_ _
   clear hHeld
   go_wp2_with (first | (refine wpList_load_row rfl 37 _ rfl (W2.heap.size) rfl 37 (sc (.slice ao_n L_n cap_n) H (.slice ao_y L_y cap_y) s) (0, 0) _ r_out9.out Tryz.underlying37 rfl (sizeS _ _ _ _) ?_) | (refine wpList_store_row rfl 37 _ _ rfl (w.heap.size + 1 + 1) (sc (.slice ao_n L_n cap_n) H (.slice ao_y L_y cap_y) s) rfl rfl 37 _ r_res9.out (sizeS _ _ _ _) rfl (oneS _ _ rfl rfl) ?_))
   refine bodyPost_ret (res_row_tmp rfl _ _ (w.heap.size + 1 + 1) 37 (sc (.slice ao_n L_n cap_n) H (.slice ao_y L_y cap_y) s) (0, 0) _ rfl (setRow_heap _ _ _ _ _ (0, 0) r_res9.out) Tryz.underlying37 rfl (sizeS _ _ _ _)) rfl ⟨.slice ao_n L_n cap_n, .slice ao_y L_y cap_y, by rw [HN.out]; rfl, ?_, ?_, below_setRow B9.out (by omega) _⟩
   ·
    rw [HN.out]
    exact (Own.setRow o_n9.out _ (by omega)).mono (by omega) (by rw [size_setRow]; omega)
   ·
    rw [HN.out]
    exact (Own.setRow o_y9.out _ (by omega)).mono (by omega) (by rw [size_setRow]; omega)
 ·
  have cn : (C == 0) = false := by rw [beq_eq_false_iff_ne]; exact hC
  have cm : (C != 0) = true := by rw [bne, cn]; rfl
  have HN : Hid (R = (⟨l, h, b, s⟩, C)) := HG.out hC
  go_wp2_with (first | ((try rw [HW5.out]); refine wpList_load_row rfl 37 _ rfl (W2.heap.size) rfl 37 (sc (.slice ao_s L_s cap_s) h (.slice ao_p L_p cap_p) s) (0, 0) _ r_out5.out Tryz.underlying37 rfl (sizeS _ _ _ _) ?_) | (refine wpList_store_row rfl 37 _ _ rfl (w.heap.size + 1 + 1) (sc (.slice ao_s L_s cap_s) h (.slice ao_p L_p cap_p) s) rfl rfl 37 _ r_res5.out (sizeS _ _ _ _) rfl (oneS _ _ rfl rfl) ?_))
  refine bodyPost_ret (res_row_tmp rfl _ _ (w.heap.size + 1 + 1) 37 (sc (.slice ao_s L_s cap_s) h (.slice ao_p L_p cap_p) s) (0, 0) _ rfl (setRow_heap _ _ _ _ _ (0, 0) r_res5.out) Tryz.underlying37 rfl (sizeS _ _ _ _)) rfl ⟨.slice ao_s L_s cap_s, .slice ao_p L_p cap_p, by rw [HN.out]; rfl, ?_, ?_, below_setRow B5.out (by omega) _⟩
  ·
   rw [HN.out]
   exact (Own.setRow o_s5.out _ (by omega)).mono (by omega) (by rw [size_setRow]; omega)
  ·
   rw [HN.out]
   exact (Own.setRow o_p5.out _ (by omega)).mono (by omega) (by rw [size_setRow]; omega)
end Go.Proofs.YtfpaichdkddglaaGreatDoor.Sr
