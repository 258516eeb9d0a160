/- Texts in one: SrD, SrG. -/
import Derived.Test.YtchonoonclllbabGreatDoorPa6
import Derived.Test.YtchonoonclllbabGreatDoorPa13
import Derived.Test.YtchonoonclllbabGreatDoorPa5
import Derived.Test.YtchonoonclllbabGreatDoorPa17
namespace Go.Proofs.YtchonoonclllbabGreatDoor.Sr
open Go.RowKit Go.Proofs.YtchonoonclllbabGreatDoor.Mem Go.Proofs.YtchonoonclllbabGreatDoor.Laws Go.Proofs.YtchonoonclllbabGreatDoor.Bytes Go.Proofs.YtchonoonclllbabGreatDoor.Sha Go.Proofs.YtchonoonclllbabGreatDoor.Tr Go.Proofs.YtchonoonclllbabGreatDoor.He Go.Proofs.YtchonoonclllbabGreatDoor.Lg
set_option linter.unusedVariables false
set_option linter.unusedSimpArgs false
set_option maxRecDepth 1000000 in
set_option maxHeartbeats 8000000 in
theorem commit1_spec (w : World) (v vb vt vx : Value) (st : Sto) (t : List Hd) (hd : Hd) (x : List ByteArray) (hs : Sl w v (ss st.l)) (hb : Sl w vb (bs st.b)) (hst : Sh w vt t) (hsx : Sl w vx (ss x)) (hl : st.l.length ≤ 1000000000) (hbl : st.b.length ≤ 1000000000) (htl : t.length ≤ 1000000000) (hxl : x.length ≤ 1000000000)
  (hz : ∀ s ∈ st.l, s.size ≤ 10000000000) (hzx : ∀ s ∈ x, s.size ≤ 10000000000) (htx : Puts.tot x ≤ 100000000000) (hdr : hd.r.size ≤ 100000000000) :
  Calls Tryz.prog 107 #[.agg #[v, .int .i64 st.h.n, .string st.h.r, vb, .int .i64 st.s], vt, .agg #[.int .i64 hd.n, .string hd.r], vx] w fun e w' => ∃ v' vb', e = .returned (.tuple #[.agg #[v', .int .i64 (commit1 st t hd x).1.h.n, .string (commit1 st t hd x).1.h.r, vb', .int .i64 (commit1 st t hd x).1.s], .int .i64 (commit1 st t hd x).2]) ∧ Own w' w.heap.size w'.heap.size 9 v' (ss (commit1 st t hd x).1.l) ∧ Own w' w.heap.size w'.heap.size 5 vb' (bs (commit1 st t hd x).1.b) ∧ Below w.heap.size w w' := by
 obtain ⟨R, hR⟩ : ∃ R, commit1 st t hd x = R := ⟨_, rfl⟩
 have HR : Hid (commit1 st t hd x = R) := hR
 rw [hR]
 obtain ⟨l, h, b, s⟩ := st
 simp only at *
 have HS : Hid (Sl w v (ss l)) := hs
 have HSB : Hid (Sl w vb (bs b)) := hb
 have HT : Hid (Sh w vt t) := hst
 have HX : Hid (Sl w vx (ss x)) := hsx
 obtain ⟨ao0, cap0, rfl, hc0⟩ := hs.form
 obtain ⟨ao1, cap1, rfl, hc1⟩ := hb.form
 obtain ⟨ao2, cap2, rfl, hc2⟩ := hst.form
 obtain ⟨ao3, cap3, rfl, hc3⟩ := hsx.form
 simp only [ss_len, bs_len] at *
 clear hs hb hst hsx hR
 have B0 : Hid (Below w.heap.size w w) := Below.refl _ _
 obtain ⟨i5, hi5, hz5a, hz5b, hz5c⟩ := info_parts info5
 obtain ⟨W1, HW1, b1, y1, hS1, r_a1, r_h1, r_res1⟩ := Ke.l3 w #[.slice ao0 l.length cap0, .int .i64 h.n, .string h.r, .slice ao1 b.length cap1, .int .i64 s] 42 #[.int .i64 hd.n, .string hd.r] 38 #[.slice none 0 0, .int .i64 0, .string ⟨#[]⟩, .slice none 0 0, .int .i64 0] 42
 have z1 := b1.size
 have B1 := Ke.b B0 b1
 have q1 : ∀ W v1 v2, Sl W v1 (ss l) → Sl W v2 (bs b) → _ := fun W v1 v2 h1 h2 => copy_spec W v1 v2 ⟨l, h, b, s⟩ h1 h2 hl hbl
 have q2 : ∀ W v1 v2 v3, Sl W v1 (ss l) → Sh W v2 t → Sl W v3 (ss x) → _ := fun W v1 v2 v3 h1 h2 h3 => extend_spec W v1 v2 v3 l x h hd t h1 h2 h3 hl htl hxl hz hzx
 have q3 : ∀ W v1, Sl W v1 (ss x) → _ := fun W v1 h1 => put_spec W hd v1 x h1 hxl htx hdr
 obtain ⟨E, hE⟩ : ∃ E, extend l h t hd x = E := ⟨_, rfl⟩
 simp only [hE] at q2
 have HE : Hid (extend l h t hd x = E) := hE
 obtain ⟨L, H, C⟩ := E
 simp only at q1 q2
 obtain ⟨Pb, hPb⟩ : ∃ P, put hd x = P := ⟨_, rfl⟩
 have hPl : Pb.length ≤ 1000000000000 := by rw [← hPb]; have h9 := put_len hd x; have h8 := body_len hd x; omega
 simp only [hPb] at q3
 have HP : Hid (put hd x = Pb) := hPb
 clear hPb hE hz hzx htx hdr
 have HH : Hid (C = 0 → H = hd ∧ R = (⟨L, H, b ++ Pb, s⟩, 0)) := by
  intro hC
  obtain ⟨_, _, _, _, _, _, h7⟩ := extend_good (l := l) (x := x) (hd := h) (h := hd) (t := t) (by rw [HE.out]; exact hC)
  rw [HE.out] at h7
  simp only [Prod.mk.injEq] at h7
  refine ⟨h7.2.1, ?_⟩
  rw [← HR.out]
  unfold commit1
  simp only
  rw [HE.out, if_pos hC, HP.out]
 have HG : Hid (¬ C = 0 → R = (⟨l, h, b, s⟩, C)) := by
  intro hC
  rw [← HR.out]
  unfold commit1
  simp only
  rw [HE.out, if_neg hC]
 go_enter Tryz.func107, Tryz.ntmps107
 go_wp2_with fail
 rw [HW1.out]
 refine (q1 W1 _ _ (HS.out.later B1.out) (HSB.out.later B1.out)).mono ?_
 rintro e W2 ⟨v_s, v_p, rfl, o_s2, o_p2, b2⟩
 obtain ⟨ao_s, L_s, cap_s, rfl, hL_s, hM_s⟩ := o_s2.form
 have o_s2 : Hid (Own W2 W1.heap.size W2.heap.size 9 (.slice ao_s L_s cap_s) (ss l)) := o_s2
 clear hL_s hM_s
 have z2 := b2.size
 have B2 := Ke.b B1 b2
 have r_a2 := Ke.r r_a1 b2
 have r_h2 := Ke.r r_h1 b2
 have r_res2 := Ke.r r_res1 b2
 have c_a2 := Ke.c r_a2
 have c_h2 := Ke.c r_h2
 clear r_a1 r_h1 r_res1
 obtain ⟨ao_p, L_p, cap_p, rfl, _, _⟩ := o_p2.form
 have o_p2 : Hid (Own W2 W1.heap.size W2.heap.size 5 (.slice ao_p L_p cap_p) (bs b)) := o_p2
 have a_a2 := Ke.a r_a2
 have a_h2 := Ke.a r_h2
 obtain ⟨W3, HW3, b3, y3, hS3, r_out3⟩ := Ke.l1 W2 #[.slice ao_s L_s cap_s, .int .i64 h.n, .string h.r, .slice ao_p L_p cap_p, .int .i64 s] 42
 have z3 := b3.size
 have B3 := Ke.b B2 b3
 have r_h3 := Ke.r r_h2 b3
 have r_res3 := Ke.r r_res2 b3
 have o_s3 := Ke.o o_s2 b3
 have o_p3 := Ke.o o_p2 b3
 clear r_a2 c_a2 r_h2 c_h2 r_res2 o_s2 o_p2
 go_wp2_with fail
 rw [HW3.out]
 clear a_a2 a_h2
 refine (q2 W3 _ _ _ (HS.out.later B3.out) (HT.out.later B3.out) (HX.out.later B3.out)).mono ?_
 rintro e W4 ⟨v_n, rfl, o_n4, b4⟩
 obtain ⟨ao_n, L_n, cap_n, rfl, hL_n, hM_n⟩ := o_n4.form
 have o_n4 : Hid (Own W4 W3.heap.size W4.heap.size 9 (.slice ao_n L_n cap_n) (ss L)) := o_n4
 clear hL_n hM_n
 have z4 := b4.size
 have B4 := Ke.b B3 b4
 have r_h4 := Ke.r r_h3 b4
 have r_res4 := Ke.r r_res3 b4
 have r_out4 := Ke.r r_out3 b4
 have o_s4 := Ke.o o_s3 b4
 have o_p4 := Ke.o o_p3 b4
 clear r_h3 r_res3 r_out3 o_s3 o_p3
 obtain ⟨W5, HW5, b5, y5, hS5, r_l5⟩ := Ke.l1 W4 #[.slice ao_n L_n cap_n, .int .i64 H.n, .string H.r] 40
 have z5 := b5.size
 have B5 := Ke.b B4 b5
 have r_h5 := Ke.r r_h4 b5
 have r_res5 := Ke.r r_res4 b5
 have r_out5 := Ke.r r_out4 b5
 have o_s5 := Ke.o o_s4 b5
 have o_p5 := Ke.o o_p4 b5
 have o_n5 := Ke.o o_n4 b5
 clear r_h4 r_res4 r_out4 o_s4 o_p4 o_n4
 by_cases hC : C = 0
 ·
  obtain ⟨hH, hRR⟩ := HH.out hC
  have HN : Hid (R = (⟨L, H, b ++ Pb, s⟩, 0)) := hRR
  have HEq : Hid (H = hd) := hH
  clear hRR hH
  subst hC
  go_wp2_with ((try rw [HW5.out]); refine wpl_partG rfl 40 _ _ rfl (W2.heap.size) 0 (lc (.slice ao_n L_n cap_n) H) rfl rfl [.slice ao_s L_s cap_s, .int .i64 h.n, .string h.r, .slice ao_p L_p cap_p, .int .i64 s] 42 r_out5.out (Nat.le_of_ble_eq_true rfl) (sizeL _ _) (oneL _ rfl) [.slice ao_n L_n cap_n, .int .i64 H.n, .string H.r, .slice ao_p L_p cap_p, .int .i64 s] rfl ?_)
  intro W6 r_out6 g6
  have r_out6 := Ke.h r_out6
  have z6 := g6.size
  have B6 : Hid (Below w.heap.size w W6) := belowGro B5.out g6 B5.out.size (fun k9 h9 => by injection h9 with h9; have := B5.out.size; omega)
  have r_h6 := Ke.s r_h5 g6
  have r_res6 := Ke.s r_res5 g6
  have o_p6 := Ke.t o_p5 r_out5 g6
  have o_n6 := Ke.t o_n5 r_out5 g6
  have c_h6 := Ke.c r_h6
  have c_res6 := Ke.c r_res6
  have c_out6 := Ke.c r_out6
  clear r_h5 r_res5 r_l5 o_s5 o_p5 o_n5
  clear r_out5
  clear g6
  go_wp2_with fail
  refine wp_region_held_drew (S := fun w' => w'.cell? ⟨w.heap.size + 1, 0, none⟩ = some (.int .i64 hd.n) ∧ w'.cell? ⟨w.heap.size + 1, 1, none⟩ = some (.string hd.r)) (by kernel_rfl) ⟨(c_h6 0), (c_h6 1)⟩ (fun hHeld => ?_)
  refine Ke.y 0 rfl (fun _ _ _ h => h) ?_
  try simp only [Act.put, pu1, pu2, pu3, pu4, pu5, pu6]
  refine Ke.y 2 rfl (fun _ _ _ h => h) ?_
  try simp only [Act.put, pu1, pu2, pu3, pu4, pu5, pu6]
  refine Ke.y 3 rfl (fun _ _ _ h => h) ?_
  try simp only [Act.put, pu1, pu2, pu3, pu4, pu5, pu6]
  refine wpAnyH_ready (rs := [1, 4]) (by kernel_rfl) (by simp) ?_
  refine AllReadyH.cons rfl (fun K hK => ?_) (AllReadyH.cons rfl (fun K hK => ?_) AllReadyH.nil)
  ·
   have cd_h_0 : W6.drew.cell? ⟨w.heap.size + 1, 0, none⟩ = some (.int .i64 hd.n) := (c_h6 0)
   have cd_h_1 : W6.drew.cell? ⟨w.heap.size + 1, 1, none⟩ = some (.string hd.r) := (c_h6 1)
   have cd_res_0 : W6.drew.cell? ⟨w.heap.size + 1 + 1, 0, none⟩ = some (.slice none 0 0) := (c_res6 0)
   have cd_res_1 : W6.drew.cell? ⟨w.heap.size + 1 + 1, 1, none⟩ = some (.int .i64 0) := (c_res6 1)
   have cd_res_2 : W6.drew.cell? ⟨w.heap.size + 1 + 1, 2, none⟩ = some (.string ⟨#[]⟩) := (c_res6 2)
   have cd_res_3 : W6.drew.cell? ⟨w.heap.size + 1 + 1, 3, none⟩ = some (.slice none 0 0) := (c_res6 3)
   have cd_res_4 : W6.drew.cell? ⟨w.heap.size + 1 + 1, 4, none⟩ = some (.int .i64 0) := (c_res6 4)
   have cd_out_0 : W6.drew.cell? ⟨W2.heap.size, 0, none⟩ = some (.slice ao_n L_n cap_n) := (c_out6 0)
   have cd_out_1 : W6.drew.cell? ⟨W2.heap.size, 1, none⟩ = some (.int .i64 H.n) := (c_out6 1)
   have cd_out_2 : W6.drew.cell? ⟨W2.heap.size, 2, none⟩ = some (.string H.r) := (c_out6 2)
   have cd_out_3 : W6.drew.cell? ⟨W2.heap.size, 3, none⟩ = some (.slice ao_p L_p cap_p) := (c_out6 3)
   have cd_out_4 : W6.drew.cell? ⟨W2.heap.size, 4, none⟩ = some (.int .i64 s) := (c_out6 4)
   go_simp
   refine hK.out _ _ ⟨hHeld.1, hHeld.2⟩ (fun hHeld => ?_)
   clear hK K
   try simp only [Act.put, pu1, pu2, pu3, pu4, pu5, pu6]
   clear cd_h_0 cd_h_1 cd_res_0 cd_res_1 cd_res_2 cd_res_3 cd_res_4 cd_out_0 cd_out_1 cd_out_2 cd_out_3 cd_out_4
   refine Ke.z 4 rfl (fun K hK => ?_)
   go_simp
   refine (q3 W6.drew _ (Sl.later (w := W6) (HX.out.later B6.out) (Below.drew (Below.refl _ _)))).mono ?_
   rintro e W7 ⟨v_u, rfl, o_u7, b7⟩
   have b7 : Below W6.heap.size W6 W7 := (Below.drew (Below.refl _ _)).trans b7
   refine hK.out _ _ ⟨(keepR (W := W6) hHeld.1 b7), (keepR (W := W6) hHeld.2 b7)⟩ (fun hHeld => ?_)
   clear hK K
   try simp only [Act.put, pu1, pu2, pu3, pu4, pu5, pu6]
   have o_u7 : Own W7 W6.heap.size W7.heap.size 5 _ _ := o_u7
   obtain ⟨ao_u, L_u, cap_u, rfl, hL_u, hM_u⟩ := o_u7.form
   have o_u7 : Hid (Own W7 W6.heap.size W7.heap.size 5 (.slice ao_u L_u cap_u) (bs Pb)) := o_u7
   clear hL_u hM_u
   have z7 := b7.size
   have B7 := Ke.b B6 b7
   have r_h7 := Ke.r r_h6 b7
   have r_res7 := Ke.r r_res6 b7
   have r_out7 := Ke.r r_out6 b7
   have o_p7 := Ke.o o_p6 b7
   have o_n7 := Ke.o o_n6 b7
   have c_out7 := Ke.c r_out7
   clear r_h6 c_h6 r_res6 c_res6 r_out6 c_out6 o_p6 o_n6
   refine Ke.z 5 rfl (fun K hK => ?_)
   have c6_8 : (bs b).length + (bs Pb).length ≤ maxLen := by rw [bs_len, bs_len]; unfold maxLen; (try simp only [List.length_nil]); omega
   have c7_8 : ((bs b).length + (bs Pb).length) * 1 ≤ 140737488355328 := by rw [bs_len, bs_len]; (try simp only [List.length_nil]); omega
   refine step_appG (by rfl) (.tmp 31) (.tmp 34) 27 (by rfl) 5 i5 (.int .u8 0) 1 Tryz.underlying27 hi5 hz5a hz5b hz5c rfl (W1.heap.size) _ (bs b) (by rfl) (Own.mono o_p7.out (Nat.le_refl _) (by omega)) _ (by rfl) (bs Pb) (o_u7.out.sl) (bs_one Pb) c6_8 c7_8 (by omega) ?_
   intro v_y W8 o_y8 g8
   refine hK.out _ _ ⟨(cellGro hHeld.1 g8 (Own.neRow o_p7.out r_h7.out (by decide))), (cellGro hHeld.2 g8 (Own.neRow o_p7.out r_h7.out (by decide)))⟩ (fun hHeld => ?_)
   clear hK K
   try simp only [Act.put, pu1, pu2, pu3, pu4, pu5, pu6]
   have o_y8 : Own W8 (W1.heap.size) W8.heap.size 5 v_y (bs (b ++ Pb)) := by show Own _ _ _ _ _ _; rw [bs_app]; exact o_y8
   have o_y8h : Hid (Own W8 (W1.heap.size) W8.heap.size 5 v_y (bs (b ++ Pb))) := o_y8
   clear o_y8
   have o_y8 := o_y8h
   clear o_y8h
   obtain ⟨ao_y, L_y, cap_y, rfl, _, _⟩ := Mem.Own.form o_y8.out
   have z8 := g8.size
   have B8 : Hid (Below w.heap.size w W8) := belowGro B7.out g8 B7.out.size (Own.low o_p7.out (by have := B7.out.size; omega))
   have r_res8 := Ke.n r_res7 o_p7 g8
   have r_out8 := Ke.n r_out7 o_p7 g8
   have o_n8 : Hid (Own W8 (W3.heap.size) (W4.heap.size) 9 (.slice ao_n L_n cap_n) (ss L)) := Own.gro o_n7.out g8 (Own.neOwn o_p7.out o_n7.out (by decide))
   clear r_h7 r_res7 r_out7 c_out7 o_p7 o_n7 o_u7
   clear g8 c6_8 c7_8
   refine Ke.y 6 rfl (fun _ _ _ h => h) ?_
   try simp only [Act.put, pu1, pu2, pu3, pu4, pu5, pu6]
   refine Ke.z 7 rfl (fun K hK => ?_)
   rw [if_pos (by rfl)]
   refine wp_oneG 27 _ _ rfl (W2.heap.size) 3 (.slice ao_y L_y cap_y) rfl rfl [.slice ao_n L_n cap_n, .int .i64 H.n, .string H.r, .slice ao_p L_p cap_p, .int .i64 s] 42 r_out8.out (Nat.le_of_ble_eq_true rfl) (by kernel_rfl) rfl [.slice ao_n L_n cap_n, .int .i64 H.n, .string H.r, .slice ao_y L_y cap_y, .int .i64 s] rfl ?_
   intro W9 r_out9 g9
   refine hK.out _ _ ⟨(cellGro hHeld.1 g9 (by show some (W2.heap.size) ≠ some (w.heap.size + 1); intro h9; injection h9 with h9; omega)), (cellGro hHeld.2 g9 (by show some (W2.heap.size) ≠ some (w.heap.size + 1); intro h9; injection h9 with h9; omega))⟩ (fun hHeld => ?_)
   clear hK K
   try simp only [Act.put, pu1, pu2, pu3, pu4, pu5, pu6]
   have r_out9 : Hid (W9.heap[W2.heap.size]? = some (.cells #[.slice ao_n L_n cap_n, .int .i64 H.n, .string H.r, .slice ao_y L_y cap_y, .int .i64 s] 42 (0, 0))) := r_out9
   have z9 := g9.size
   have B9 : Hid (Below w.heap.size w W9) := belowGro B8.out g9 B8.out.size (fun k9 h9 => by injection h9 with h9; have := B8.out.size; omega)
   have r_res9 := Ke.s r_res8 g9
   have o_n9 := Ke.t o_n8 r_out8 g9
   have o_y9 := Ke.t o_y8 r_out8 g9
   clear r_res8 o_n8 o_y8
   clear r_out8
   clear g9
   refine wpAnyH_done (by kernel_rfl) ?_ _
   clear hHeld
   go_wp2_with (first | (refine wpList_load_row rfl 42 _ rfl (W2.heap.size) rfl 42 (sc (.slice ao_n L_n cap_n) H (.slice ao_y L_y cap_y) s) (0, 0) _ r_out9.out Tryz.underlying42 rfl (sizeS _ _ _ _) ?_) | (refine wpList_store_row rfl 42 _ _ rfl (w.heap.size + 1 + 1) (sc (.slice ao_n L_n cap_n) H (.slice ao_y L_y cap_y) s) rfl rfl 42 _ r_res9.out (sizeS _ _ _ _) rfl (oneS _ _ rfl rfl) ?_))
   refine bodyPost_ret (res_row_tmp rfl _ _ (w.heap.size + 1 + 1) 42 (sc (.slice ao_n L_n cap_n) H (.slice ao_y L_y cap_y) s) (0, 0) _ rfl (setRow_heap _ _ _ _ _ (0, 0) r_res9.out) Tryz.underlying42 rfl (sizeS _ _ _ _)) rfl ⟨.slice ao_n L_n cap_n, .slice ao_y L_y cap_y, by rw [HN.out]; rfl, ?_, ?_, below_setRow B9.out (by omega) _⟩
   ·
    rw [HN.out]
    exact (Own.setRow o_n9.out _ (by omega)).mono (by omega) (by rw [size_setRow]; omega)
   ·
    rw [HN.out]
    exact (Own.setRow o_y9.out _ (by omega)).mono (by omega) (by rw [size_setRow]; omega)
  ·
   go_simp
   refine (q3 W6.drew _ (Sl.later (w := W6) (HX.out.later B6.out) (Below.drew (Below.refl _ _)))).mono ?_
   rintro e W7 ⟨v_u, rfl, o_u7, b7⟩
   have b7 : Below W6.heap.size W6 W7 := (Below.drew (Below.refl _ _)).trans b7
   refine hK.out _ _ ⟨(keepR (W := W6) hHeld.1 b7), (keepR (W := W6) hHeld.2 b7)⟩ (fun hHeld => ?_)
   clear hK K
   try simp only [Act.put, pu1, pu2, pu3, pu4, pu5, pu6]
   have o_u7 : Own W7 W6.heap.size W7.heap.size 5 _ _ := o_u7
   obtain ⟨ao_u, L_u, cap_u, rfl, hL_u, hM_u⟩ := o_u7.form
   have o_u7 : Hid (Own W7 W6.heap.size W7.heap.size 5 (.slice ao_u L_u cap_u) (bs Pb)) := o_u7
   clear hL_u hM_u
   have z7 := b7.size
   have B7 := Ke.b B6 b7
   have r_h7 := Ke.r r_h6 b7
   have r_res7 := Ke.r r_res6 b7
   have r_out7 := Ke.r r_out6 b7
   have o_p7 := Ke.o o_p6 b7
   have o_n7 := Ke.o o_n6 b7
   have c_out7 := Ke.c r_out7
   clear r_h6 c_h6 r_res6 c_res6 r_out6 c_out6 o_p6 o_n6
   refine Ke.z 1 rfl (fun K hK => ?_)
   go_simp
   refine hK.out _ _ ⟨hHeld.1, hHeld.2⟩ (fun hHeld => ?_)
   clear hK K
   try simp only [Act.put, pu1, pu2, pu3, pu4, pu5, pu6]
   refine Ke.z 5 rfl (fun K hK => ?_)
   have c6_8 : (bs b).length + (bs Pb).length ≤ maxLen := by rw [bs_len, bs_len]; unfold maxLen; (try simp only [List.length_nil]); omega
   have c7_8 : ((bs b).length + (bs Pb).length) * 1 ≤ 140737488355328 := by rw [bs_len, bs_len]; (try simp only [List.length_nil]); omega
   refine step_appG (by rfl) (.tmp 31) (.tmp 34) 27 (by rfl) 5 i5 (.int .u8 0) 1 Tryz.underlying27 hi5 hz5a hz5b hz5c rfl (W1.heap.size) _ (bs b) (by rfl) (Own.mono o_p7.out (Nat.le_refl _) (by omega)) _ (by rfl) (bs Pb) (o_u7.out.sl) (bs_one Pb) c6_8 c7_8 (by omega) ?_
   intro v_y W8 o_y8 g8
   refine hK.out _ _ ⟨(cellGro hHeld.1 g8 (Own.neRow o_p7.out r_h7.out (by decide))), (cellGro hHeld.2 g8 (Own.neRow o_p7.out r_h7.out (by decide)))⟩ (fun hHeld => ?_)
   clear hK K
   try simp only [Act.put, pu1, pu2, pu3, pu4, pu5, pu6]
   have o_y8 : Own W8 (W1.heap.size) W8.heap.size 5 v_y (bs (b ++ Pb)) := by show Own _ _ _ _ _ _; rw [bs_app]; exact o_y8
   have o_y8h : Hid (Own W8 (W1.heap.size) W8.heap.size 5 v_y (bs (b ++ Pb))) := o_y8
   clear o_y8
   have o_y8 := o_y8h
   clear o_y8h
   obtain ⟨ao_y, L_y, cap_y, rfl, _, _⟩ := Mem.Own.form o_y8.out
   have z8 := g8.size
   have B8 : Hid (Below w.heap.size w W8) := belowGro B7.out g8 B7.out.size (Own.low o_p7.out (by have := B7.out.size; omega))
   have r_res8 := Ke.n r_res7 o_p7 g8
   have r_out8 := Ke.n r_out7 o_p7 g8
   have o_n8 : Hid (Own W8 (W3.heap.size) (W4.heap.size) 9 (.slice ao_n L_n cap_n) (ss L)) := Own.gro o_n7.out g8 (Own.neOwn o_p7.out o_n7.out (by decide))
   clear r_h7 r_res7 r_out7 c_out7 o_p7 o_n7 o_u7
   clear g8 c6_8 c7_8
   refine Ke.y 6 rfl (fun _ _ _ h => h) ?_
   try simp only [Act.put, pu1, pu2, pu3, pu4, pu5, pu6]
   refine Ke.z 7 rfl (fun K hK => ?_)
   rw [if_pos (by rfl)]
   refine wp_oneG 27 _ _ rfl (W2.heap.size) 3 (.slice ao_y L_y cap_y) rfl rfl [.slice ao_n L_n cap_n, .int .i64 H.n, .string H.r, .slice ao_p L_p cap_p, .int .i64 s] 42 r_out8.out (Nat.le_of_ble_eq_true rfl) (by kernel_rfl) rfl [.slice ao_n L_n cap_n, .int .i64 H.n, .string H.r, .slice ao_y L_y cap_y, .int .i64 s] rfl ?_
   intro W9 r_out9 g9
   refine hK.out _ _ ⟨(cellGro hHeld.1 g9 (by show some (W2.heap.size) ≠ some (w.heap.size + 1); intro h9; injection h9 with h9; omega)), (cellGro hHeld.2 g9 (by show some (W2.heap.size) ≠ some (w.heap.size + 1); intro h9; injection h9 with h9; omega))⟩ (fun hHeld => ?_)
   clear hK K
   try simp only [Act.put, pu1, pu2, pu3, pu4, pu5, pu6]
   have r_out9 : Hid (W9.heap[W2.heap.size]? = some (.cells #[.slice ao_n L_n cap_n, .int .i64 H.n, .string H.r, .slice ao_y L_y cap_y, .int .i64 s] 42 (0, 0))) := r_out9
   have z9 := g9.size
   have B9 : Hid (Below w.heap.size w W9) := belowGro B8.out g9 B8.out.size (fun k9 h9 => by injection h9 with h9; have := B8.out.size; omega)
   have r_res9 := Ke.s r_res8 g9
   have o_n9 := Ke.t o_n8 r_out8 g9
   have o_y9 := Ke.t o_y8 r_out8 g9
   clear r_res8 o_n8 o_y8
   clear r_out8
   clear g9
   refine wpAnyH_done (by kernel_rfl) ?_ _
   clear hHeld
   go_wp2_with (first | (refine wpList_load_row rfl 42 _ rfl (W2.heap.size) rfl 42 (sc (.slice ao_n L_n cap_n) H (.slice ao_y L_y cap_y) s) (0, 0) _ r_out9.out Tryz.underlying42 rfl (sizeS _ _ _ _) ?_) | (refine wpList_store_row rfl 42 _ _ rfl (w.heap.size + 1 + 1) (sc (.slice ao_n L_n cap_n) H (.slice ao_y L_y cap_y) s) rfl rfl 42 _ r_res9.out (sizeS _ _ _ _) rfl (oneS _ _ rfl rfl) ?_))
   refine bodyPost_ret (res_row_tmp rfl _ _ (w.heap.size + 1 + 1) 42 (sc (.slice ao_n L_n cap_n) H (.slice ao_y L_y cap_y) s) (0, 0) _ rfl (setRow_heap _ _ _ _ _ (0, 0) r_res9.out) Tryz.underlying42 rfl (sizeS _ _ _ _)) rfl ⟨.slice ao_n L_n cap_n, .slice ao_y L_y cap_y, by rw [HN.out]; rfl, ?_, ?_, below_setRow B9.out (by omega) _⟩
   ·
    rw [HN.out]
    exact (Own.setRow o_n9.out _ (by omega)).mono (by omega) (by rw [size_setRow]; omega)
   ·
    rw [HN.out]
    exact (Own.setRow o_y9.out _ (by omega)).mono (by omega) (by rw [size_setRow]; omega)
 ·
  have cn : (C == 0) = false := by rw [beq_eq_false_iff_ne]; exact hC
  have cm : (C != 0) = true := by rw [bne, cn]; rfl
  have HN : Hid (R = (⟨l, h, b, s⟩, C)) := HG.out hC
  go_wp2_with (first | ((try rw [HW5.out]); refine wpList_load_row rfl 42 _ rfl (W2.heap.size) rfl 42 (sc (.slice ao_s L_s cap_s) h (.slice ao_p L_p cap_p) s) (0, 0) _ r_out5.out Tryz.underlying42 rfl (sizeS _ _ _ _) ?_) | (refine wpList_store_row rfl 42 _ _ rfl (w.heap.size + 1 + 1) (sc (.slice ao_s L_s cap_s) h (.slice ao_p L_p cap_p) s) rfl rfl 42 _ r_res5.out (sizeS _ _ _ _) rfl (oneS _ _ rfl rfl) ?_))
  refine bodyPost_ret (res_row_tmp rfl _ _ (w.heap.size + 1 + 1) 42 (sc (.slice ao_s L_s cap_s) h (.slice ao_p L_p cap_p) s) (0, 0) _ rfl (setRow_heap _ _ _ _ _ (0, 0) r_res5.out) Tryz.underlying42 rfl (sizeS _ _ _ _)) rfl ⟨.slice ao_s L_s cap_s, .slice ao_p L_p cap_p, by rw [HN.out]; rfl, ?_, ?_, below_setRow B5.out (by omega) _⟩
  ·
   rw [HN.out]
   exact (Own.setRow o_s5.out _ (by omega)).mono (by omega) (by rw [size_setRow]; omega)
  ·
   rw [HN.out]
   exact (Own.setRow o_p5.out _ (by omega)).mono (by omega) (by rw [size_setRow]; omega)
theorem tot_txs : ∀ l : List ByteArray, Puts.tot l ≤ (Puts.txs l).length := by
 intro l
 induction l with
 | nil => exact Nat.le_refl _
 | cons a r ih =>
  have : (Puts.tx a).length = (Puts.num (a.size : Int)).length + a.size := by unfold Puts.tx; rw [List.length_append, sb_len]
  simp only [Puts.txs, Puts.tot, List.length_append]
  omega
theorem tot_body (h : Hd) (x : List ByteArray) : Puts.tot x ≤ (body h x).length := by
 have := tot_txs x
 unfold body
 simp only [List.length_append]
 omega
theorem open_step {t : List Hd} {xs : List Int} {a n : Nat} {st : Sto} {R : Sto × Nat} {h : Hd} {x : List ByteArray} {p : Int} {ok : Bool} (hlt : a < xs.length) (hg : getC xs (a : Int) = (h, x, p, ok))
  (hf : ∃ f, xs.length - a ≤ f ∧ openF f t xs a st n = R) :
  (¬ (ok = true ∧ (commit1 st t h x).2 = 0) → R = (st, n)) ∧
  (Byt xs → ok = true → ∃ q : Nat, p = (q : Int) ∧ a < q ∧ q ≤ xs.length ∧ (put h x).length = q - a ∧ h.r.size = 32 ∧ (∀ s ∈ x, s.size ≤ 1000000000) ∧ Puts.tot x ≤ 1000000000 ∧ ((commit1 st t h x).2 = 0 → ∃ f, xs.length - q ≤ f ∧ openF f t xs q (commit1 st t h x).1 (n + 1) = R)) := by
 obtain ⟨f, hf1, hf2⟩ := hf
 obtain ⟨f, rfl⟩ : ∃ k, f = k + 1 := ⟨f - 1, by omega⟩
 rw [openF, if_pos hlt, hg] at hf2
 simp only at hf2
 refine ⟨fun hn => ?_, fun hb h1 => ?_⟩
 ·
  rw [if_neg hn] at hf2; exact hf2.symm
 ·
  subst h1
  obtain ⟨q, rfl, hq, hqx, hk, _, _, hbl, _⟩ := put_get hb hg
  have hp := put_pos h x
  refine ⟨q, rfl, by omega, hqx, by omega, (okH_parts hk).2.2, fun s hs => Nat.le_trans (size_body (h := h) hs) hbl, Nat.le_trans (tot_body h x) hbl, fun hc => ⟨f, by omega, ?_⟩⟩
  rw [if_pos ⟨rfl, hc⟩] at hf2
  exact hf2
theorem open_end {t : List Hd} {xs : List Int} {a n : Nat} {st : Sto} {R : Sto × Nat} (hlt : ¬ a < xs.length) (hf : ∃ f, xs.length - a ≤ f ∧ openF f t xs a st n = R) : R = (st, n) := by
 obtain ⟨f, _, hf2⟩ := hf
 cases f with
 | zero => exact hf2.symm
 | succ f => rw [openF, if_neg hlt] at hf2; exact hf2.symm
set_option maxRecDepth 1000000 in
set_option maxHeartbeats 8000000 in
theorem open_any (w : World) (vt vb : Value) (t : List Hd) (xs ys : List Int) (hst : Sh w vt t) (hs : Sl w vb (bs xs)) (hb : Byt xs) (hx : xs.length ≤ 1000000000000) (htl : t.length ≤ 1000000000) (hys : xs.take 60000 = ys) :
  Calls Tryz.prog 95 #[vt, vb] w fun e w' => ∃ v' vb', e = .returned (.tuple #[.agg #[v', .int .i64 (openS t xs).1.h.n, .string (openS t xs).1.h.r, vb', .int .i64 (openS t xs).1.s], .int .i64 ((openS t xs).2 : Int)]) ∧ Own w' w.heap.size w'.heap.size 9 v' (ss (openS t xs).1.l) ∧ Own w' w.heap.size w'.heap.size 5 vb' (bs (openS t xs).1.b) ∧ Below w.heap.size w w' := by
 obtain ⟨R, hR⟩ : ∃ R, openF ys.length t ys 0 new12 0 = R := ⟨_, rfl⟩
 have HF0 : Hid (∃ f, ys.length - 0 ≤ f ∧ openF f t ys 0 new12 0 = R) := ⟨ys.length, by omega, hR⟩
 have eO : openS t xs = (⟨R.1.l, R.1.h, R.1.b, (R.1.b.length : Int)⟩, R.2) := by unfold openS; rw [hys, hR]
 rw [eO]
 have hyl : ys.length ≤ 60000 := by rw [← hys, List.length_take]; omega
 have HBY : Hid (Byt ys) := by show Byt ys; rw [← hys]; exact fun y hy => hb y (List.mem_of_mem_take hy)
 have HS : Hid (Sl w vb (bs xs)) := hs
 have HT : Hid (Sh w vt t) := hst
 have HYS : Hid (xs.take 60000 = ys) := hys
 obtain ⟨ao0, cap0, rfl, hc0⟩ := hs.form
 obtain ⟨ao2, cap2, rfl, hc2⟩ := hst.form
 simp only [bs_len] at *
 clear hs hst hb hR eO hys
 have B0 : Hid (Below w.heap.size w w) := Below.refl _ _
 obtain ⟨W1, HW1, b1, y1, hS1, r_res1⟩ := Ke.l1 w #[.slice none 0 0, .int .i64 0, .string ⟨#[]⟩, .slice none 0 0, .int .i64 0] 42
 have z1 := b1.size
 have B1 := Ke.b B0 b1
 have q0 : ∀ W, _ := fun W => storenew_spec W
 obtain ⟨M, hM⟩ : ∃ M, headOf [] = M := ⟨_, rfl⟩
 simp only [hM] at q0
 have HM : Hid (headOf [] = M) := hM
 clear hM
 go_enter Tryz.func95, Tryz.ntmps95
 go_wp2_with fail
 rw [HW1.out]
 refine (q0 W1).mono ?_
 rintro e W2 ⟨rfl, b2⟩
 have z2 := b2.size
 have B2 := Ke.b B1 b2
 have r_res2 := Ke.r r_res1 b2
 clear r_res1
 obtain ⟨W3, HW3, b3, y3, hS3, r_s3⟩ := Ke.l1 W2 #[.slice none 0 0, .int .i64 M.n, .string M.r, .slice none 0 0, .int .i64 0] 42
 have z3 := b3.size
 have B3 := Ke.b B2 b3
 have r_res3 := Ke.r r_res2 b3
 clear r_res2
 by_cases hbig : 60000 < xs.length
 ·
  have d6 : (60000 : Int) < (xs.length : Int) := by omega
  have hcb : (60000 : Int) ≤ (cap0 : Int) := by omega
  have hyl2 : ys.length = 60000 := by rw [← HYS.out, List.length_take]; omega
  have HV : Hid (Sl w (.slice ao0 60000 cap0) (bs ys)) := by show Sl _ _ _; rw [← HYS.out]; have h9 := Sl.front HS.out 60000 (by rw [bs_len]; omega); have e9 : bs (xs.take 60000) = (bs xs).take 60000 := by { unfold bs; rw [List.map_take] }; rw [e9]; exact h9
  have hLY : (60000 : Int) = (ys.length : Int) := by omega
  have HLY : Hid ((60000 : Int) = (ys.length : Int)) := hLY
  clear hyl2 hLY
  go_wp2_with fail
  rw [HW3.out]
  go_loopw [7, 8] (fun nv iv wr => ∃ (a n : Nat) (st : Sto) (ao : Option Addr) (L cap : Nat) (ao' : Option Addr) (L' cap' : Nat), a ≤ ys.length ∧ n ≤ a ∧ nv = .int .i64 (n : Int) ∧ iv = .int .i64 (a : Int) ∧ Hid (∃ f, ys.length - a ≤ f ∧ openF f t ys a st n = R) ∧ Hid (wr.heap[W2.heap.size]? = some (.cells #[.slice ao L cap, .int .i64 st.h.n, .string st.h.r, .slice ao' L' cap', .int .i64 st.s] 42 (0, 0))) ∧ Hid (wr.heap[w.heap.size]? = some (.cells #[.slice none 0 0, .int .i64 0, .string ⟨#[]⟩, .slice none 0 0, .int .i64 0] 42 (0, 0))) ∧ Hid (Own wr W3.heap.size wr.heap.size 9 (.slice ao L cap) (ss st.l)) ∧ Hid (Own wr W3.heap.size wr.heap.size 5 (.slice ao' L' cap') (bs st.b)) ∧ Hid (Below w.heap.size w wr) ∧ W3.heap.size ≤ wr.heap.size ∧ st.l.length ≤ 200 ∧ st.b.length ≤ a ∧ Hid (∀ s ∈ st.l, s.size ≤ 1000000000)) (fun _ iv _ => ys.length - (intOf iv).toNat)
  case atStart =>
   refine ⟨0, 0, new12, none, 0, 0, none, 0, 0, Nat.zero_le _, Nat.le_refl _, rfl, rfl, HF0, ?_, r_res3, ownNil _ _ _ _, ownNil _ _ _ _, B3, Nat.le_refl _, Nat.zero_le _, Nat.le_refl _, fun s hs => by cases hs⟩
   show _ = _
   rw [r_s3.out, ← HM.out]
   rfl
  case round =>
   obtain ⟨a, n, st, ao_v, L_v, cap_v, ao_p, L_p, cap_p, ha, hna, rfl, rfl, HF, r_s4, r_res4, o_v4, o_p4, B4, z4, hl2, hb2, HZ⟩ := hrel
   obtain ⟨W4, hW4⟩ : ∃ X, X = wr := ⟨_, rfl⟩
   subst hW4
   clear HF0 r_s3 r_res3
   have hLp : L_p ≤ st.b.length ∧ st.b.length ≤ L_p := by obtain ⟨a9, L9, c9, he, h1, h2⟩ := Mem.Own.form o_p4.out; injection he with _ he2 _; rw [bs_len] at h1 h2; omega
   have c_s4 := Ke.c r_s4
   have hly := HLY.out
   have hlt2 : ((a : Int) < (60000 : Int)) ↔ a < ys.length := by omega
   clear hly
   by_cases hlt : a < ys.length
   ·
    have hl3 := hlt2.2 hlt
    have q2 := get_spec W4 _ ys (a : Int) (HV.out.later B4.out) HBY.out (by omega) (by omega) (by omega)
    obtain ⟨h, x, p, ok, hg⟩ : ∃ h x p ok, getC ys (a : Int) = (h, x, p, ok) := ⟨_, _, _, _, rfl⟩
    unfold GotC at q2
    rw [hg] at q2
    simp only at q2
    obtain ⟨S1, S3⟩ := open_step hlt hg HF.out
    have H1 : Hid _ := S1
    have H3 : Hid _ := S3
    have hx2 : x.length ≤ 200 := by
     have h9 := getC_len ys (a : Int)
     rw [hg] at h9
     exact h9
    clear S1 S3 HF hg hlt2
    go_wp2_with fail
    refine (q2).mono ?_
    rintro e W5 ⟨v_t, rfl, o_t5, b5⟩
    obtain ⟨ao_t, L_t, cap_t, rfl, hL_t, hM_t⟩ := o_t5.form
    have o_t5 : Hid (Own W5 W4.heap.size W5.heap.size 9 (.slice ao_t L_t cap_t) (ss x)) := o_t5
    clear hL_t hM_t
    have z5 := b5.size
    have B5 := Ke.b B4 b5
    have r_s5 := Ke.r r_s4 b5
    have r_res5 := Ke.r r_res4 b5
    have o_v5 := Ke.o o_v4 b5
    have o_p5 := Ke.o o_p4 b5
    have c_s5 := Ke.c r_s5
    clear r_s4 c_s4 r_res4 o_v4 o_p4
    clear q2
    have a_s5 := Ke.a r_s5
    obtain ⟨W6, HW6, b6, y6, hS6, r_h6⟩ := Ke.l1 W5 #[.int .i64 h.n, .string h.r] 38
    have z6 := b6.size
    have B6 := Ke.b B5 b6
    have r_s6 := Ke.r r_s5 b6
    have r_res6 := Ke.r r_res5 b6
    have o_v6 := Ke.o o_v5 b6
    have o_p6 := Ke.o o_p5 b6
    have o_t6 := Ke.o o_t5 b6
    clear r_s5 c_s5 r_res5 o_v5 o_p5 o_t5
    cases ok
    ·
     have HN : Hid (R = (st, n)) := H1.out (by simp)
     have HLP : Hid ((L_p : Int) = (st.b.length : Int)) := by show _ = _; omega
     go_wp2_with ((try rw [HW6.out]); refine wpl_oneG rfl 3 _ _ rfl (W2.heap.size) 4 (.int .i64 (L_p : Int)) rfl rfl [.slice ao_v L_v cap_v, .int .i64 st.h.n, .string st.h.r, .slice ao_p L_p cap_p, .int .i64 st.s] 42 r_s6.out (Nat.le_of_ble_eq_true rfl) (by kernel_rfl) rfl [.slice ao_v L_v cap_v, .int .i64 st.h.n, .string st.h.r, .slice ao_p L_p cap_p, .int .i64 (L_p : Int)] rfl ?_)
     intro W7 r_s7 g7
     clear a_s5
     have r_s7 : Hid (W7.heap[W2.heap.size]? = some (.cells #[.slice ao_v L_v cap_v, .int .i64 st.h.n, .string st.h.r, .slice ao_p L_p cap_p, .int .i64 (L_p : Int)] 42 (0, 0))) := r_s7
     have z7 := g7.size
     have B7 : Hid (Below w.heap.size w W7) := belowGro B6.out g7 B6.out.size (fun k9 h9 => by injection h9 with h9; have := B6.out.size; omega)
     have r_res7 := Ke.s r_res6 g7
     have o_v7 := Ke.t o_v6 r_s6 g7
     have o_p7 := Ke.t o_p6 r_s6 g7
     have c_s7 := Ke.c r_s7
     clear r_res6 r_h6 o_v6 o_p6 o_t6
     clear r_s6
     clear g7
     go_wp2_with (first | (refine wpList_load_row rfl 42 _ rfl (W2.heap.size) rfl 42 (sc (.slice ao_v L_v cap_v) st.h (.slice ao_p L_p cap_p) (L_p : Int)) (0, 0) _ r_s7.out Tryz.underlying42 rfl (sizeS _ _ _ _) ?_) | (refine wpList_store_row rfl 42 _ _ rfl (w.heap.size) (sc (.slice ao_v L_v cap_v) st.h (.slice ao_p L_p cap_p) (L_p : Int)) rfl rfl 42 _ r_res7.out (sizeS _ _ _ _) rfl (oneS _ _ rfl rfl) ?_))
     refine bodyPost_ret (res_row_tmp rfl _ _ (w.heap.size) 42 (sc (.slice ao_v L_v cap_v) st.h (.slice ao_p L_p cap_p) (L_p : Int)) (0, 0) _ rfl (setRow_heap _ _ _ _ _ (0, 0) r_res7.out) Tryz.underlying42 rfl (sizeS _ _ _ _)) rfl ⟨.slice ao_v L_v cap_v, .slice ao_p L_p cap_p, by rw [HN.out]; simp only [sc]; rw [← HLP.out]; rfl, ?_, ?_, below_setRow B7.out (by omega) _⟩
     ·
      rw [HN.out]
      exact (Own.setRow o_v7.out _ (by omega)).mono (by omega) (by rw [size_setRow]; omega)
     ·
      rw [HN.out]
      exact (Own.setRow o_p7.out _ (by omega)).mono (by omega) (by rw [size_setRow]; omega)
    ·
     obtain ⟨q, hq0, hq1, hq2, hq3, hq4, hq5, hq6, hq7⟩ := H3.out HBY.out (by first | exact rfl | trivial)
     subst hq0
     have HQ5 : Hid (∀ s ∈ x, s.size ≤ 1000000000) := hq5
     have HQ7 : Hid _ := hq7
     clear hq5 hq7
     have q4 : ∀ W v1 v2 v3 v4, Sl W v1 (ss st.l) → Sl W v2 (bs st.b) → Sh W v3 t → Sl W v4 (ss x) → _ := fun W v1 v2 v3 v4 h1 h2 h3 h4 => commit1_spec W v1 v2 v3 v4 st t h x h1 h2 h3 h4 (by omega) (by omega) htl (by omega) (fun s hs => by have := HZ.out s hs; omega) (fun s hs => by have := HQ5.out s hs; omega) (by omega) (by omega)
     obtain ⟨C, hC⟩ : ∃ C, commit1 st t h x = C := ⟨_, rfl⟩
     simp only [hC] at q4
     have HC : Hid (commit1 st t h x = C) := hC
     clear hC
     obtain ⟨st2, code⟩ := C
     simp only at q4
     go_wp2_with fail
     rw [HW6.out]
     clear a_s5
     refine (q4 W6 _ _ _ _ o_v6.out.sl o_p6.out.sl (HT.out.later B6.out) o_t6.out.sl).mono ?_
     rintro e W7 ⟨v_n, v_y, rfl, o_n7, o_y7, b7⟩
     obtain ⟨ao_n, L_n, cap_n, rfl, hL_n, hM_n⟩ := o_n7.form
     have o_n7 : Hid (Own W7 W6.heap.size W7.heap.size 9 (.slice ao_n L_n cap_n) (ss st2.l)) := o_n7
     clear hL_n hM_n
     have z7 := b7.size
     have B7 := Ke.b B6 b7
     have r_s7 := Ke.r r_s6 b7
     have r_res7 := Ke.r r_res6 b7
     have o_v7 := Ke.o o_v6 b7
     have o_p7 := Ke.o o_p6 b7
     have c_s7 := Ke.c r_s7
     clear r_s6 r_res6 r_h6 o_v6 o_p6 o_t6
     obtain ⟨ao_y, L_y, cap_y, rfl, _, _⟩ := o_y7.form
     have o_y7 : Hid (Own W7 W6.heap.size W7.heap.size 5 (.slice ao_y L_y cap_y) (bs st2.b)) := o_y7
     clear q4
     have a_s7 := Ke.a r_s7
     obtain ⟨W8, HW8, b8, y8, hS8, r_x8⟩ := Ke.l1 W7 #[.slice ao_n L_n cap_n, .int .i64 st2.h.n, .string st2.h.r, .slice ao_y L_y cap_y, .int .i64 st2.s] 42
     have z8 := b8.size
     have B8 := Ke.b B7 b8
     have r_s8 := Ke.r r_s7 b8
     have r_res8 := Ke.r r_res7 b8
     have o_v8 := Ke.o o_v7 b8
     have o_p8 := Ke.o o_p7 b8
     have o_n8 := Ke.o o_n7 b8
     have o_y8 := Ke.o o_y7 b8
     clear r_s7 c_s7 r_res7 o_v7 o_p7 o_n7 o_y7
     by_cases hcode : code = 0
     ·
      subst hcode
      obtain ⟨f9, hf9, hF9⟩ := HQ7.out (by rw [HC.out])
      rw [HC.out] at hF9
      have HQ4 : Hid (∃ f, ys.length - q ≤ f ∧ openF f t ys q st2 (n + 1) = R) := ⟨f9, hf9, hF9⟩
      clear hF9 hf9
      obtain ⟨c1, c2, c3, c4, c5, c6, c7⟩ := commit1_good (st := st) (t := t) (h := h) (x := x) (by rw [HC.out])
      rw [HC.out] at c7
      simp only at c7
      have hl5 : st2.l.length ≤ 200 := by rw [c7]; exact c5
      have hb5 : st2.b.length ≤ q := by rw [c7]; simp only [List.length_append]; omega
      have HZ5 : Hid (∀ s ∈ st2.l, s.size ≤ 1000000000) := by show ∀ s ∈ st2.l, s.size ≤ 1000000000; rw [c7]; exact size_app HZ.out HQ5.out
      clear c1 c2 c3 c4 c5 c6 c7
      go_wp2_with ((try rw [HW8.out]); refine wpl_partG rfl 42 _ _ rfl (W2.heap.size) 0 (sc (.slice ao_n L_n cap_n) st2.h (.slice ao_y L_y cap_y) st2.s) rfl rfl [.slice ao_v L_v cap_v, .int .i64 st.h.n, .string st.h.r, .slice ao_p L_p cap_p, .int .i64 st.s] 42 r_s8.out (Nat.le_of_ble_eq_true rfl) (sizeS _ _ _ _) (oneS _ _ rfl rfl) [.slice ao_n L_n cap_n, .int .i64 st2.h.n, .string st2.h.r, .slice ao_y L_y cap_y, .int .i64 st2.s] rfl ?_)
      intro W9 r_s9 g9
      clear a_s7
      have r_s9 : Hid (W9.heap[W2.heap.size]? = some (.cells #[.slice ao_n L_n cap_n, .int .i64 st2.h.n, .string st2.h.r, .slice ao_y L_y cap_y, .int .i64 st2.s] 42 (0, 0))) := r_s9
      have z9 := g9.size
      have B9 : Hid (Below w.heap.size w W9) := belowGro B8.out g9 B8.out.size (fun k9 h9 => by injection h9 with h9; have := B8.out.size; omega)
      have r_res9 := Ke.s r_res8 g9
      have o_v9 := Ke.t o_v8 r_s8 g9
      have o_p9 := Ke.t o_p8 r_s8 g9
      have o_n9 := Ke.t o_n8 r_s8 g9
      have o_y9 := Ke.t o_y8 r_s8 g9
      clear r_res8 r_x8 o_v8 o_p8 o_n8 o_y8
      clear r_s8
      clear g9
      have wn : IntKind.i64.wrap ((n : Int) + 1) = ((n + 1 : Nat) : Int) := by rw [IntKind.wrap_i64]; omega
      go_wp2
      go_roundw
      case rel => exact ⟨q, n + 1, st2, ao_n, L_n, cap_n, ao_y, L_y, cap_y, hq2, by omega, by go_num, rfl, HQ4, r_s9, r_res9, Own.mono o_n9.out (by omega) (by omega), Own.mono o_y9.out (by omega) (by omega), B9, by omega, hl5, hb5, HZ5⟩
      case measure => simp [intOf]; omega
     ·
      have cn : (code == 0) = false := by rw [beq_eq_false_iff_ne]; exact hcode
      have cm : (code != 0) = true := by rw [bne, cn]; rfl
      have HN : Hid (R = (st, n)) := H1.out (fun h9 => hcode (by have := h9.2; rw [HC.out] at this; exact this))
      have HLP : Hid ((L_p : Int) = (st.b.length : Int)) := by show _ = _; omega
      go_wp2_with ((try rw [HW8.out]); refine wpl_oneG rfl 3 _ _ rfl (W2.heap.size) 4 (.int .i64 (L_p : Int)) rfl rfl [.slice ao_v L_v cap_v, .int .i64 st.h.n, .string st.h.r, .slice ao_p L_p cap_p, .int .i64 st.s] 42 r_s8.out (Nat.le_of_ble_eq_true rfl) (by kernel_rfl) rfl [.slice ao_v L_v cap_v, .int .i64 st.h.n, .string st.h.r, .slice ao_p L_p cap_p, .int .i64 (L_p : Int)] rfl ?_)
      intro W9 r_s9 g9
      clear a_s7
      have r_s9 : Hid (W9.heap[W2.heap.size]? = some (.cells #[.slice ao_v L_v cap_v, .int .i64 st.h.n, .string st.h.r, .slice ao_p L_p cap_p, .int .i64 (L_p : Int)] 42 (0, 0))) := r_s9
      have z9 := g9.size
      have B9 : Hid (Below w.heap.size w W9) := belowGro B8.out g9 B8.out.size (fun k9 h9 => by injection h9 with h9; have := B8.out.size; omega)
      have r_res9 := Ke.s r_res8 g9
      have o_v9 := Ke.t o_v8 r_s8 g9
      have o_p9 := Ke.t o_p8 r_s8 g9
      have o_n9 := Ke.t o_n8 r_s8 g9
      have o_y9 := Ke.t o_y8 r_s8 g9
      clear r_res8 r_x8 o_v8 o_p8 o_n8 o_y8
      clear r_s8
      clear g9
      go_wp2_with (first | (refine wpList_load_row rfl 42 _ rfl (W2.heap.size) rfl 42 (sc (.slice ao_v L_v cap_v) st.h (.slice ao_p L_p cap_p) (L_p : Int)) (0, 0) _ r_s9.out Tryz.underlying42 rfl (sizeS _ _ _ _) ?_) | (refine wpList_store_row rfl 42 _ _ rfl (w.heap.size) (sc (.slice ao_v L_v cap_v) st.h (.slice ao_p L_p cap_p) (L_p : Int)) rfl rfl 42 _ r_res9.out (sizeS _ _ _ _) rfl (oneS _ _ rfl rfl) ?_))
      refine bodyPost_ret (res_row_tmp rfl _ _ (w.heap.size) 42 (sc (.slice ao_v L_v cap_v) st.h (.slice ao_p L_p cap_p) (L_p : Int)) (0, 0) _ rfl (setRow_heap _ _ _ _ _ (0, 0) r_res9.out) Tryz.underlying42 rfl (sizeS _ _ _ _)) rfl ⟨.slice ao_v L_v cap_v, .slice ao_p L_p cap_p, by rw [HN.out]; simp only [sc]; rw [← HLP.out]; rfl, ?_, ?_, below_setRow B9.out (by omega) _⟩
      ·
       rw [HN.out]
       exact (Own.setRow o_v9.out _ (by omega)).mono (by omega) (by rw [size_setRow]; omega)
      ·
       rw [HN.out]
       exact (Own.setRow o_p9.out _ (by omega)).mono (by omega) (by rw [size_setRow]; omega)
   ·
    have hl3 : ¬ ((a : Int) < (60000 : Int)) := fun h9 => hlt (hlt2.1 h9)
    clear hlt2
    have HN : Hid (R = (st, n)) := open_end hlt HF.out
    have HLP : Hid ((L_p : Int) = (st.b.length : Int)) := by show _ = _; omega
    go_wp2_with (refine wpl_oneG rfl 3 _ _ rfl (W2.heap.size) 4 (.int .i64 (L_p : Int)) rfl rfl [.slice ao_v L_v cap_v, .int .i64 st.h.n, .string st.h.r, .slice ao_p L_p cap_p, .int .i64 st.s] 42 r_s4.out (Nat.le_of_ble_eq_true rfl) (by kernel_rfl) rfl [.slice ao_v L_v cap_v, .int .i64 st.h.n, .string st.h.r, .slice ao_p L_p cap_p, .int .i64 (L_p : Int)] rfl ?_)
    intro W5 r_s5 g5
    have r_s5 := Ke.h r_s5
    have z5 := g5.size
    have B5 : Hid (Below w.heap.size w W5) := belowGro B4.out g5 B4.out.size (fun k9 h9 => by injection h9 with h9; have := B4.out.size; omega)
    have r_res5 := Ke.s r_res4 g5
    have o_v5 := Ke.t o_v4 r_s4 g5
    have o_p5 := Ke.t o_p4 r_s4 g5
    have c_s5 := Ke.c r_s5
    clear r_res4 o_v4 o_p4
    clear r_s4 c_s4
    clear g5
    go_wp2_with (first | (refine wpList_load_row rfl 42 _ rfl (W2.heap.size) rfl 42 (sc (.slice ao_v L_v cap_v) st.h (.slice ao_p L_p cap_p) (L_p : Int)) (0, 0) _ r_s5.out Tryz.underlying42 rfl (sizeS _ _ _ _) ?_) | (refine wpList_store_row rfl 42 _ _ rfl (w.heap.size) (sc (.slice ao_v L_v cap_v) st.h (.slice ao_p L_p cap_p) (L_p : Int)) rfl rfl 42 _ r_res5.out (sizeS _ _ _ _) rfl (oneS _ _ rfl rfl) ?_))
    refine bodyPost_ret (res_row_tmp rfl _ _ (w.heap.size) 42 (sc (.slice ao_v L_v cap_v) st.h (.slice ao_p L_p cap_p) (L_p : Int)) (0, 0) _ rfl (setRow_heap _ _ _ _ _ (0, 0) r_res5.out) Tryz.underlying42 rfl (sizeS _ _ _ _)) rfl ⟨.slice ao_v L_v cap_v, .slice ao_p L_p cap_p, by rw [HN.out]; simp only [sc]; rw [← HLP.out]; rfl, ?_, ?_, below_setRow B5.out (by omega) _⟩
    ·
     rw [HN.out]
     exact (Own.setRow o_v5.out _ (by omega)).mono (by omega) (by rw [size_setRow]; omega)
    ·
     rw [HN.out]
     exact (Own.setRow o_p5.out _ (by omega)).mono (by omega) (by rw [size_setRow]; omega)
 ·
  have d6 : ¬ (60000 : Int) < (xs.length : Int) := by omega
  have eY : xs = ys := by rw [← HYS.out, List.take_of_length_le (by omega)]
  have HV : Hid (Sl w (.slice ao0 xs.length cap0) (bs ys)) := by show Sl _ _ _; rw [← eY]; exact HS.out
  have hLY : (xs.length : Int) = (ys.length : Int) := by rw [eY]
  have HLY : Hid ((xs.length : Int) = (ys.length : Int)) := hLY
  clear eY hLY
  go_wp2_with fail
  rw [HW3.out]
  go_loopw [7, 8] (fun nv iv wr => ∃ (a n : Nat) (st : Sto) (ao : Option Addr) (L cap : Nat) (ao' : Option Addr) (L' cap' : Nat), a ≤ ys.length ∧ n ≤ a ∧ nv = .int .i64 (n : Int) ∧ iv = .int .i64 (a : Int) ∧ Hid (∃ f, ys.length - a ≤ f ∧ openF f t ys a st n = R) ∧ Hid (wr.heap[W2.heap.size]? = some (.cells #[.slice ao L cap, .int .i64 st.h.n, .string st.h.r, .slice ao' L' cap', .int .i64 st.s] 42 (0, 0))) ∧ Hid (wr.heap[w.heap.size]? = some (.cells #[.slice none 0 0, .int .i64 0, .string ⟨#[]⟩, .slice none 0 0, .int .i64 0] 42 (0, 0))) ∧ Hid (Own wr W3.heap.size wr.heap.size 9 (.slice ao L cap) (ss st.l)) ∧ Hid (Own wr W3.heap.size wr.heap.size 5 (.slice ao' L' cap') (bs st.b)) ∧ Hid (Below w.heap.size w wr) ∧ W3.heap.size ≤ wr.heap.size ∧ st.l.length ≤ 200 ∧ st.b.length ≤ a ∧ Hid (∀ s ∈ st.l, s.size ≤ 1000000000)) (fun _ iv _ => ys.length - (intOf iv).toNat)
  case atStart =>
   refine ⟨0, 0, new12, none, 0, 0, none, 0, 0, Nat.zero_le _, Nat.le_refl _, rfl, rfl, HF0, ?_, r_res3, ownNil _ _ _ _, ownNil _ _ _ _, B3, Nat.le_refl _, Nat.zero_le _, Nat.le_refl _, fun s hs => by cases hs⟩
   show _ = _
   rw [r_s3.out, ← HM.out]
   rfl
  case round =>
   obtain ⟨a, n, st, ao_v, L_v, cap_v, ao_p, L_p, cap_p, ha, hna, rfl, rfl, HF, r_s4, r_res4, o_v4, o_p4, B4, z4, hl2, hb2, HZ⟩ := hrel
   obtain ⟨W4, hW4⟩ : ∃ X, X = wr := ⟨_, rfl⟩
   subst hW4
   clear HF0 r_s3 r_res3
   have hLp : L_p ≤ st.b.length ∧ st.b.length ≤ L_p := by obtain ⟨a9, L9, c9, he, h1, h2⟩ := Mem.Own.form o_p4.out; injection he with _ he2 _; rw [bs_len] at h1 h2; omega
   have c_s4 := Ke.c r_s4
   have hly := HLY.out
   have hlt2 : ((a : Int) < ((xs.length : Int) : Int)) ↔ a < ys.length := by omega
   clear hly
   by_cases hlt : a < ys.length
   ·
    have hl3 := hlt2.2 hlt
    have q2 := get_spec W4 _ ys (a : Int) (HV.out.later B4.out) HBY.out (by omega) (by omega) (by omega)
    obtain ⟨h, x, p, ok, hg⟩ : ∃ h x p ok, getC ys (a : Int) = (h, x, p, ok) := ⟨_, _, _, _, rfl⟩
    unfold GotC at q2
    rw [hg] at q2
    simp only at q2
    obtain ⟨S1, S3⟩ := open_step hlt hg HF.out
    have H1 : Hid _ := S1
    have H3 : Hid _ := S3
    have hx2 : x.length ≤ 200 := by
     have h9 := getC_len ys (a : Int)
     rw [hg] at h9
     exact h9
    clear S1 S3 HF hg hlt2
    go_wp2_with fail
    refine (q2).mono ?_
    rintro e W5 ⟨v_t, rfl, o_t5, b5⟩
    obtain ⟨ao_t, L_t, cap_t, rfl, hL_t, hM_t⟩ := o_t5.form
    have o_t5 : Hid (Own W5 W4.heap.size W5.heap.size 9 (.slice ao_t L_t cap_t) (ss x)) := o_t5
    clear hL_t hM_t
    have z5 := b5.size
    have B5 := Ke.b B4 b5
    have r_s5 := Ke.r r_s4 b5
    have r_res5 := Ke.r r_res4 b5
    have o_v5 := Ke.o o_v4 b5
    have o_p5 := Ke.o o_p4 b5
    have c_s5 := Ke.c r_s5
    clear r_s4 c_s4 r_res4 o_v4 o_p4
    clear q2
    have a_s5 := Ke.a r_s5
    obtain ⟨W6, HW6, b6, y6, hS6, r_h6⟩ := Ke.l1 W5 #[.int .i64 h.n, .string h.r] 38
    have z6 := b6.size
    have B6 := Ke.b B5 b6
    have r_s6 := Ke.r r_s5 b6
    have r_res6 := Ke.r r_res5 b6
    have o_v6 := Ke.o o_v5 b6
    have o_p6 := Ke.o o_p5 b6
    have o_t6 := Ke.o o_t5 b6
    clear r_s5 c_s5 r_res5 o_v5 o_p5 o_t5
    cases ok
    ·
     have HN : Hid (R = (st, n)) := H1.out (by simp)
     have HLP : Hid ((L_p : Int) = (st.b.length : Int)) := by show _ = _; omega
     go_wp2_with ((try rw [HW6.out]); refine wpl_oneG rfl 3 _ _ rfl (W2.heap.size) 4 (.int .i64 (L_p : Int)) rfl rfl [.slice ao_v L_v cap_v, .int .i64 st.h.n, .string st.h.r, .slice ao_p L_p cap_p, .int .i64 st.s] 42 r_s6.out (Nat.le_of_ble_eq_true rfl) (by kernel_rfl) rfl [.slice ao_v L_v cap_v, .int .i64 st.h.n, .string st.h.r, .slice ao_p L_p cap_p, .int .i64 (L_p : Int)] rfl ?_)
     intro W7 r_s7 g7
     clear a_s5
     have r_s7 : Hid (W7.heap[W2.heap.size]? = some (.cells #[.slice ao_v L_v cap_v, .int .i64 st.h.n, .string st.h.r, .slice ao_p L_p cap_p, .int .i64 (L_p : Int)] 42 (0, 0))) := r_s7
     have z7 := g7.size
     have B7 : Hid (Below w.heap.size w W7) := belowGro B6.out g7 B6.out.size (fun k9 h9 => by injection h9 with h9; have := B6.out.size; omega)
     have r_res7 := Ke.s r_res6 g7
     have o_v7 := Ke.t o_v6 r_s6 g7
     have o_p7 := Ke.t o_p6 r_s6 g7
     have c_s7 := Ke.c r_s7
     clear r_res6 r_h6 o_v6 o_p6 o_t6
     clear r_s6
     clear g7
     go_wp2_with (first | (refine wpList_load_row rfl 42 _ rfl (W2.heap.size) rfl 42 (sc (.slice ao_v L_v cap_v) st.h (.slice ao_p L_p cap_p) (L_p : Int)) (0, 0) _ r_s7.out Tryz.underlying42 rfl (sizeS _ _ _ _) ?_) | (refine wpList_store_row rfl 42 _ _ rfl (w.heap.size) (sc (.slice ao_v L_v cap_v) st.h (.slice ao_p L_p cap_p) (L_p : Int)) rfl rfl 42 _ r_res7.out (sizeS _ _ _ _) rfl (oneS _ _ rfl rfl) ?_))
     refine bodyPost_ret (res_row_tmp rfl _ _ (w.heap.size) 42 (sc (.slice ao_v L_v cap_v) st.h (.slice ao_p L_p cap_p) (L_p : Int)) (0, 0) _ rfl (setRow_heap _ _ _ _ _ (0, 0) r_res7.out) Tryz.underlying42 rfl (sizeS _ _ _ _)) rfl ⟨.slice ao_v L_v cap_v, .slice ao_p L_p cap_p, by rw [HN.out]; simp only [sc]; rw [← HLP.out]; rfl, ?_, ?_, below_setRow B7.out (by omega) _⟩
     ·
      rw [HN.out]
      exact (Own.setRow o_v7.out _ (by omega)).mono (by omega) (by rw [size_setRow]; omega)
     ·
      rw [HN.out]
      exact (Own.setRow o_p7.out _ (by omega)).mono (by omega) (by rw [size_setRow]; omega)
    ·
     obtain ⟨q, hq0, hq1, hq2, hq3, hq4, hq5, hq6, hq7⟩ := H3.out HBY.out (by first | exact rfl | trivial)
     subst hq0
     have HQ5 : Hid (∀ s ∈ x, s.size ≤ 1000000000) := hq5
     have HQ7 : Hid _ := hq7
     clear hq5 hq7
     have q4 : ∀ W v1 v2 v3 v4, Sl W v1 (ss st.l) → Sl W v2 (bs st.b) → Sh W v3 t → Sl W v4 (ss x) → _ := fun W v1 v2 v3 v4 h1 h2 h3 h4 => commit1_spec W v1 v2 v3 v4 st t h x h1 h2 h3 h4 (by omega) (by omega) htl (by omega) (fun s hs => by have := HZ.out s hs; omega) (fun s hs => by have := HQ5.out s hs; omega) (by omega) (by omega)
     obtain ⟨C, hC⟩ : ∃ C, commit1 st t h x = C := ⟨_, rfl⟩
     simp only [hC] at q4
     have HC : Hid (commit1 st t h x = C) := hC
     clear hC
     obtain ⟨st2, code⟩ := C
     simp only at q4
     go_wp2_with fail
     rw [HW6.out]
     clear a_s5
     refine (q4 W6 _ _ _ _ o_v6.out.sl o_p6.out.sl (HT.out.later B6.out) o_t6.out.sl).mono ?_
     rintro e W7 ⟨v_n, v_y, rfl, o_n7, o_y7, b7⟩
     obtain ⟨ao_n, L_n, cap_n, rfl, hL_n, hM_n⟩ := o_n7.form
     have o_n7 : Hid (Own W7 W6.heap.size W7.heap.size 9 (.slice ao_n L_n cap_n) (ss st2.l)) := o_n7
     clear hL_n hM_n
     have z7 := b7.size
     have B7 := Ke.b B6 b7
     have r_s7 := Ke.r r_s6 b7
     have r_res7 := Ke.r r_res6 b7
     have o_v7 := Ke.o o_v6 b7
     have o_p7 := Ke.o o_p6 b7
     have c_s7 := Ke.c r_s7
     clear r_s6 r_res6 r_h6 o_v6 o_p6 o_t6
     obtain ⟨ao_y, L_y, cap_y, rfl, _, _⟩ := o_y7.form
     have o_y7 : Hid (Own W7 W6.heap.size W7.heap.size 5 (.slice ao_y L_y cap_y) (bs st2.b)) := o_y7
     clear q4
     have a_s7 := Ke.a r_s7
     obtain ⟨W8, HW8, b8, y8, hS8, r_x8⟩ := Ke.l1 W7 #[.slice ao_n L_n cap_n, .int .i64 st2.h.n, .string st2.h.r, .slice ao_y L_y cap_y, .int .i64 st2.s] 42
     have z8 := b8.size
     have B8 := Ke.b B7 b8
     have r_s8 := Ke.r r_s7 b8
     have r_res8 := Ke.r r_res7 b8
     have o_v8 := Ke.o o_v7 b8
     have o_p8 := Ke.o o_p7 b8
     have o_n8 := Ke.o o_n7 b8
     have o_y8 := Ke.o o_y7 b8
     clear r_s7 c_s7 r_res7 o_v7 o_p7 o_n7 o_y7
     by_cases hcode : code = 0
     ·
      subst hcode
      obtain ⟨f9, hf9, hF9⟩ := HQ7.out (by rw [HC.out])
      rw [HC.out] at hF9
      have HQ4 : Hid (∃ f, ys.length - q ≤ f ∧ openF f t ys q st2 (n + 1) = R) := ⟨f9, hf9, hF9⟩
      clear hF9 hf9
      obtain ⟨c1, c2, c3, c4, c5, c6, c7⟩ := commit1_good (st := st) (t := t) (h := h) (x := x) (by rw [HC.out])
      rw [HC.out] at c7
      simp only at c7
      have hl5 : st2.l.length ≤ 200 := by rw [c7]; exact c5
      have hb5 : st2.b.length ≤ q := by rw [c7]; simp only [List.length_append]; omega
      have HZ5 : Hid (∀ s ∈ st2.l, s.size ≤ 1000000000) := by show ∀ s ∈ st2.l, s.size ≤ 1000000000; rw [c7]; exact size_app HZ.out HQ5.out
      clear c1 c2 c3 c4 c5 c6 c7
      go_wp2_with ((try rw [HW8.out]); refine wpl_partG rfl 42 _ _ rfl (W2.heap.size) 0 (sc (.slice ao_n L_n cap_n) st2.h (.slice ao_y L_y cap_y) st2.s) rfl rfl [.slice ao_v L_v cap_v, .int .i64 st.h.n, .string st.h.r, .slice ao_p L_p cap_p, .int .i64 st.s] 42 r_s8.out (Nat.le_of_ble_eq_true rfl) (sizeS _ _ _ _) (oneS _ _ rfl rfl) [.slice ao_n L_n cap_n, .int .i64 st2.h.n, .string st2.h.r, .slice ao_y L_y cap_y, .int .i64 st2.s] rfl ?_)
      intro W9 r_s9 g9
      clear a_s7
      have r_s9 : Hid (W9.heap[W2.heap.size]? = some (.cells #[.slice ao_n L_n cap_n, .int .i64 st2.h.n, .string st2.h.r, .slice ao_y L_y cap_y, .int .i64 st2.s] 42 (0, 0))) := r_s9
      have z9 := g9.size
      have B9 : Hid (Below w.heap.size w W9) := belowGro B8.out g9 B8.out.size (fun k9 h9 => by injection h9 with h9; have := B8.out.size; omega)
      have r_res9 := Ke.s r_res8 g9
      have o_v9 := Ke.t o_v8 r_s8 g9
      have o_p9 := Ke.t o_p8 r_s8 g9
      have o_n9 := Ke.t o_n8 r_s8 g9
      have o_y9 := Ke.t o_y8 r_s8 g9
      clear r_res8 r_x8 o_v8 o_p8 o_n8 o_y8
      clear r_s8
      clear g9
      have wn : IntKind.i64.wrap ((n : Int) + 1) = ((n + 1 : Nat) : Int) := by rw [IntKind.wrap_i64]; omega
      go_wp2
      go_roundw
      case rel => exact ⟨q, n + 1, st2, ao_n, L_n, cap_n, ao_y, L_y, cap_y, hq2, by omega, by go_num, rfl, HQ4, r_s9, r_res9, Own.mono o_n9.out (by omega) (by omega), Own.mono o_y9.out (by omega) (by omega), B9, by omega, hl5, hb5, HZ5⟩
      case measure => simp [intOf]; omega
     ·
      have cn : (code == 0) = false := by rw [beq_eq_false_iff_ne]; exact hcode
      have cm : (code != 0) = true := by rw [bne, cn]; rfl
      have HN : Hid (R = (st, n)) := H1.out (fun h9 => hcode (by have := h9.2; rw [HC.out] at this; exact this))
      have HLP : Hid ((L_p : Int) = (st.b.length : Int)) := by show _ = _; omega
      go_wp2_with ((try rw [HW8.out]); refine wpl_oneG rfl 3 _ _ rfl (W2.heap.size) 4 (.int .i64 (L_p : Int)) rfl rfl [.slice ao_v L_v cap_v, .int .i64 st.h.n, .string st.h.r, .slice ao_p L_p cap_p, .int .i64 st.s] 42 r_s8.out (Nat.le_of_ble_eq_true rfl) (by kernel_rfl) rfl [.slice ao_v L_v cap_v, .int .i64 st.h.n, .string st.h.r, .slice ao_p L_p cap_p, .int .i64 (L_p : Int)] rfl ?_)
      intro W9 r_s9 g9
      clear a_s7
      have r_s9 : Hid (W9.heap[W2.heap.size]? = some (.cells #[.slice ao_v L_v cap_v, .int .i64 st.h.n, .string st.h.r, .slice ao_p L_p cap_p, .int .i64 (L_p : Int)] 42 (0, 0))) := r_s9
      have z9 := g9.size
      have B9 : Hid (Below w.heap.size w W9) := belowGro B8.out g9 B8.out.size (fun k9 h9 => by injection h9 with h9; have := B8.out.size; omega)
      have r_res9 := Ke.s r_res8 g9
      have o_v9 := Ke.t o_v8 r_s8 g9
      have o_p9 := Ke.t o_p8 r_s8 g9
      have o_n9 := Ke.t o_n8 r_s8 g9
      have o_y9 := Ke.t o_y8 r_s8 g9
      clear r_res8 r_x8 o_v8 o_p8 o_n8 o_y8
      clear r_s8
      clear g9
      go_wp2_with (first | (refine wpList_load_row rfl 42 _ rfl (W2.heap.size) rfl 42 (sc (.slice ao_v L_v cap_v) st.h (.slice ao_p L_p cap_p) (L_p : Int)) (0, 0) _ r_s9.out Tryz.underlying42 rfl (sizeS _ _ _ _) ?_) | (refine wpList_store_row rfl 42 _ _ rfl (w.heap.size) (sc (.slice ao_v L_v cap_v) st.h (.slice ao_p L_p cap_p) (L_p : Int)) rfl rfl 42 _ r_res9.out (sizeS _ _ _ _) rfl (oneS _ _ rfl rfl) ?_))
      refine bodyPost_ret (res_row_tmp rfl _ _ (w.heap.size) 42 (sc (.slice ao_v L_v cap_v) st.h (.slice ao_p L_p cap_p) (L_p : Int)) (0, 0) _ rfl (setRow_heap _ _ _ _ _ (0, 0) r_res9.out) Tryz.underlying42 rfl (sizeS _ _ _ _)) rfl ⟨.slice ao_v L_v cap_v, .slice ao_p L_p cap_p, by rw [HN.out]; simp only [sc]; rw [← HLP.out]; rfl, ?_, ?_, below_setRow B9.out (by omega) _⟩
      ·
       rw [HN.out]
       exact (Own.setRow o_v9.out _ (by omega)).mono (by omega) (by rw [size_setRow]; omega)
      ·
       rw [HN.out]
       exact (Own.setRow o_p9.out _ (by omega)).mono (by omega) (by rw [size_setRow]; omega)
   ·
    have hl3 : ¬ ((a : Int) < ((xs.length : Int) : Int)) := fun h9 => hlt (hlt2.1 h9)
    clear hlt2
    have HN : Hid (R = (st, n)) := open_end hlt HF.out
    have HLP : Hid ((L_p : Int) = (st.b.length : Int)) := by show _ = _; omega
    go_wp2_with (refine wpl_oneG rfl 3 _ _ rfl (W2.heap.size) 4 (.int .i64 (L_p : Int)) rfl rfl [.slice ao_v L_v cap_v, .int .i64 st.h.n, .string st.h.r, .slice ao_p L_p cap_p, .int .i64 st.s] 42 r_s4.out (Nat.le_of_ble_eq_true rfl) (by kernel_rfl) rfl [.slice ao_v L_v cap_v, .int .i64 st.h.n, .string st.h.r, .slice ao_p L_p cap_p, .int .i64 (L_p : Int)] rfl ?_)
    intro W5 r_s5 g5
    have r_s5 := Ke.h r_s5
    have z5 := g5.size
    have B5 : Hid (Below w.heap.size w W5) := belowGro B4.out g5 B4.out.size (fun k9 h9 => by injection h9 with h9; have := B4.out.size; omega)
    have r_res5 := Ke.s r_res4 g5
    have o_v5 := Ke.t o_v4 r_s4 g5
    have o_p5 := Ke.t o_p4 r_s4 g5
    have c_s5 := Ke.c r_s5
    clear r_res4 o_v4 o_p4
    clear r_s4 c_s4
    clear g5
    go_wp2_with (first | (refine wpList_load_row rfl 42 _ rfl (W2.heap.size) rfl 42 (sc (.slice ao_v L_v cap_v) st.h (.slice ao_p L_p cap_p) (L_p : Int)) (0, 0) _ r_s5.out Tryz.underlying42 rfl (sizeS _ _ _ _) ?_) | (refine wpList_store_row rfl 42 _ _ rfl (w.heap.size) (sc (.slice ao_v L_v cap_v) st.h (.slice ao_p L_p cap_p) (L_p : Int)) rfl rfl 42 _ r_res5.out (sizeS _ _ _ _) rfl (oneS _ _ rfl rfl) ?_))
    refine bodyPost_ret (res_row_tmp rfl _ _ (w.heap.size) 42 (sc (.slice ao_v L_v cap_v) st.h (.slice ao_p L_p cap_p) (L_p : Int)) (0, 0) _ rfl (setRow_heap _ _ _ _ _ (0, 0) r_res5.out) Tryz.underlying42 rfl (sizeS _ _ _ _)) rfl ⟨.slice ao_v L_v cap_v, .slice ao_p L_p cap_p, by rw [HN.out]; simp only [sc]; rw [← HLP.out]; rfl, ?_, ?_, below_setRow B5.out (by omega) _⟩
    ·
     rw [HN.out]
     exact (Own.setRow o_v5.out _ (by omega)).mono (by omega) (by rw [size_setRow]; omega)
    ·
     rw [HN.out]
     exact (Own.setRow o_p5.out _ (by omega)).mono (by omega) (by rw [size_setRow]; omega)
end Go.Proofs.YtchonoonclllbabGreatDoor.Sr
