/- Texts in one: KpI, KpJ. -/
import Derived.Test.YtchonoonclllbaaGreatDoorPg6
import Derived.Test.YtchonoonclllbaaGreatDoorPg32
import Derived.Test.YtchonoonclllbaaGreatDoorPg28
import Derived.Test.YtchonoonclllbaaGreatDoorPg36
import Derived.Test.YtchonoonclllbaaGreatDoorPg14
import Derived.Test.YtchonoonclllbaaGreatDoorPg15
import Derived.Test.YtchonoonclllbaaGreatDoorPg35
namespace Go.Proofs.YtchonoonclllbaaGreatDoor.Sr
open Go.RowKit Go.Proofs.YtchonoonclllbaaGreatDoor.Mem Go.Proofs.YtchonoonclllbaaGreatDoor.Laws Go.Proofs.YtchonoonclllbaaGreatDoor.Bytes Go.Proofs.YtchonoonclllbaaGreatDoor.Sha Go.Proofs.YtchonoonclllbaaGreatDoor.Tr Go.Proofs.YtchonoonclllbaaGreatDoor.He Go.Proofs.YtchonoonclllbaaGreatDoor.Lg
set_option linter.unusedVariables false
set_option linter.unusedSimpArgs false
set_option maxRecDepth 1000000 in
set_option maxHeartbeats 8000000 in
theorem withc_impl (w : World) (v vb vt vx : Value) (st : Sto) (t : List Hd) (hd : Hd) (x : List ByteArray) {a0 a1 a2 a3 : Addr} (hG : Glob w) (hF : Is.Four w a0 a1 a2 a3) (hs : Sl w v (ss st.l)) (hb : Sl w vb (bs st.b)) (hst : Sh w vt t) (hsx : Sl w vx (ss x)) (hl : st.l.length ≤ 1000000000) (hbl : st.b.length ≤ 1000000000) (htl : t.length ≤ 1000000000) (hxl : x.length ≤ 1000000000)
  (hz : ∀ s ∈ st.l, s.size ≤ 10000000000) (hzx : ∀ s ∈ x, s.size ≤ 10000000000) (htx : Puts.tot x ≤ 100000000000) (hdr : hd.r.size ≤ 100000000000) (hhr : st.h.r.size ≤ 1000000000000) :
  Calls Tryz.prog 59 #[.agg #[v, .int .i64 st.h.n, .string st.h.r, vb, .int .i64 st.s], vt, .agg #[.int .i64 hd.n, .string hd.r], vx] w fun e w' => ∃ v' vb', e = .returned (.tuple #[.agg #[v', .int .i64 (commitQ st t hd x).1.h.n, .string (commitQ st t hd x).1.h.r, vb', .int .i64 (commitQ st t hd x).1.s], .int .i64 (commitQ st t hd x).2]) ∧ Own w' w.heap.size w'.heap.size 9 v' (ss (commitQ st t hd x).1.l) ∧ Own w' w.heap.size w'.heap.size 5 vb' (bs (commitQ st t hd x).1.b) ∧ Below w.heap.size w w' := by
 obtain ⟨R, hR⟩ : ∃ R, commitQ st t hd x = R := ⟨_, rfl⟩
 have HR : Hid (commitQ st t hd x = R) := hR
 rw [hR]
 have HG : Hid (Glob w) := hG
 have HF : Hid (Is.Four w a0 a1 a2 a3) := hF
 obtain ⟨l, h, b, s⟩ := st
 simp only at *
 have HS : Hid (Sl w v (ss l)) := hs
 have HSB : Hid (Sl w vb (bs b)) := hb
 have HT : Hid (Sh w vt t) := hst
 have HX : Hid (Sl w vx (ss x)) := hsx
 obtain ⟨ao0, cap0, rfl, hc0⟩ := hs.form
 obtain ⟨ao1, cap1, rfl, hc1⟩ := hb.form
 obtain ⟨ao2, cap2, rfl, hc2⟩ := hst.form
 obtain ⟨ao3, cap3, rfl, hc3⟩ := hsx.form
 simp only [ss_len, bs_len] at *
 clear hs hb hst hsx hR hG hF
 have B0 : Hid (Below w.heap.size w w) := Below.refl _ _
 obtain ⟨W1, HW1, b1, y1, hS1, r_a1, r_h1, r_res1⟩ := Ke.l3 w #[.slice ao0 l.length cap0, .int .i64 h.n, .string h.r, .slice ao1 b.length cap1, .int .i64 s] 30 #[.int .i64 hd.n, .string hd.r] 26 #[.slice none 0 0, .int .i64 0, .string ⟨#[]⟩, .slice none 0 0, .int .i64 0] 30
 have z1 := b1.size
 have B1 := Ke.b B0 b1
 have c_a1 := Ke.c r_a1
 have c_h1 := Ke.c r_h1
 have q1 : ∀ W v1 v2, Sl W v1 (ss l) → Sl W v2 (bs b) → _ := fun W v1 v2 h1 h2 => ownstore_impl W v1 v2 ⟨l, h, b, s⟩ h1 h2 hl hbl (fun s hs => Nat.le_trans (hz s hs) (by omega)) hhr
 have q2 : ∀ W v1 v2 v3, Glob W → Is.Four W a0 a1 a2 a3 → Sl W v1 (ss l) → Sh W v2 t → Sl W v3 (ss x) → _ := fun W v1 v2 v3 g0 g1 h1 h2 h3 => extend_impl W v1 v2 v3 l x h hd t g0 g1 h1 h2 h3 hl htl hxl hz hzx hhr (by omega)
 have q3 : ∀ W v1, Glob W → Sl W v1 (ss x) → _ := fun W v1 g0 h1 => putc_impl W hd v1 x g0 h1 hxl htx hdr
 obtain ⟨E, hE⟩ : ∃ E, extend l h t hd x = E := ⟨_, rfl⟩
 simp only [hE] at q2
 have HE : Hid (extend l h t hd x = E) := hE
 obtain ⟨L, H, C⟩ := E
 simp only at q1 q2
 obtain ⟨Pb, hPb⟩ : ∃ P, putC hd x = P := ⟨_, rfl⟩
 have hPl : Pb.length ≤ 500000000000 := by rw [← hPb]; have h9 := put_len hd x; have h8 := body_len hd x; unfold putC; split; omega; simp
 simp only [hPb] at q3
 have HP : Hid (putC hd x = Pb) := hPb
 clear hPb hE hz hzx htx hdr
 have HH : Hid (b.length + Pb.length ≤ 60000 → C = 0 → R = (⟨L, H, b ++ Pb, s⟩, 0)) := by
  intro h6 hC
  obtain ⟨_, h2, _, h4, h5, _, h7⟩ := extend_good (l := l) (x := x) (hd := h) (h := hd) (t := t) (by rw [HE.out]; exact hC)
  rw [List.length_append] at h5
  have h8 : putC hd x = put hd x := putC_yes h2 h4 (by omega)
  rw [← HR.out]
  unfold commitQ commit1
  simp only
  rw [HE.out, HP.out, if_pos h6, if_pos hC, ← h8, HP.out]
 have HJ : Hid (b.length + Pb.length ≤ 60000 → ¬ C = 0 → R = (⟨l, h, b, s⟩, C)) := by
  intro h6 hC
  rw [← HR.out]
  unfold commitQ commit1
  simp only
  rw [HE.out, HP.out, if_pos h6, if_neg hC]
 have HI : Hid (¬ b.length + Pb.length ≤ 60000 → R = (⟨l, h, b, s⟩, 1)) := by
  intro h6
  rw [← HR.out]
  unfold commitQ
  simp only
  rw [HP.out, if_neg h6]
 go_enter Tryz.func59, Tryz.ntmps59
 go_wp2_with fail
 rw [HW1.out]
 refine wp_region_held_drew (S := fun w' => w'.cell? ⟨w.heap.size, 0, none⟩ = some (.slice ao0 l.length cap0) ∧ w'.cell? ⟨w.heap.size, 1, none⟩ = some (.int .i64 h.n) ∧ w'.cell? ⟨w.heap.size, 2, none⟩ = some (.string h.r) ∧ w'.cell? ⟨w.heap.size, 3, none⟩ = some (.slice ao1 b.length cap1) ∧ w'.cell? ⟨w.heap.size, 4, none⟩ = some (.int .i64 s) ∧ w'.cell? ⟨w.heap.size + 1, 0, none⟩ = some (.int .i64 hd.n) ∧ w'.cell? ⟨w.heap.size + 1, 1, none⟩ = some (.string hd.r)) (by kernel_rfl) ⟨(c_a1 0), (c_a1 1), (c_a1 2), (c_a1 3), (c_a1 4), (c_h1 0), (c_h1 1)⟩ (fun hHeld => ?_)
 refine Ke.y 0 rfl (fun _ _ _ h => h) ?_
 try simp only [Act.put, pu1, pu2, pu3, pu4, pu5, pu6]
 refine Ke.y 1 rfl (fun _ _ _ h => h) ?_
 try simp only [Act.put, pu1, pu2, pu3, pu4, pu5, pu6]
 refine Ke.y 2 rfl (fun _ _ _ h => h) ?_
 try simp only [Act.put, pu1, pu2, pu3, pu4, pu5, pu6]
 refine Ke.y 3 rfl (fun _ _ _ h => h) ?_
 try simp only [Act.put, pu1, pu2, pu3, pu4, pu5, pu6]
 refine Ke.z 4 rfl (fun K hK => ?_)
 go_simp
 refine (q3 W1.drew _ (HG.out.later (Below.drew B1.out)) (Sl.later (w := W1) (HX.out.later B1.out) (Below.drew (Below.refl _ _)))).mono ?_
 rintro e W2 ⟨v_u, rfl, o_u2, b2⟩
 have b2 : Below W1.heap.size W1 W2 := (Below.drew (Below.refl _ _)).trans b2
 refine hK.out _ _ ⟨(keepR (W := W1) hHeld.1 b2), (keepR (W := W1) hHeld.2.1 b2), (keepR (W := W1) hHeld.2.2.1 b2), (keepR (W := W1) hHeld.2.2.2.1 b2), (keepR (W := W1) hHeld.2.2.2.2.1 b2), (keepR (W := W1) hHeld.2.2.2.2.2.1 b2), (keepR (W := W1) hHeld.2.2.2.2.2.2 b2)⟩ (fun hHeld => ?_)
 clear hK K
 try simp only [Act.put, pu1, pu2, pu3, pu4, pu5, pu6]
 have o_u2 : Own W2 W1.heap.size W2.heap.size 5 _ _ := o_u2
 obtain ⟨ao_u, L_u, cap_u, rfl, hL_u, hM_u⟩ := o_u2.form
 have o_u2 : Hid (Own W2 W1.heap.size W2.heap.size 5 (.slice ao_u L_u cap_u) (bs Pb)) := o_u2
 clear hL_u hM_u
 have z2 := b2.size
 have B2 := Ke.b B1 b2
 have r_a2 := Ke.r r_a1 b2
 have r_h2 := Ke.r r_h1 b2
 have r_res2 := Ke.r r_res1 b2
 clear r_a1 c_a1 r_h1 c_h1 r_res1
 refine Ke.z 5 rfl (fun K hK => ?_)
 go_simp
 refine hK.out _ _ ⟨(keepR (W := W2) hHeld.1 ((Below.refl _ _).alloc (Nat.le_refl _) _)), (keepR (W := W2) hHeld.2.1 ((Below.refl _ _).alloc (Nat.le_refl _) _)), (keepR (W := W2) hHeld.2.2.1 ((Below.refl _ _).alloc (Nat.le_refl _) _)), (keepR (W := W2) hHeld.2.2.2.1 ((Below.refl _ _).alloc (Nat.le_refl _) _)), (keepR (W := W2) hHeld.2.2.2.2.1 ((Below.refl _ _).alloc (Nat.le_refl _) _)), (keepR (W := W2) hHeld.2.2.2.2.2.1 ((Below.refl _ _).alloc (Nat.le_refl _) _)), (keepR (W := W2) hHeld.2.2.2.2.2.2 ((Below.refl _ _).alloc (Nat.le_refl _) _))⟩ (fun hHeld => ?_)
 clear hK K
 try simp only [Act.put, pu1, pu2, pu3, pu4, pu5, pu6]
 obtain ⟨W3, HW3, b3, ff3⟩ : ∃ X, Hid ((W2.alloc (.cells #[.slice ao1 b.length cap1, .slice ao_u L_u cap_u] 22)) = X) ∧ Below W2.heap.size W2 X ∧ Hid (Sl X (.slice (some ⟨W2.heap.size, 0, none⟩) 2 2) [.slice ao1 b.length cap1, .slice ao_u L_u cap_u]) := ⟨_, rfl, ((Below.refl _ _).alloc (Nat.le_refl _) _), slAlloc W2 [.slice ao1 b.length cap1, .slice ao_u L_u cap_u] 22⟩
 have HHW3 := HW3.out
 rw [HHW3] at hHeld ⊢
 clear HHW3
 have z3 := b3.size
 have B3 := Ke.b B2 b3
 have r_a3 := Ke.r r_a2 b3
 have r_h3 := Ke.r r_h2 b3
 have r_res3 := Ke.r r_res2 b3
 have o_u3 := Ke.o o_u2 b3
 clear r_a2 r_h2 r_res2 o_u2
 have f_ps3 : Hid (Sl W3 (.slice (some ⟨W2.heap.size, 0, none⟩) 2 2) [.slice ao1 b.length cap1, .slice ao_u L_u cap_u]) := ff3.out
 clear ff3
 have qj := joined_impl W3 _ _ [b, Pb] f_ps3.out rfl (part2 (HSB.out.later B3.out) o_u3.out.sl) (by simp) (by simp; omega)
 have e9 : [b, Pb].flatten = b ++ Pb := by simp
 rw [e9] at qj
 clear e9
 refine Ke.z 6 rfl (fun K hK => ?_)
 go_simp
 refine (qj).mono ?_
 rintro e W4 ⟨v_z, rfl, o_z4, b4⟩
 refine hK.out _ _ ⟨(keepR (W := W3) hHeld.1 b4), (keepR (W := W3) hHeld.2.1 b4), (keepR (W := W3) hHeld.2.2.1 b4), (keepR (W := W3) hHeld.2.2.2.1 b4), (keepR (W := W3) hHeld.2.2.2.2.1 b4), (keepR (W := W3) hHeld.2.2.2.2.2.1 b4), (keepR (W := W3) hHeld.2.2.2.2.2.2 b4)⟩ (fun hHeld => ?_)
 clear hK K
 try simp only [Act.put, pu1, pu2, pu3, pu4, pu5, pu6]
 obtain ⟨ao_z, L_z, cap_z, rfl, hL_z, hM_z⟩ := o_z4.form
 have o_z4 : Hid (Own W4 W3.heap.size W4.heap.size 5 (.slice ao_z L_z cap_z) (bs (b ++ Pb))) := o_z4
 clear hL_z hM_z
 have z4 := b4.size
 have B4 := Ke.b B3 b4
 have r_a4 := Ke.r r_a3 b4
 have r_h4 := Ke.r r_h3 b4
 have r_res4 := Ke.r r_res3 b4
 have c_a4 := Ke.c r_a4
 have c_h4 := Ke.c r_h4
 clear r_a3 r_h3 r_res3 o_u3
 clear f_ps3
 refine Ke.y 7 rfl (fun _ _ _ h => h) ?_
 try simp only [Act.put, pu1, pu2, pu3, pu4, pu5, pu6]
 refine wpAnyH_done (by kernel_rfl) ?_ _
 clear hHeld
 have hLz : L_z ≤ b.length + Pb.length ∧ b.length + Pb.length ≤ L_z := by obtain ⟨a9, L9, c9, he, h1, h2⟩ := Mem.Own.form o_z4.out; injection he with _ he2 _; rw [bs_len, List.length_append] at h1 h2; omega
 skip
 by_cases h6 : (60000 : Int) < (L_z : Int)
 ·
  have HN : Hid (R = (⟨l, h, b, s⟩, 1)) := HI.out (by omega)
  clear o_z4
  go_wp2_with fail
  refine (q1 W4 _ _ (HS.out.later B4.out) (HSB.out.later B4.out)).mono ?_
  rintro e W5 ⟨v_s, v_p, rfl, o_s5, o_p5, b5⟩
  obtain ⟨lo_s, hi_s, lo_p, hi_p, d1_s, d2_s, d3_s, d4_s, d5_s, d6_s, d7_s, oo_s, oo_p⟩ := Sr.pairN o_s5 o_p5 b5.size
  clear o_s5 o_p5
  obtain ⟨ao_s, L_s, cap_s, rfl, _, _⟩ := oo_s.form
  obtain ⟨ao_p, L_p, cap_p, rfl, _, _⟩ := oo_p.form
  have o_s5 : Hid (Own W5 lo_s hi_s 9 (.slice ao_s L_s cap_s) (ss l)) := oo_s
  have o_p5 : Hid (Own W5 lo_p hi_p 5 (.slice ao_p L_p cap_p) (bs b)) := oo_p
  clear oo_s oo_p
  have z5 := b5.size
  have B5 := Ke.b B4 b5
  have r_a5 := Ke.r r_a4 b5
  have r_res5 := Ke.r r_res4 b5
  have c_a5 := Ke.c r_a5
  clear r_a4 c_a4 r_h4 c_h4 r_res4
  go_wp2_with (refine wpList_store_row rfl 30 _ _ rfl (w.heap.size + 1 + 1) (sc (.slice ao_s L_s cap_s) h (.slice ao_p L_p cap_p) s) rfl rfl 30 _ r_res5.out (sizeS _ _ _ _) rfl (oneS _ _ rfl rfl) ?_)
  refine bodyPost_ret (res_row_tmp rfl _ _ (w.heap.size + 1 + 1) 30 (sc (.slice ao_s L_s cap_s) h (.slice ao_p L_p cap_p) s) (0, 0) _ rfl (setRow_heap _ _ _ _ _ (0, 0) r_res5.out) Tryz.underlying30 rfl (sizeS _ _ _ _)) rfl ⟨.slice ao_s L_s cap_s, .slice ao_p L_p cap_p, by rw [HN.out]; rfl, ?_, ?_, below_setRow B5.out (by omega) _⟩
  ·
   rw [HN.out]
   exact (Own.setRow o_s5.out _ (by omega)).mono (by omega) (by rw [size_setRow]; omega)
  ·
   rw [HN.out]
   exact (Own.setRow o_p5.out _ (by omega)).mono (by omega) (by rw [size_setRow]; omega)
 ·
  have h7 : b.length + Pb.length ≤ 60000 := by omega
  go_wp2_with fail
  refine (q2 W4 _ _ _ (HG.out.later B4.out) (HF.out.later B4.out) (HS.out.later B4.out) (HT.out.later B4.out) (HX.out.later B4.out)).mono ?_
  rintro e W5 ⟨v_n, rfl, o_n5, b5⟩
  obtain ⟨ao_n, L_n, cap_n, rfl, hL_n, hM_n⟩ := o_n5.form
  have o_n5 : Hid (Own W5 W4.heap.size W5.heap.size 9 (.slice ao_n L_n cap_n) (ss L)) := o_n5
  clear hL_n hM_n
  have z5 := b5.size
  have B5 := Ke.b B4 b5
  have r_a5 := Ke.r r_a4 b5
  have r_res5 := Ke.r r_res4 b5
  have o_z5 := Ke.o o_z4 b5
  have c_a5 := Ke.c r_a5
  clear r_a4 c_a4 r_h4 c_h4 r_res4 o_z4
  have a_a5 := Ke.a r_a5
  obtain ⟨W6, HW6, b6, y6, hS6, r_l6⟩ := Ke.l1 W5 #[.slice ao_n L_n cap_n, .int .i64 H.n, .string H.r] 28
  have z6 := b6.size
  have B6 := Ke.b B5 b6
  have r_res6 := Ke.r r_res5 b6
  have o_z6 := Ke.o o_z5 b6
  have o_n6 := Ke.o o_n5 b6
  clear r_a5 c_a5 r_res5 o_z5 o_n5
  by_cases hC : C = 0
  ·
   have HN : Hid (R = (⟨L, H, b ++ Pb, s⟩, 0)) := HH.out h7 hC
   subst hC
   go_wp2_with ((try rw [HW6.out]); refine wpList_store_row rfl 30 _ _ rfl (w.heap.size + 1 + 1) (sc (.slice ao_n L_n cap_n) H (.slice ao_z L_z cap_z) s) rfl rfl 30 _ r_res6.out (sizeS _ _ _ _) rfl (oneS _ _ rfl rfl) ?_)
   refine bodyPost_ret (res_row_tmp rfl _ _ (w.heap.size + 1 + 1) 30 (sc (.slice ao_n L_n cap_n) H (.slice ao_z L_z cap_z) s) (0, 0) _ rfl (setRow_heap _ _ _ _ _ (0, 0) r_res6.out) Tryz.underlying30 rfl (sizeS _ _ _ _)) rfl ⟨.slice ao_n L_n cap_n, .slice ao_z L_z cap_z, by rw [HN.out]; rfl, ?_, ?_, below_setRow B6.out (by omega) _⟩
   ·
    rw [HN.out]
    exact (Own.setRow o_n6.out _ (by omega)).mono (by omega) (by rw [size_setRow]; omega)
   ·
    rw [HN.out]
    exact (Own.setRow o_z6.out _ (by omega)).mono (by omega) (by rw [size_setRow]; omega)
  ·
   have cn : (C == 0) = false := by rw [beq_eq_false_iff_ne]; exact hC
   have cm : (C != 0) = true := by rw [bne, cn]; rfl
   have HN : Hid (R = (⟨l, h, b, s⟩, C)) := HJ.out h7 hC
   go_wp2_with fail
   rw [HW6.out]
   clear a_a5
   refine (q1 W6 _ _ (HS.out.later B6.out) (HSB.out.later B6.out)).mono ?_
   rintro e W7 ⟨v_s, v_p, rfl, o_s7, o_p7, b7⟩
   obtain ⟨lo_s, hi_s, lo_p, hi_p, d1_s, d2_s, d3_s, d4_s, d5_s, d6_s, d7_s, oo_s, oo_p⟩ := Sr.pairN o_s7 o_p7 b7.size
   clear o_s7 o_p7
   obtain ⟨ao_s, L_s, cap_s, rfl, _, _⟩ := oo_s.form
   obtain ⟨ao_p, L_p, cap_p, rfl, _, _⟩ := oo_p.form
   have o_s7 : Hid (Own W7 lo_s hi_s 9 (.slice ao_s L_s cap_s) (ss l)) := oo_s
   have o_p7 : Hid (Own W7 lo_p hi_p 5 (.slice ao_p L_p cap_p) (bs b)) := oo_p
   clear oo_s oo_p
   have z7 := b7.size
   have B7 := Ke.b B6 b7
   have r_res7 := Ke.r r_res6 b7
   clear r_res6 r_l6 o_z6 o_n6
   go_wp2_with (refine wpList_store_row rfl 30 _ _ rfl (w.heap.size + 1 + 1) (sc (.slice ao_s L_s cap_s) h (.slice ao_p L_p cap_p) s) rfl rfl 30 _ r_res7.out (sizeS _ _ _ _) rfl (oneS _ _ rfl rfl) ?_)
   refine bodyPost_ret (res_row_tmp rfl _ _ (w.heap.size + 1 + 1) 30 (sc (.slice ao_s L_s cap_s) h (.slice ao_p L_p cap_p) s) (0, 0) _ rfl (setRow_heap _ _ _ _ _ (0, 0) r_res7.out) Tryz.underlying30 rfl (sizeS _ _ _ _)) rfl ⟨.slice ao_s L_s cap_s, .slice ao_p L_p cap_p, by rw [HN.out]; rfl, ?_, ?_, below_setRow B7.out (by omega) _⟩
   ·
    rw [HN.out]
    exact (Own.setRow o_s7.out _ (by omega)).mono (by omega) (by rw [size_setRow]; omega)
   ·
    rw [HN.out]
    exact (Own.setRow o_p7.out _ (by omega)).mono (by omega) (by rw [size_setRow]; omega)
set_option maxRecDepth 1000000 in
set_option maxHeartbeats 8000000 in
theorem open_impl (w : World) (vt vb : Value) (t : List Hd) (xs ys : List Int) {a0 a1 a2 a3 : Addr} (hG : Glob w) (hN : NoC w) (hF : Is.Four w a0 a1 a2 a3) (hst : Sh w vt t) (hs : Sl w vb (bs xs)) (hb : Byt xs) (hx : xs.length ≤ 1000000000000) (htl : t.length ≤ 1000000000) (hys : xs.take 60000 = ys) :
  Calls Tryz.prog 65 #[vt, vb] w fun e w' => ∃ v' vb', e = .returned (.tuple #[.agg #[v', .int .i64 (openS t xs).1.h.n, .string (openS t xs).1.h.r, vb', .int .i64 (openS t xs).1.s], .int .i64 ((openS t xs).2 : Int)]) ∧ Own w' w.heap.size w'.heap.size 9 v' (ss (openS t xs).1.l) ∧ Own w' w.heap.size w'.heap.size 5 vb' (bs (openS t xs).1.b) ∧ Below w.heap.size w w' := by
 obtain ⟨R, hR⟩ : ∃ R, openF ys.length t ys 0 new12 0 = R := ⟨_, rfl⟩
 have HF0 : Hid (∃ f, ys.length - 0 ≤ f ∧ openF f t ys 0 new12 0 = R) := ⟨ys.length, by omega, hR⟩
 have eO : openS t xs = (⟨R.1.l, R.1.h, R.1.b, (R.1.b.length : Int)⟩, R.2) := by unfold openS; rw [hys, hR]
 rw [eO]
 have hyl : ys.length ≤ 60000 := by rw [← hys, List.length_take]; omega
 have HBY : Hid (Byt ys) := by show Byt ys; rw [← hys]; exact fun y hy => hb y (List.mem_of_mem_take hy)
 have HS : Hid (Sl w vb (bs xs)) := hs
 have HT : Hid (Sh w vt t) := hst
 have HG : Hid (Glob w) := hG
 have HNC : Hid (NoC w) := hN
 have HFO : Hid (Is.Four w a0 a1 a2 a3) := hF
 have HYS : Hid (xs.take 60000 = ys) := hys
 obtain ⟨ao0, cap0, rfl, hc0⟩ := hs.form
 obtain ⟨ao2, cap2, rfl, hc2⟩ := hst.form
 simp only [bs_len] at *
 clear hs hst hb hR eO hys hG hN hF
 have B0 : Hid (Below w.heap.size w w) := Below.refl _ _
 obtain ⟨W1, HW1, b1, y1, hS1, r_res1⟩ := Ke.l1 w #[.slice none 0 0, .int .i64 0, .string ⟨#[]⟩, .slice none 0 0, .int .i64 0] 30
 have z1 := b1.size
 have B1 := Ke.b B0 b1
 have q0 : ∀ W, Glob W → _ := fun W g0 => storenew_impl W g0
 obtain ⟨M, hM⟩ : ∃ M, headOf [] = M := ⟨_, rfl⟩
 simp only [hM] at q0
 have HM : Hid (headOf [] = M) := hM
 clear hM
 have hm1 : min (xs.length : Int) 60000 ≤ (cap0 : Int) := by omega
 have hm0 : 0 ≤ min (xs.length : Int) 60000 := by omega
 have hm2 : ¬ min (xs.length : Int) 60000 < 0 := by omega
 have hm3 : ¬ (cap0 : Int) < min (xs.length : Int) 60000 := by omega
 have HV : Hid (Sl w (.slice ao0 (min (xs.length : Int) 60000).toNat cap0) (bs ys)) := by
  show Sl _ _ _
  have h9 := Sl.front HS.out (min (xs.length : Int) 60000).toNat (by rw [bs_len]; omega)
  have e8 : ys = xs.take (min (xs.length : Int) 60000).toNat := by
   rw [← HYS.out]
   by_cases h7 : xs.length ≤ 60000
   ·
    rw [List.take_of_length_le h7, List.take_of_length_le (by omega)]
   ·
    rw [show (min (xs.length : Int) 60000).toNat = 60000 by omega]
  have e9 : bs ys = (bs xs).take (min (xs.length : Int) 60000).toNat := by rw [e8]; unfold bs; rw [List.map_take]
  rw [e9]
  exact h9
 go_enter Tryz.func65, Tryz.ntmps65
 go_wp2_with fail
 rw [HW1.out]
 refine (q0 W1 (HG.out.later B1.out)).mono ?_
 rintro e W2 ⟨v_s0, v_p0, rfl, o_s02, o_p02, b2⟩
 obtain ⟨lo_s0, hi_s0, lo_p0, hi_p0, d1_s0, d2_s0, d3_s0, d4_s0, d5_s0, d6_s0, d7_s0, oo_s0, oo_p0⟩ := Sr.pairN o_s02 o_p02 b2.size
 clear o_s02 o_p02
 obtain ⟨ao_s0, L_s0, cap_s0, rfl, _, _⟩ := oo_s0.form
 obtain ⟨ao_p0, L_p0, cap_p0, rfl, _, _⟩ := oo_p0.form
 have o_s02 : Hid (Own W2 lo_s0 hi_s0 9 (.slice ao_s0 L_s0 cap_s0) (ss ([] : List ByteArray))) := oo_s0
 have o_p02 : Hid (Own W2 lo_p0 hi_p0 5 (.slice ao_p0 L_p0 cap_p0) (bs ([] : List Int))) := oo_p0
 clear oo_s0 oo_p0
 have z2 := b2.size
 have B2 := Ke.b B1 b2
 have r_res2 := Ke.r r_res1 b2
 clear r_res1
 obtain ⟨W3, HW3, b3, y3, hS3, r_s3⟩ := Ke.l1 W2 #[.slice ao_s0 L_s0 cap_s0, .int .i64 M.n, .string M.r, .slice ao_p0 L_p0 cap_p0, .int .i64 0] 30
 have z3 := b3.size
 have B3 := Ke.b B2 b3
 have r_res3 := Ke.r r_res2 b3
 have o_s03 := Ke.o o_s02 b3
 have o_p03 := Ke.o o_p02 b3
 clear r_res2 o_s02 o_p02
 go_wp2_with fail
 rw [HW3.out]
 go_loopw [7] (fun nv wr => ∃ (a n : Nat) (st : Sto) (ao : Option Addr) (L cap lo hi : Nat) (ao' : Option Addr) (L' cap' lo' hi' : Nat), a ≤ ys.length ∧ n ≤ a ∧ nv = .int .i64 (n : Int) ∧ Hid (∃ f, ys.length - a ≤ f ∧ openF f t ys a st n = R) ∧ Hid (st.b = ys.take a) ∧ Hid (wr.heap[W2.heap.size]? = some (.cells #[.slice ao L cap, .int .i64 st.h.n, .string st.h.r, .slice ao' L' cap', .int .i64 st.s] 30 (0, 0))) ∧ Hid (wr.heap[w.heap.size]? = some (.cells #[.slice none 0 0, .int .i64 0, .string ⟨#[]⟩, .slice none 0 0, .int .i64 0] 30 (0, 0))) ∧ W1.heap.size ≤ lo ∧ hi ≤ wr.heap.size ∧ (W2.heap.size < lo ∨ hi ≤ W2.heap.size) ∧ W1.heap.size ≤ lo' ∧ hi' ≤ wr.heap.size ∧ (W2.heap.size < lo' ∨ hi' ≤ W2.heap.size) ∧ (hi ≤ lo' ∨ hi' ≤ lo) ∧ lo ≤ hi ∧ lo' ≤ hi' ∧ Hid (Own wr lo hi 9 (.slice ao L cap) (ss st.l)) ∧ Hid (Own wr lo' hi' 5 (.slice ao' L' cap') (bs st.b)) ∧ Hid (Below w.heap.size w wr) ∧ W3.heap.size ≤ wr.heap.size ∧ st.l.length ≤ 200 ∧ st.h.r.size ≤ 1000 ∧ Hid (∀ s ∈ st.l, s.size ≤ 1000000000)) (fun nv _ => ys.length - (intOf nv).toNat)
 case atStart =>
  refine ⟨0, 0, new12, ao_s0, L_s0, cap_s0, lo_s0, hi_s0, ao_p0, L_p0, cap_p0, lo_p0, hi_p0, Nat.zero_le _, Nat.le_refl _, rfl, HF0, (by show _ = _; rw [List.take_zero]; rfl), ?_, r_res3, by omega, by omega, by omega, by omega, by omega, by omega, by omega, by omega, by omega, o_s03, o_p03, B3, Nat.le_refl _, Nat.zero_le _, ?_, fun s hs => by cases hs⟩
  ·
   show _ = _
   rw [r_s3.out, ← HM.out]
   rfl
  ·
   have h9 := headOf_size ([] : List ByteArray)
   show (headOf []).r.size ≤ 1000
   omega
 case round =>
  obtain ⟨a, n, st, ao_v, L_v, cap_v, lo_v, hi_v, ao_p, L_p, cap_p, lo_p, hi_p, ha, hna, rfl, HF, HSTB, r_s4, r_res4, d1, d2, d3, d4, d5, d6', d7, d8, d9, o_v4, o_p4, B4, z4, hl2, hh2, HZ⟩ := hrel
  obtain ⟨W4, hW4⟩ : ∃ X, X = wr := ⟨_, rfl⟩
  subst hW4
  clear HF0 r_s3 r_res3 o_s03 o_p03
  have hstl : st.b.length = a := by rw [HSTB.out, List.length_take]; omega
  have HSTL : Hid (st.b.length = a) := hstl
  have hLp : L_p = a := by obtain ⟨a9, L9, c9, he, h1, h2⟩ := Mem.Own.form o_p4.out; injection he with _ he2 _; rw [bs_len] at h1 h2; omega
  subst hLp
  clear hstl
  have c_s4 := Ke.c r_s4
  have q2 := getc_land W4 _ ys (L_p : Int) (HG.out.later B4.out) (HNC.out.later B4.out) (HV.out.later B4.out) HBY.out (by omega) (by omega) (by omega)
  obtain ⟨h, x, p, ok, hg⟩ : ∃ h x p ok, getC ys (L_p : Int) = (h, x, p, ok) := ⟨_, _, _, _, rfl⟩
  unfold GotC at q2
  rw [hg] at q2
  simp only at q2
  have hx2 : x.length ≤ 200 := by
   have h9 := getC_len ys (L_p : Int)
   rw [hg] at h9
   exact h9
  have HGC : Hid (getC ys (L_p : Int) = (h, x, p, ok)) := hg
  clear hg
  go_wp2_with fail
  refine (q2).mono ?_
  rintro e W5 ⟨v_t, rfl, o_t5, b5⟩
  obtain ⟨ao_t, L_t, cap_t, rfl, hL_t, hM_t⟩ := o_t5.form
  have o_t5 : Hid (Own W5 W4.heap.size W5.heap.size 9 (.slice ao_t L_t cap_t) (ss x)) := o_t5
  clear hL_t hM_t
  have z5 := b5.size
  have B5 := Ke.b B4 b5
  have r_s5 := Ke.r r_s4 b5
  have r_res5 := Ke.r r_res4 b5
  have o_v5 := Ke.o o_v4 b5
  have o_p5 := Ke.o o_p4 b5
  have c_s5 := Ke.c r_s5
  clear r_s4 c_s4 r_res4 o_v4 o_p4
  clear q2
  have a_s5 := Ke.a r_s5
  obtain ⟨W6, HW6, b6, y6, hS6, r_h6⟩ := Ke.l1 W5 #[.int .i64 h.n, .string h.r] 26
  have z6 := b6.size
  have B6 := Ke.b B5 b6
  have r_s6 := Ke.r r_s5 b6
  have r_res6 := Ke.r r_res5 b6
  have o_v6 := Ke.o o_v5 b6
  have o_p6 := Ke.o o_p5 b6
  have o_t6 := Ke.o o_t5 b6
  clear r_s5 c_s5 r_res5 o_v5 o_p5 o_t5
  cases ok
  ·
   have HN : Hid (R = (st, n)) := by obtain ⟨f, _, hf⟩ := HF.out; show _ = _; rw [← hf]; exact open_stop (Or.inl (by rw [HGC.out]))
   have HLP : Hid ((L_p : Int) = (st.b.length : Int)) := by show _ = _; rw [HSTL.out]
   go_wp2_with ((try rw [HW6.out]); refine wpl_oneG rfl 3 _ _ rfl (W2.heap.size) 4 (.int .i64 (L_p : Int)) rfl rfl [.slice ao_v L_v cap_v, .int .i64 st.h.n, .string st.h.r, .slice ao_p L_p cap_p, .int .i64 st.s] 30 r_s6.out (Nat.le_of_ble_eq_true rfl) (by kernel_rfl) rfl [.slice ao_v L_v cap_v, .int .i64 st.h.n, .string st.h.r, .slice ao_p L_p cap_p, .int .i64 (L_p : Int)] rfl ?_)
   intro W7 r_s7 g7
   clear a_s5
   have r_s7 : Hid (W7.heap[W2.heap.size]? = some (.cells #[.slice ao_v L_v cap_v, .int .i64 st.h.n, .string st.h.r, .slice ao_p L_p cap_p, .int .i64 (L_p : Int)] 30 (0, 0))) := r_s7
   have z7 := g7.size
   have B7 : Hid (Below w.heap.size w W7) := belowGro B6.out g7 B6.out.size (fun k9 h9 => by injection h9 with h9; have := B6.out.size; omega)
   have r_res7 := Ke.s r_res6 g7
   have o_v7 := Ke.t o_v6 r_s6 g7
   have o_p7 := Ke.t o_p6 r_s6 g7
   have c_s7 := Ke.c r_s7
   clear r_res6 r_h6 o_v6 o_p6 o_t6
   clear r_s6
   clear g7
   go_wp2_with (first | (refine wpList_load_row rfl 30 _ rfl (W2.heap.size) rfl 30 (sc (.slice ao_v L_v cap_v) st.h (.slice ao_p L_p cap_p) (L_p : Int)) (0, 0) _ r_s7.out Tryz.underlying30 rfl (sizeS _ _ _ _) ?_) | (refine wpList_store_row rfl 30 _ _ rfl (w.heap.size) (sc (.slice ao_v L_v cap_v) st.h (.slice ao_p L_p cap_p) (L_p : Int)) rfl rfl 30 _ r_res7.out (sizeS _ _ _ _) rfl (oneS _ _ rfl rfl) ?_))
   refine bodyPost_ret (res_row_tmp rfl _ _ (w.heap.size) 30 (sc (.slice ao_v L_v cap_v) st.h (.slice ao_p L_p cap_p) (L_p : Int)) (0, 0) _ rfl (setRow_heap _ _ _ _ _ (0, 0) r_res7.out) Tryz.underlying30 rfl (sizeS _ _ _ _)) rfl ⟨.slice ao_v L_v cap_v, .slice ao_p L_p cap_p, by rw [HN.out]; simp only [sc]; rw [← HLP.out]; rfl, ?_, ?_, below_setRow B7.out (by omega) _⟩
   ·
    rw [HN.out]
    exact (Own.setRow o_v7.out _ (by omega)).mono (by omega) (by rw [size_setRow]; omega)
   ·
    rw [HN.out]
    exact (Own.setRow o_p7.out _ (by omega)).mono (by omega) (by rw [size_setRow]; omega)
  ·
   obtain ⟨q, hq0, hq1, hq2, hq3, hq4, hq5, hq6⟩ : ∃ q : Nat, p = (q : Int) ∧ L_p < q ∧ q ≤ ys.length ∧ 1 ≤ x.length ∧ h.r.size ≤ 1000 ∧ (∀ s ∈ x, s.size ≤ 1000000000) ∧ Puts.tot x ≤ 1000000000 := by
    obtain ⟨q, rfl, hq, hqx, hk, h1, _, hbl, _⟩ := put_get HBY.out HGC.out
    have hp := put_pos h x
    exact ⟨q, rfl, by omega, hqx, h1, by have := (okH_parts hk).2.2; omega, fun s hs => Nat.le_trans (size_body (h := h) hs) hbl, Nat.le_trans (tot_body h x) hbl⟩
   subst hq0
   have HQ5 : Hid (∀ s ∈ x, s.size ≤ 1000000000) := hq5
   clear hq5
   have hq8 : commitQ st t h x = commit1 st t h x := commitQ_got HBY.out hyl ha HSTB.out HGC.out
   have q4 : ∀ W v1 v2 v3 v4, Glob W → Is.Four W a0 a1 a2 a3 → Sl W v1 (ss st.l) → Sl W v2 (bs st.b) → Sh W v3 t → Sl W v4 (ss x) → _ := fun W v1 v2 v3 v4 g0 g1 h1 h2 h3 h4 => withc_impl W v1 v2 v3 v4 st t h x g0 g1 h1 h2 h3 h4 (by omega) (by rw [HSTL.out]; omega) htl (by omega) (fun s hs => by have := HZ.out s hs; omega) (fun s hs => by have := HQ5.out s hs; omega) (by omega) (by omega) (by omega)
   obtain ⟨C, hC⟩ : ∃ C, commit1 st t h x = C := ⟨_, rfl⟩
   simp only [hq8, hC] at q4
   have HC : Hid (commit1 st t h x = C) := hC
   clear hC hq8
   obtain ⟨st2, code⟩ := C
   simp only at q4
   go_wp2_with fail
   rw [HW6.out]
   clear a_s5
   refine (q4 W6 _ _ _ _ (HG.out.later B6.out) (HFO.out.later B6.out) o_v6.out.sl o_p6.out.sl (HT.out.later B6.out) o_t6.out.sl).mono ?_
   rintro e W7 ⟨v_n, v_y, rfl, o_n7, o_y7, b7⟩
   obtain ⟨lo_n, hi_n, lo_y, hi_y, d1_n, d2_n, d3_n, d4_n, d5_n, d6_n, d7_n, oo_n, oo_y⟩ := Sr.pairN o_n7 o_y7 b7.size
   clear o_n7 o_y7
   obtain ⟨ao_n, L_n, cap_n, rfl, _, _⟩ := oo_n.form
   obtain ⟨ao_y, L_y, cap_y, rfl, _, _⟩ := oo_y.form
   have o_n7 : Hid (Own W7 lo_n hi_n 9 (.slice ao_n L_n cap_n) (ss st2.l)) := oo_n
   have o_y7 : Hid (Own W7 lo_y hi_y 5 (.slice ao_y L_y cap_y) (bs st2.b)) := oo_y
   clear oo_n oo_y
   have z7 := b7.size
   have B7 := Ke.b B6 b7
   have r_s7 := Ke.r r_s6 b7
   have r_res7 := Ke.r r_res6 b7
   have o_v7 := Ke.o o_v6 b7
   have o_p7 := Ke.o o_p6 b7
   have c_s7 := Ke.c r_s7
   clear r_s6 r_res6 r_h6 o_v6 o_p6 o_t6
   clear q4
   have a_s7 := Ke.a r_s7
   obtain ⟨W8, HW8, b8, y8, hS8, r_x8⟩ := Ke.l1 W7 #[.slice ao_n L_n cap_n, .int .i64 st2.h.n, .string st2.h.r, .slice ao_y L_y cap_y, .int .i64 st2.s] 30
   have z8 := b8.size
   have B8 := Ke.b B7 b8
   have r_s8 := Ke.r r_s7 b8
   have r_res8 := Ke.r r_res7 b8
   have o_v8 := Ke.o o_v7 b8
   have o_p8 := Ke.o o_p7 b8
   have o_n8 := Ke.o o_n7 b8
   have o_y8 := Ke.o o_y7 b8
   clear r_s7 c_s7 r_res7 o_v7 o_p7 o_n7 o_y7
   by_cases hcode : code = 0
   ·
    subst hcode
    obtain ⟨f, hf0, hf⟩ := HF.out
    obtain ⟨f', q', hq1', hq2', hf', hcc, hop, hlen⟩ := open_go (n := n) HBY.out ha HSTB.out hf0 HGC.out (by rw [HC.out])
    have hqq : q = q' := by
     obtain ⟨q9, h9, h8, _, hk, h1, h2, _, _⟩ := put_get HBY.out HGC.out
     rw [putC_yes hk h1 h2, HSTL.out] at hlen
     omega
    subst hqq
    rw [HC.out] at hcc
    injection hcc with hcc _
    have HQ4 : Hid (∃ f, ys.length - q ≤ f ∧ openF f t ys q st2 (n + 1) = R) := ⟨f', hf', by rw [hcc, ← hop]; exact hf⟩
    have HSB2 : Hid (st2.b = ys.take q) := by show _ = _; rw [hcc]
    obtain ⟨c1, c2, c3, c4, c5, c6, c7⟩ := commit1_good (st := st) (t := t) (h := h) (x := x) (by rw [HC.out])
    have hl5 : st2.l.length ≤ 200 := by rw [hcc]; exact c5
    have hh5 : st2.h.r.size ≤ 1000 := by rw [hcc]; exact hq4
    have HZ5 : Hid (∀ s ∈ st2.l, s.size ≤ 1000000000) := by show ∀ s ∈ st2.l, s.size ≤ 1000000000; rw [hcc]; exact size_app HZ.out HQ5.out
    clear c1 c2 c3 c4 c5 c6 c7 hcc hop hlen hf hf0 hf' hq1' hq2'
    go_wp2_with ((try rw [HW8.out]); refine wpl_partG rfl 30 _ _ rfl (W2.heap.size) 0 (sc (.slice ao_n L_n cap_n) st2.h (.slice ao_y L_y cap_y) st2.s) rfl rfl [.slice ao_v L_v cap_v, .int .i64 st.h.n, .string st.h.r, .slice ao_p L_p cap_p, .int .i64 st.s] 30 r_s8.out (Nat.le_of_ble_eq_true rfl) (sizeS _ _ _ _) (oneS _ _ rfl rfl) [.slice ao_n L_n cap_n, .int .i64 st2.h.n, .string st2.h.r, .slice ao_y L_y cap_y, .int .i64 st2.s] rfl ?_)
    intro W9 r_s9 g9
    clear a_s7
    have r_s9 : Hid (W9.heap[W2.heap.size]? = some (.cells #[.slice ao_n L_n cap_n, .int .i64 st2.h.n, .string st2.h.r, .slice ao_y L_y cap_y, .int .i64 st2.s] 30 (0, 0))) := r_s9
    have z9 := g9.size
    have B9 : Hid (Below w.heap.size w W9) := belowGro B8.out g9 B8.out.size (fun k9 h9 => by injection h9 with h9; have := B8.out.size; omega)
    have r_res9 := Ke.s r_res8 g9
    have o_v9 := Ke.t o_v8 r_s8 g9
    have o_p9 := Ke.t o_p8 r_s8 g9
    have o_n9 := Ke.t o_n8 r_s8 g9
    have o_y9 := Ke.t o_y8 r_s8 g9
    clear r_res8 r_x8 o_v8 o_p8 o_n8 o_y8
    clear r_s8
    clear g9
    have wn : IntKind.i64.wrap ((n : Int) + 1) = ((n + 1 : Nat) : Int) := by rw [IntKind.wrap_i64]; omega
    go_wp2
    go_roundw
    case rel => exact ⟨q, n + 1, st2, ao_n, L_n, cap_n, lo_n, hi_n, ao_y, L_y, cap_y, lo_y, hi_y, hq2, by omega, by go_num, HQ4, HSB2, r_s9, r_res9, by omega, by omega, by omega, by omega, by omega, by omega, by omega, by omega, by omega, o_n9, o_y9, B9, by omega, hl5, hh5, HZ5⟩
    case measure => simp [intOf]; omega
   ·
    have cn : (code == 0) = false := by rw [beq_eq_false_iff_ne]; exact hcode
    have cm : (code != 0) = true := by rw [bne, cn]; rfl
    have HN : Hid (R = (st, n)) := by obtain ⟨f, _, hf⟩ := HF.out; show _ = _; rw [← hf]; exact open_stop (Or.inr (fun h9 => hcode (by rw [HGC.out] at h9; simp only at h9; rw [HC.out] at h9; exact h9)))
    have HLP : Hid ((L_p : Int) = (st.b.length : Int)) := by show _ = _; rw [HSTL.out]
    go_wp2_with ((try rw [HW8.out]); refine wpl_oneG rfl 3 _ _ rfl (W2.heap.size) 4 (.int .i64 (L_p : Int)) rfl rfl [.slice ao_v L_v cap_v, .int .i64 st.h.n, .string st.h.r, .slice ao_p L_p cap_p, .int .i64 st.s] 30 r_s8.out (Nat.le_of_ble_eq_true rfl) (by kernel_rfl) rfl [.slice ao_v L_v cap_v, .int .i64 st.h.n, .string st.h.r, .slice ao_p L_p cap_p, .int .i64 (L_p : Int)] rfl ?_)
    intro W9 r_s9 g9
    clear a_s7
    have r_s9 : Hid (W9.heap[W2.heap.size]? = some (.cells #[.slice ao_v L_v cap_v, .int .i64 st.h.n, .string st.h.r, .slice ao_p L_p cap_p, .int .i64 (L_p : Int)] 30 (0, 0))) := r_s9
    have z9 := g9.size
    have B9 : Hid (Below w.heap.size w W9) := belowGro B8.out g9 B8.out.size (fun k9 h9 => by injection h9 with h9; have := B8.out.size; omega)
    have r_res9 := Ke.s r_res8 g9
    have o_v9 := Ke.t o_v8 r_s8 g9
    have o_p9 := Ke.t o_p8 r_s8 g9
    have o_n9 := Ke.t o_n8 r_s8 g9
    have o_y9 := Ke.t o_y8 r_s8 g9
    clear r_res8 r_x8 o_v8 o_p8 o_n8 o_y8
    clear r_s8
    clear g9
    go_wp2_with (first | (refine wpList_load_row rfl 30 _ rfl (W2.heap.size) rfl 30 (sc (.slice ao_v L_v cap_v) st.h (.slice ao_p L_p cap_p) (L_p : Int)) (0, 0) _ r_s9.out Tryz.underlying30 rfl (sizeS _ _ _ _) ?_) | (refine wpList_store_row rfl 30 _ _ rfl (w.heap.size) (sc (.slice ao_v L_v cap_v) st.h (.slice ao_p L_p cap_p) (L_p : Int)) rfl rfl 30 _ r_res9.out (sizeS _ _ _ _) rfl (oneS _ _ rfl rfl) ?_))
    refine bodyPost_ret (res_row_tmp rfl _ _ (w.heap.size) 30 (sc (.slice ao_v L_v cap_v) st.h (.slice ao_p L_p cap_p) (L_p : Int)) (0, 0) _ rfl (setRow_heap _ _ _ _ _ (0, 0) r_res9.out) Tryz.underlying30 rfl (sizeS _ _ _ _)) rfl ⟨.slice ao_v L_v cap_v, .slice ao_p L_p cap_p, by rw [HN.out]; simp only [sc]; rw [← HLP.out]; rfl, ?_, ?_, below_setRow B9.out (by omega) _⟩
    ·
     rw [HN.out]
     exact (Own.setRow o_v9.out _ (by omega)).mono (by omega) (by rw [size_setRow]; omega)
    ·
     rw [HN.out]
     exact (Own.setRow o_p9.out _ (by omega)).mono (by omega) (by rw [size_setRow]; omega)
end Go.Proofs.YtchonoonclllbaaGreatDoor.Sr
