/- Texts in one: LhE, KpI, Mj8. -/
import Derived.Test.YtchonoonclllbaaGreatDoorPh37
set_option maxHeartbeats 16000000
set_option linter.unusedVariables false
set_option linter.unusedSimpArgs false
namespace Go.Proofs.YtchonoonclllbaaGreatDoor.Lg
open Go.RowKit Mem Laws Bytes Sha Tr He
set_option maxRecDepth 1000000 in
theorem extend_impl (w : World) (v vt vx : Value) (l x : List ByteArray) (hd h : Hd) (t : List Hd) {a0 a1 a2 a3 : Addr} (hG : Glob w) (hF : Is.Four w a0 a1 a2 a3) (hs : Sl w v (ss l)) (ht : Sh w vt t) (hsx : Sl w vx (ss x)) (hl : l.length ≤ 1000000000) (htl : t.length ≤ 1000000000) (hx : x.length ≤ 1000000000) (hz : ∀ s ∈ l, s.size ≤ 10000000000) (hzx : ∀ s ∈ x, s.size ≤ 10000000000) (hdr : hd.r.size ≤ 1000000000000) (hhr : h.r.size ≤ 1000000000000) :
  Calls Tryz.prog 106 #[.agg #[v, .int .i64 hd.n, .string hd.r], vt, .agg #[.int .i64 h.n, .string h.r], vx] w fun e w' => ∃ v', e = .returned (.tuple #[.agg #[v', .int .i64 (extend l hd t h x).2.1.n, .string (extend l hd t h x).2.1.r], .int .i64 (extend l hd t h x).2.2]) ∧ Own w' w.heap.size w'.heap.size 9 v' (ss (extend l hd t h x).1) ∧ Below w.heap.size w w' := by
 have HS : Hid (Sl w v (ss l)) := hs
 have HSX : Hid (Sl w vx (ss x)) := hsx
 have HT : Hid (Sh w vt t) := ht
 have HG : Hid (Glob w) := hG
 have HF : Hid (Is.Four w a0 a1 a2 a3) := hF
 obtain ⟨ao0, cap0, rfl, hc0⟩ := hs.form
 obtain ⟨ao1, cap1, rfl, hc1⟩ := hsx.form
 obtain ⟨ao2, cap2, rfl, hc2⟩ := ht.form
 simp only [ss_len] at *
 clear hs hsx ht hG hF
 have B0 : Hid (Below w.heap.size w w) := Below.refl _ _
 obtain ⟨W1, HW1, b1, y1, hS1, r_a1, r_h1, r_res1⟩ := Ke.l3 w #[.slice ao0 l.length cap0, .int .i64 hd.n, .string hd.r] 28 #[.int .i64 h.n, .string h.r] 26 #[.slice none 0 0, .int .i64 0, .string ⟨#[]⟩] 28
 have z1 := b1.size
 have B1 := Ke.b B0 b1
 have q1 : ∀ W v1 v2 v3, Glob W → Is.Four W a0 a1 a2 a3 → Sl W v1 (ss l) → Sh W v2 t → Sl W v3 (ss x) → _ := fun W v1 v2 v3 g1 g2 h1 h2 h3 => extended_impl W v1 v2 v3 l x hd h t g1 g2 h1 h2 h3 hl htl hx hz hzx hhr
 have q2 : ∀ W v1, Sl W v1 (ss l) → _ := fun W v1 h1 => ownlog_impl W v1 l hd h1 hl (fun s hs => by have := hz s hs; omega) hdr
 obtain ⟨R, hR⟩ : ∃ R, extend l hd t h x = R := ⟨_, rfl⟩
 simp only [hR] at q1
 rw [hR]
 clear hR hz hzx hdr hhr
 go_enter Tryz.func106, Tryz.ntmps106
 go_wp2_with fail
 rw [HW1.out]
 refine (q1 W1 _ _ _ (HG.out.later B1.out) (HF.out.later B1.out) (HS.out.later B1.out) (HT.out.later B1.out) (HSX.out.later B1.out)).mono ?_
 rintro e W2 ⟨hor, b2⟩
 have z2 := b2.size
 have B2 := Ke.b B1 b2
 have r_a2 := Ke.r r_a1 b2
 have r_res2 := Ke.r r_res1 b2
 clear r_a1 r_h1 r_res1
 rcases hor with ⟨c, a, hw, hR, rfl⟩ | ⟨v_n, hR, rfl, o_n2⟩
 ·have HN : Hid (R = (l, hd, c)) := hR
  clear hR
  obtain ⟨W3, HW3, b3, y3, hS3, r_new3⟩ := Ke.l1 W2 #[.slice none 0 0, .int .i64 0, .string ⟨#[]⟩] 28
  have z3 := b3.size
  have B3 := Ke.b B2 b3
  have r_a3 := Ke.r r_a2 b3
  have r_res3 := Ke.r r_res2 b3
  clear r_a2 r_res2
  have hq : ∀ W, Is.Four W a0 a1 a2 a3 → Calls Tryz.prog 149 #[Is.refV h.n h.r a] W fun e w' => e = .returned (.int .i64 c) ∧ Below W.heap.size W w' := by
   intro W g
   rcases hw with ⟨rfl, rfl⟩ | ⟨rfl, rfl⟩ | ⟨rfl, rfl⟩ | ⟨rfl, rfl⟩
   ·exact Is.code1 W _ _ g
   ·exact Is.code2 W _ _ g
   ·exact Is.code3 W _ _ g
   ·exact Is.code4 W _ _ g
  have hc0 : ¬ c = 0 := by
   rcases hw with ⟨rfl, _⟩ | ⟨rfl, _⟩ | ⟨rfl, _⟩ | ⟨rfl, _⟩ <;> omega
  clear hw
  have cn : (c == 0) = false := by rw [beq_eq_false_iff_ne]; exact hc0
  have cm : (c != 0) = true := by rw [bne, cn]; rfl
  go_wp2_with fail
  rw [HW3.out]
  refine (hq W3 (HF.out.later B3.out)).mono ?_
  rintro e W4 ⟨rfl, b4⟩
  have z4 := b4.size
  have B4 := Ke.b B3 b4
  have r_a4 := Ke.r r_a3 b4
  have r_res4 := Ke.r r_res3 b4
  have r_new4 := Ke.r r_new3 b4
  have c_a4 := Ke.c r_a4
  clear r_a3 r_res3 r_new3
  go_wp2_with fail
  refine (q2 W4 _ (HS.out.later B4.out)).mono ?_
  rintro e W5 ⟨v_s, rfl, o_s5, b5⟩
  obtain ⟨ao_s, L_s, cap_s, rfl, hL_s, hM_s⟩ := o_s5.form
  have o_s5 : Hid (Own W5 W4.heap.size W5.heap.size 9 (.slice ao_s L_s cap_s) (ss l)) := o_s5
  clear hL_s hM_s
  have z5 := b5.size
  have B5 := Ke.b B4 b5
  have r_res5 := Ke.r r_res4 b5
  clear r_a4 c_a4 r_res4 r_new4
  go_wp2_with (refine wpList_store_row rfl 28 _ _ rfl (w.heap.size + 1 + 1) (lc (.slice ao_s L_s cap_s) hd) rfl rfl 28 _ r_res5.out (sizeL _ _) rfl (oneL _ rfl) ?_)
  refine bodyPost_ret (res_row_tmp rfl _ _ (w.heap.size + 1 + 1) 28 (lc (.slice ao_s L_s cap_s) hd) (0, 0) _ rfl (setRow_heap _ _ _ _ _ (0, 0) r_res5.out) Tryz.underlying28 rfl (sizeL _ _)) rfl ⟨.slice ao_s L_s cap_s, by rw [HN.out]; rfl, ?_, below_setRow B5.out (by omega) _⟩
  rw [HN.out]
  exact (Own.setRow o_s5.out _ (by omega)).mono (by omega) (by rw [size_setRow]; omega)
 ·have HN : Hid (R = (l ++ x, h, 0)) := hR
  clear hR
  obtain ⟨ao_n, L_n, cap_n, rfl, hL_n, hM_n⟩ := o_n2.form
  have o_n2 : Hid (Own W2 W1.heap.size W2.heap.size 9 (.slice ao_n L_n cap_n) (ss (l ++ x))) := o_n2
  clear hL_n hM_n
  obtain ⟨W3, HW3, b3, y3, hS3, r_new3⟩ := Ke.l1 W2 #[.slice ao_n L_n cap_n, .int .i64 h.n, .string h.r] 28
  have z3 := b3.size
  have B3 := Ke.b B2 b3
  have r_a3 := Ke.r r_a2 b3
  have r_res3 := Ke.r r_res2 b3
  have o_n3 := Ke.o o_n2 b3
  clear r_a2 r_res2 o_n2
  go_wp2_with fail
  rw [HW3.out]
  refine (Is.code0 W3 (HF.out.later B3.out)).mono ?_
  rintro e W4 ⟨rfl, b4⟩
  have z4 := b4.size
  have B4 := Ke.b B3 b4
  have r_a4 := Ke.r r_a3 b4
  have r_res4 := Ke.r r_res3 b4
  have r_new4 := Ke.r r_new3 b4
  have o_n4 := Ke.o o_n3 b4
  have c_a4 := Ke.c r_a4
  clear r_a3 r_res3 r_new3 o_n3
  go_wp2_with (first | (refine wpList_load_row rfl 28 _ rfl (W2.heap.size) rfl 28 (lc (.slice ao_n L_n cap_n) h) (0, 0) _ r_new4.out Tryz.underlying28 rfl (sizeL _ _) ?_) | (refine wpList_store_row rfl 28 _ _ rfl (w.heap.size + 1 + 1) (lc (.slice ao_n L_n cap_n) h) rfl rfl 28 _ r_res4.out (sizeL _ _) rfl (oneL _ rfl) ?_))
  refine bodyPost_ret (res_row_tmp rfl _ _ (w.heap.size + 1 + 1) 28 (lc (.slice ao_n L_n cap_n) h) (0, 0) _ rfl (setRow_heap _ _ _ _ _ (0, 0) r_res4.out) Tryz.underlying28 rfl (sizeL _ _)) rfl ⟨.slice ao_n L_n cap_n, by rw [HN.out]; rfl, ?_, below_setRow B4.out (by omega) _⟩
  rw [HN.out]
  exact (Own.setRow o_n4.out _ (by omega)).mono (by omega) (by rw [size_setRow]; omega)
end Go.Proofs.YtchonoonclllbaaGreatDoor.Lg
namespace Go.Proofs.YtchonoonclllbaaGreatDoor.Sr
open Go.RowKit Mem Laws Bytes Sha Tr He Lg
set_option maxRecDepth 1000000 in
theorem withc_impl (w : World) (v vb vt vx : Value) (st : Sto) (t : List Hd) (hd : Hd) (x : List ByteArray) {a0 a1 a2 a3 : Addr} (hG : Glob w) (hF : Is.Four w a0 a1 a2 a3) (hs : Sl w v (ss st.l)) (hb : Sl w vb (bs st.b)) (hst : Sh w vt t) (hsx : Sl w vx (ss x)) (hl : st.l.length ≤ 1000000000) (hbl : st.b.length ≤ 1000000000) (htl : t.length ≤ 1000000000) (hxl : x.length ≤ 1000000000)
  (hz : ∀ s ∈ st.l, s.size ≤ 10000000000) (hzx : ∀ s ∈ x, s.size ≤ 10000000000) (htx : Puts.tot x ≤ 100000000000) (hdr : hd.r.size ≤ 100000000000) (hhr : st.h.r.size ≤ 1000000000000) :
  Calls Tryz.prog 59 #[.agg #[v, .int .i64 st.h.n, .string st.h.r, vb, .int .i64 st.s], vt, .agg #[.int .i64 hd.n, .string hd.r], vx] w fun e w' => ∃ v' vb', e = .returned (.tuple #[.agg #[v', .int .i64 (commitQ st t hd x).1.h.n, .string (commitQ st t hd x).1.h.r, vb', .int .i64 (commitQ st t hd x).1.s], .int .i64 (commitQ st t hd x).2]) ∧ Own w' w.heap.size w'.heap.size 9 v' (ss (commitQ st t hd x).1.l) ∧ Own w' w.heap.size w'.heap.size 5 vb' (bs (commitQ st t hd x).1.b) ∧ Below w.heap.size w w' := by
 obtain ⟨R, hR⟩ : ∃ R, commitQ st t hd x = R := ⟨_, rfl⟩
 have HR : Hid (commitQ st t hd x = R) := hR
 rw [hR]
 have HG : Hid (Glob w) := hG
 have HF : Hid (Is.Four w a0 a1 a2 a3) := hF
 obtain ⟨l, h, b, s⟩ := st
 simp only at *
 have HS : Hid (Sl w v (ss l)) := hs
 have HSB : Hid (Sl w vb (bs b)) := hb
 have HT : Hid (Sh w vt t) := hst
 have HX : Hid (Sl w vx (ss x)) := hsx
 obtain ⟨ao0, cap0, rfl, hc0⟩ := hs.form
 obtain ⟨ao1, cap1, rfl, hc1⟩ := hb.form
 obtain ⟨ao2, cap2, rfl, hc2⟩ := hst.form
 obtain ⟨ao3, cap3, rfl, hc3⟩ := hsx.form
 simp only [ss_len, bs_len] at *
 clear hs hb hst hsx hR hG hF
 have B0 : Hid (Below w.heap.size w w) := Below.refl _ _
 obtain ⟨W1, HW1, b1, y1, hS1, r_a1, r_h1, r_res1⟩ := Ke.l3 w #[.slice ao0 l.length cap0, .int .i64 h.n, .string h.r, .slice ao1 b.length cap1, .int .i64 s] 30 #[.int .i64 hd.n, .string hd.r] 26 #[.slice none 0 0, .int .i64 0, .string ⟨#[]⟩, .slice none 0 0, .int .i64 0] 30
 have z1 := b1.size
 have B1 := Ke.b B0 b1
 have c_a1 := Ke.c r_a1
 have c_h1 := Ke.c r_h1
 have q1 : ∀ W v1 v2, Sl W v1 (ss l) → Sl W v2 (bs b) → _ := fun W v1 v2 h1 h2 => ownstore_impl W v1 v2 ⟨l, h, b, s⟩ h1 h2 hl hbl (fun s hs => Nat.le_trans (hz s hs) (by omega)) hhr
 have q2 : ∀ W v1 v2 v3, Glob W → Is.Four W a0 a1 a2 a3 → Sl W v1 (ss l) → Sh W v2 t → Sl W v3 (ss x) → _ := fun W v1 v2 v3 g0 g1 h1 h2 h3 => extend_impl W v1 v2 v3 l x h hd t g0 g1 h1 h2 h3 hl htl hxl hz hzx hhr (by omega)
 have q3 : ∀ W v1, Glob W → Sl W v1 (ss x) → _ := fun W v1 g0 h1 => putc_impl W hd v1 x g0 h1 hxl htx hdr
 obtain ⟨E, hE⟩ : ∃ E, extend l h t hd x = E := ⟨_, rfl⟩
 simp only [hE] at q2
 have HE : Hid (extend l h t hd x = E) := hE
 obtain ⟨L, H, C⟩ := E
 simp only at q1 q2
 obtain ⟨Pb, hPb⟩ : ∃ P, putC hd x = P := ⟨_, rfl⟩
 have hPl : Pb.length ≤ 500000000000 := by rw [← hPb]; have h9 := put_len hd x; have h8 := body_len hd x; unfold putC; split; omega; simp
 simp only [hPb] at q3
 have HP : Hid (putC hd x = Pb) := hPb
 clear hPb hE hz hzx htx hdr
 have HH : Hid (b.length + Pb.length ≤ 60000 → C = 0 → R = (⟨L, H, b ++ Pb, s⟩, 0)) := by
  intro h6 hC
  obtain ⟨_, h2, _, h4, h5, _, h7⟩ := extend_good (l := l) (x := x) (hd := h) (h := hd) (t := t) (by rw [HE.out]; exact hC)
  rw [List.length_append] at h5
  have h8 : putC hd x = put hd x := putC_yes h2 h4 (by omega)
  rw [← HR.out]
  unfold commitQ commit1
  simp only
  rw [HE.out, HP.out, if_pos h6, if_pos hC, ← h8, HP.out]
 have HJ : Hid (b.length + Pb.length ≤ 60000 → ¬ C = 0 → R = (⟨l, h, b, s⟩, C)) := by
  intro h6 hC
  rw [← HR.out]
  unfold commitQ commit1
  simp only
  rw [HE.out, HP.out, if_pos h6, if_neg hC]
 have HI : Hid (¬ b.length + Pb.length ≤ 60000 → R = (⟨l, h, b, s⟩, 1)) := by
  intro h6
  rw [← HR.out]
  unfold commitQ
  simp only
  rw [HP.out, if_neg h6]
 go_enter Tryz.func59, Tryz.ntmps59
 go_wp2_with fail
 rw [HW1.out]
 refine wp_region_held_drew (S := fun w' => w'.cell? ⟨w.heap.size, 0, none⟩ = some (.slice ao0 l.length cap0) ∧ w'.cell? ⟨w.heap.size, 1, none⟩ = some (.int .i64 h.n) ∧ w'.cell? ⟨w.heap.size, 2, none⟩ = some (.string h.r) ∧ w'.cell? ⟨w.heap.size, 3, none⟩ = some (.slice ao1 b.length cap1) ∧ w'.cell? ⟨w.heap.size, 4, none⟩ = some (.int .i64 s) ∧ w'.cell? ⟨w.heap.size + 1, 0, none⟩ = some (.int .i64 hd.n) ∧ w'.cell? ⟨w.heap.size + 1, 1, none⟩ = some (.string hd.r)) (by kernel_rfl) ⟨(c_a1 0), (c_a1 1), (c_a1 2), (c_a1 3), (c_a1 4), (c_h1 0), (c_h1 1)⟩ (fun hHeld => ?_)
 refine Ke.q 0 ?_; try simp only [Act.put, pq]
 refine Ke.q 1 ?_; try simp only [Act.put, pq]
 refine Ke.q 2 ?_; try simp only [Act.put, pq]
 refine Ke.q 3 ?_; try simp only [Act.put, pq]
 refine Ke.z 4 rfl (fun K hK => ?_)
 go_simp
 refine (q3 W1.drew _ (HG.out.later (Below.drew B1.out)) (Sl.later (w := W1) (HX.out.later B1.out) (Below.drew (Below.refl _ _)))).mono ?_
 rintro e W2 ⟨v_u, rfl, o_u2, b2⟩
 have b2 : Below W1.heap.size W1 W2 := (Below.drew (Below.refl _ _)).trans b2
 refine hK.out _ _ ⟨(keepR (W := W1) hHeld.1 b2), (keepR (W := W1) hHeld.2.1 b2), (keepR (W := W1) hHeld.2.2.1 b2), (keepR (W := W1) hHeld.2.2.2.1 b2), (keepR (W := W1) hHeld.2.2.2.2.1 b2), (keepR (W := W1) hHeld.2.2.2.2.2.1 b2), (keepR (W := W1) hHeld.2.2.2.2.2.2 b2)⟩ (fun hHeld => ?_)
 clear hK K
 try simp only [Act.put, pq]
 have o_u2 : Own W2 W1.heap.size W2.heap.size 5 _ _ := o_u2
 obtain ⟨ao_u, L_u, cap_u, rfl, hL_u, hM_u⟩ := o_u2.form
 have o_u2 : Hid (Own W2 W1.heap.size W2.heap.size 5 (.slice ao_u L_u cap_u) (bs Pb)) := o_u2
 clear hL_u hM_u
 have z2 := b2.size
 have B2 := Ke.b B1 b2
 have r_a2 := Ke.r r_a1 b2
 have r_h2 := Ke.r r_h1 b2
 have r_res2 := Ke.r r_res1 b2
 clear r_a1 c_a1 r_h1 c_h1 r_res1
 refine Ke.z 5 rfl (fun K hK => ?_)
 go_simp
 refine hK.out _ _ ⟨(keepR (W := W2) hHeld.1 ((Below.refl _ _).alloc (Nat.le_refl _) _)), (keepR (W := W2) hHeld.2.1 ((Below.refl _ _).alloc (Nat.le_refl _) _)), (keepR (W := W2) hHeld.2.2.1 ((Below.refl _ _).alloc (Nat.le_refl _) _)), (keepR (W := W2) hHeld.2.2.2.1 ((Below.refl _ _).alloc (Nat.le_refl _) _)), (keepR (W := W2) hHeld.2.2.2.2.1 ((Below.refl _ _).alloc (Nat.le_refl _) _)), (keepR (W := W2) hHeld.2.2.2.2.2.1 ((Below.refl _ _).alloc (Nat.le_refl _) _)), (keepR (W := W2) hHeld.2.2.2.2.2.2 ((Below.refl _ _).alloc (Nat.le_refl _) _))⟩ (fun hHeld => ?_)
 clear hK K
 try simp only [Act.put, pq]
 obtain ⟨W3, HW3, b3, ff3⟩ : ∃ X, Hid ((W2.alloc (.cells #[.slice ao1 b.length cap1, .slice ao_u L_u cap_u] 22)) = X) ∧ Below W2.heap.size W2 X ∧ Hid (Sl X (.slice (some ⟨W2.heap.size, 0, none⟩) 2 2) [.slice ao1 b.length cap1, .slice ao_u L_u cap_u]) := ⟨_, rfl, ((Below.refl _ _).alloc (Nat.le_refl _) _), slAlloc W2 [.slice ao1 b.length cap1, .slice ao_u L_u cap_u] 22⟩
 have HHW3 := HW3.out
 rw [HHW3] at hHeld ⊢
 clear HHW3
 have z3 := b3.size
 have B3 := Ke.b B2 b3
 have r_a3 := Ke.r r_a2 b3
 have r_h3 := Ke.r r_h2 b3
 have r_res3 := Ke.r r_res2 b3
 have o_u3 := Ke.o o_u2 b3
 clear r_a2 r_h2 r_res2 o_u2
 have f_ps3 : Hid (Sl W3 (.slice (some ⟨W2.heap.size, 0, none⟩) 2 2) [.slice ao1 b.length cap1, .slice ao_u L_u cap_u]) := ff3.out
 clear ff3
 have qj := joined_impl W3 _ _ [b, Pb] f_ps3.out rfl (part2 (HSB.out.later B3.out) o_u3.out.sl) (by simp) (by simp; omega)
 have e9 : [b, Pb].flatten = b ++ Pb := by simp
 rw [e9] at qj
 clear e9
 refine Ke.z 6 rfl (fun K hK => ?_)
 go_simp
 refine (qj).mono ?_
 rintro e W4 ⟨v_z, rfl, o_z4, b4⟩
 refine hK.out _ _ ⟨(keepR (W := W3) hHeld.1 b4), (keepR (W := W3) hHeld.2.1 b4), (keepR (W := W3) hHeld.2.2.1 b4), (keepR (W := W3) hHeld.2.2.2.1 b4), (keepR (W := W3) hHeld.2.2.2.2.1 b4), (keepR (W := W3) hHeld.2.2.2.2.2.1 b4), (keepR (W := W3) hHeld.2.2.2.2.2.2 b4)⟩ (fun hHeld => ?_)
 clear hK K
 try simp only [Act.put, pq]
 obtain ⟨ao_z, L_z, cap_z, rfl, hL_z, hM_z⟩ := o_z4.form
 have o_z4 : Hid (Own W4 W3.heap.size W4.heap.size 5 (.slice ao_z L_z cap_z) (bs (b ++ Pb))) := o_z4
 clear hL_z hM_z
 have z4 := b4.size
 have B4 := Ke.b B3 b4
 have r_a4 := Ke.r r_a3 b4
 have r_h4 := Ke.r r_h3 b4
 have r_res4 := Ke.r r_res3 b4
 have c_a4 := Ke.c r_a4
 have c_h4 := Ke.c r_h4
 clear r_a3 r_h3 r_res3 o_u3
 clear f_ps3
 refine Ke.q 7 ?_; try simp only [Act.put, pq]
 refine wpAnyH_done (by kernel_rfl) ?_ _
 clear hHeld
 have hLz : L_z ≤ b.length + Pb.length ∧ b.length + Pb.length ≤ L_z := by obtain ⟨a9, L9, c9, he, h1, h2⟩ := Mem.Own.form o_z4.out; injection he with _ he2 _; rw [bs_len, List.length_append] at h1 h2; omega
 skip
 by_cases h6 : (60000 : Int) < (L_z : Int)
 ·have HN : Hid (R = (⟨l, h, b, s⟩, 1)) := HI.out (by omega)
  clear o_z4
  go_wp2_with fail
  refine (q1 W4 _ _ (HS.out.later B4.out) (HSB.out.later B4.out)).mono ?_
  rintro e W5 ⟨v_s, v_p, rfl, o_s5, o_p5, b5⟩
  obtain ⟨lo_s, hi_s, lo_p, hi_p, d1_s, d2_s, d3_s, d4_s, d5_s, d6_s, d7_s, oo_s, oo_p⟩ := Sr.pairN o_s5 o_p5 b5.size
  clear o_s5 o_p5
  obtain ⟨ao_s, L_s, cap_s, rfl, _, _⟩ := oo_s.form
  obtain ⟨ao_p, L_p, cap_p, rfl, _, _⟩ := oo_p.form
  have o_s5 : Hid (Own W5 lo_s hi_s 9 (.slice ao_s L_s cap_s) (ss l)) := oo_s
  have o_p5 : Hid (Own W5 lo_p hi_p 5 (.slice ao_p L_p cap_p) (bs b)) := oo_p
  clear oo_s oo_p
  have z5 := b5.size
  have B5 := Ke.b B4 b5
  have r_a5 := Ke.r r_a4 b5
  have r_res5 := Ke.r r_res4 b5
  have c_a5 := Ke.c r_a5
  clear r_a4 c_a4 r_h4 c_h4 r_res4
  go_wp2_with (refine wpList_store_row rfl 30 _ _ rfl (w.heap.size + 1 + 1) (sc (.slice ao_s L_s cap_s) h (.slice ao_p L_p cap_p) s) rfl rfl 30 _ r_res5.out (sizeS _ _ _ _) rfl (oneS _ _ rfl rfl) ?_)
  refine bodyPost_ret (res_row_tmp rfl _ _ (w.heap.size + 1 + 1) 30 (sc (.slice ao_s L_s cap_s) h (.slice ao_p L_p cap_p) s) (0, 0) _ rfl (setRow_heap _ _ _ _ _ (0, 0) r_res5.out) Tryz.underlying30 rfl (sizeS _ _ _ _)) rfl ⟨.slice ao_s L_s cap_s, .slice ao_p L_p cap_p, by rw [HN.out]; rfl, ?_, ?_, below_setRow B5.out (by omega) _⟩
  ·rw [HN.out]
   exact (Own.setRow o_s5.out _ (by omega)).mono (by omega) (by rw [size_setRow]; omega)
  ·rw [HN.out]
   exact (Own.setRow o_p5.out _ (by omega)).mono (by omega) (by rw [size_setRow]; omega)
 ·have h7 : b.length + Pb.length ≤ 60000 := by omega
  go_wp2_with fail
  refine (q2 W4 _ _ _ (HG.out.later B4.out) (HF.out.later B4.out) (HS.out.later B4.out) (HT.out.later B4.out) (HX.out.later B4.out)).mono ?_
  rintro e W5 ⟨v_n, rfl, o_n5, b5⟩
  obtain ⟨ao_n, L_n, cap_n, rfl, hL_n, hM_n⟩ := o_n5.form
  have o_n5 : Hid (Own W5 W4.heap.size W5.heap.size 9 (.slice ao_n L_n cap_n) (ss L)) := o_n5
  clear hL_n hM_n
  have z5 := b5.size
  have B5 := Ke.b B4 b5
  have r_a5 := Ke.r r_a4 b5
  have r_res5 := Ke.r r_res4 b5
  have o_z5 := Ke.o o_z4 b5
  have c_a5 := Ke.c r_a5
  clear r_a4 c_a4 r_h4 c_h4 r_res4 o_z4
  have a_a5 := Ke.a r_a5
  obtain ⟨W6, HW6, b6, y6, hS6, r_l6⟩ := Ke.l1 W5 #[.slice ao_n L_n cap_n, .int .i64 H.n, .string H.r] 28
  have z6 := b6.size
  have B6 := Ke.b B5 b6
  have r_res6 := Ke.r r_res5 b6
  have o_z6 := Ke.o o_z5 b6
  have o_n6 := Ke.o o_n5 b6
  clear r_a5 c_a5 r_res5 o_z5 o_n5
  by_cases hC : C = 0
  ·have HN : Hid (R = (⟨L, H, b ++ Pb, s⟩, 0)) := HH.out h7 hC
   subst hC
   go_wp2_with ((try rw [HW6.out]); refine wpList_store_row rfl 30 _ _ rfl (w.heap.size + 1 + 1) (sc (.slice ao_n L_n cap_n) H (.slice ao_z L_z cap_z) s) rfl rfl 30 _ r_res6.out (sizeS _ _ _ _) rfl (oneS _ _ rfl rfl) ?_)
   refine bodyPost_ret (res_row_tmp rfl _ _ (w.heap.size + 1 + 1) 30 (sc (.slice ao_n L_n cap_n) H (.slice ao_z L_z cap_z) s) (0, 0) _ rfl (setRow_heap _ _ _ _ _ (0, 0) r_res6.out) Tryz.underlying30 rfl (sizeS _ _ _ _)) rfl ⟨.slice ao_n L_n cap_n, .slice ao_z L_z cap_z, by rw [HN.out]; rfl, ?_, ?_, below_setRow B6.out (by omega) _⟩
   ·rw [HN.out]
    exact (Own.setRow o_n6.out _ (by omega)).mono (by omega) (by rw [size_setRow]; omega)
   ·rw [HN.out]
    exact (Own.setRow o_z6.out _ (by omega)).mono (by omega) (by rw [size_setRow]; omega)
  ·have cn : (C == 0) = false := by rw [beq_eq_false_iff_ne]; exact hC
   have cm : (C != 0) = true := by rw [bne, cn]; rfl
   have HN : Hid (R = (⟨l, h, b, s⟩, C)) := HJ.out h7 hC
   go_wp2_with fail
   rw [HW6.out]
   clear a_a5
   refine (q1 W6 _ _ (HS.out.later B6.out) (HSB.out.later B6.out)).mono ?_
   rintro e W7 ⟨v_s, v_p, rfl, o_s7, o_p7, b7⟩
   obtain ⟨lo_s, hi_s, lo_p, hi_p, d1_s, d2_s, d3_s, d4_s, d5_s, d6_s, d7_s, oo_s, oo_p⟩ := Sr.pairN o_s7 o_p7 b7.size
   clear o_s7 o_p7
   obtain ⟨ao_s, L_s, cap_s, rfl, _, _⟩ := oo_s.form
   obtain ⟨ao_p, L_p, cap_p, rfl, _, _⟩ := oo_p.form
   have o_s7 : Hid (Own W7 lo_s hi_s 9 (.slice ao_s L_s cap_s) (ss l)) := oo_s
   have o_p7 : Hid (Own W7 lo_p hi_p 5 (.slice ao_p L_p cap_p) (bs b)) := oo_p
   clear oo_s oo_p
   have z7 := b7.size
   have B7 := Ke.b B6 b7
   have r_res7 := Ke.r r_res6 b7
   clear r_res6 r_l6 o_z6 o_n6
   go_wp2_with (refine wpList_store_row rfl 30 _ _ rfl (w.heap.size + 1 + 1) (sc (.slice ao_s L_s cap_s) h (.slice ao_p L_p cap_p) s) rfl rfl 30 _ r_res7.out (sizeS _ _ _ _) rfl (oneS _ _ rfl rfl) ?_)
   refine bodyPost_ret (res_row_tmp rfl _ _ (w.heap.size + 1 + 1) 30 (sc (.slice ao_s L_s cap_s) h (.slice ao_p L_p cap_p) s) (0, 0) _ rfl (setRow_heap _ _ _ _ _ (0, 0) r_res7.out) Tryz.underlying30 rfl (sizeS _ _ _ _)) rfl ⟨.slice ao_s L_s cap_s, .slice ao_p L_p cap_p, by rw [HN.out]; rfl, ?_, ?_, below_setRow B7.out (by omega) _⟩
   ·rw [HN.out]
    exact (Own.setRow o_s7.out _ (by omega)).mono (by omega) (by rw [size_setRow]; omega)
   ·rw [HN.out]
    exact (Own.setRow o_p7.out _ (by omega)).mono (by omega) (by rw [size_setRow]; omega)
end Go.Proofs.YtchonoonclllbaaGreatDoor.Sr
namespace Go.Proofs.YtchonoonclllbaaGreatDoor.Mi
open Go.RowKit Mem Laws Bytes Sha Tr He Lg Sr Mg
theorem takes_commitQ {m : Mr} {t : List Hd} {q : Ms} {S : Sto} {c : Int} (hok : msgOk q = true) (hk : q.k = 3) (hC : commitQ m.st t q.h q.x = (S, c)) : takes m t q = if q.n = (m.st.l.length : Int) ∧ c = 0 then better ⟨m.id, S, m.b⟩ q.h else m := by
 have h1 := msg_parts hok
 have h2 := h1.2.2.2.2.2
 unfold Mg.kindOk at h2
 rw [if_neg (by rw [hk]; decide), if_neg (by rw [hk]; decide), if_pos hk] at h2
 simp only [Bool.and_eq_true, decide_eq_true_eq] at h2
 have hp : putC q.h q.x = put q.h q.x := putC_yes h1.2.2.2.1 (by omega) (by have := msg_len hok; omega)
 unfold commitQ at hC
 rw [hp] at hC
 unfold takes
 split at hC
 ·rename_i h6
  have e1 : (commit1 m.st t q.h q.x).1 = S := by rw [hC]
  have e2 : (commit1 m.st t q.h q.x).2 = c := by rw [hC]
  rw [e1, e2]
  by_cases hn : q.n = (m.st.l.length : Int) ∧ c = 0
  ·rw [if_pos ⟨hn.1, h6, hn.2⟩, if_pos hn]
  ·rw [if_neg (fun h => hn ⟨h.1, h.2.2⟩), if_neg hn]
 ·rename_i h6
  injection hC with e1 e2
  subst e2
  rw [if_neg (fun h => h6 h.2.1), if_neg (fun h => by cases h.2)]
set_option maxRecDepth 1000000 in
theorem heartexts_impl (w : World) (lo : Nat) (v vb vt vx : Value) (m : Mr) (t : List Hd) (q : Ms) {a0 a1 a2 a3 : Addr} (hG : Glob w) (hF : Is.Four w a0 a1 a2 a3) (hlo : lo ≤ w.heap.size) (h9 : Own w lo w.heap.size 9 v (ss m.st.l)) (h5 : Own w lo w.heap.size 5 vb (bs m.st.b)) (hst : Sh w vt t) (hx : Sl w vx (ss q.x)) (hl : m.st.l.length ≤ 1000000000) (hbl : m.st.b.length ≤ 1000000000) (htl : t.length ≤ 1000000000) (hxl : q.x.length ≤ 1000000000) (hz : ∀ s ∈ m.st.l, s.size ≤ 10000000000) (hzx : ∀ s ∈ q.x, s.size ≤ 10000000000) (htx : Puts.tot q.x ≤ 100000000000) (hdr : q.h.r.size ≤ 100000000000) (hhr : m.st.h.r.size ≤ 1000000000000) (hgr : m.b.r.size ≤ 1000000000000) (hok : msgOk q = true) (hti : q.t = m.id) (hk : q.k = 3) :
  Calls Tryz.prog 89 #[.agg #[.int .i64 m.id, v, .int .i64 m.st.h.n, .string m.st.h.r, vb, .int .i64 m.st.s, .int .i64 m.b.n, .string m.b.r], vt, .agg #[.int .i64 q.k, .int .i64 q.f, .int .i64 q.t, .int .i64 q.h.n, .string q.h.r, .int .i64 q.n, vx]] w fun e w' => ∃ v' vb' vq mid, e = .returned (.tuple #[.agg #[.int .i64 (hear1 m t q).1.id, v', .int .i64 (hear1 m t q).1.st.h.n, .string (hear1 m t q).1.st.h.r, vb', .int .i64 (hear1 m t q).1.st.s, .int .i64 (hear1 m t q).1.b.n, .string (hear1 m t q).1.b.r], vq]) ∧ w.heap.size ≤ mid ∧ mid ≤ w'.heap.size ∧ Own w' lo mid 9 v' (ss (hear1 m t q).1.st.l) ∧ Own w' lo mid 5 vb' (bs (hear1 m t q).1.st.b) ∧ Om w' mid w'.heap.size vq (hear1 m t q).2 ∧ Below w.heap.size w w' := by
 obtain ⟨R, hR⟩ : ∃ R, hear1 m t q = R := ⟨_, rfl⟩
 have HR : Hid (hear1 m t q = R) := hR
 rw [hR]
 obtain ⟨id, ⟨l, h, b, s⟩, g⟩ := m
 obtain ⟨k, f, tt, hq, n, x⟩ := q
 simp only at *
 have HOK : Hid (msgOk ⟨k, f, tt, hq, n, x⟩ = true) := hok
 have HTI : Hid (tt = id) := hti
 have HK : Hid (k = 3) := hk
 have HS : Hid (Sl w v (ss l)) := h9.sl
 have HSB : Hid (Sl w vb (bs b)) := h5.sl
 have HT : Hid (Sh w vt t) := hst
 have HX : Hid (Sl w vx (ss x)) := hx
 have HG : Hid (Glob w) := hG
 have HF : Hid (Is.Four w a0 a1 a2 a3) := hF
 obtain ⟨ao2, cap2, rfl, hc2⟩ := hst.form
 obtain ⟨ao3, cap3, rfl, hc3⟩ := hx.form
 obtain ⟨ao_v, L_v, cap_v, rfl, hv1, hv2⟩ := Mem.Own.form h9
 obtain ⟨ao_p, L_p, cap_p, rfl, hp1, hp2⟩ := Mem.Own.form h5
 simp only [ss_len, bs_len] at *
 obtain rfl : L_v = l.length := by omega
 obtain rfl : L_p = b.length := by omega
 have o_v0 : Hid (Own w lo w.heap.size 9 (.slice ao_v l.length cap_v) (ss l)) := h9
 have o_p0 : Hid (Own w lo w.heap.size 5 (.slice ao_p b.length cap_p) (bs b)) := h5
 clear hst hx hR h9 h5 hv1 hv2 hp1 hp2 hok hti hk hG hF
 have B0 : Hid (Below w.heap.size w w) := Below.refl _ _
 obtain ⟨W1, HW1, b1, y1, hS1, r_a1, r_q1, r_res1⟩ := Ke.l3 w #[.int .i64 id, .slice ao_v l.length cap_v, .int .i64 h.n, .string h.r, .slice ao_p b.length cap_p, .int .i64 s, .int .i64 g.n, .string g.r] 32 #[.int .i64 k, .int .i64 f, .int .i64 tt, .int .i64 hq.n, .string hq.r, .int .i64 n, .slice ao3 x.length cap3] 35 #[.int .i64 0, .slice none 0 0, .int .i64 0, .string ⟨#[]⟩, .slice none 0 0, .int .i64 0, .int .i64 0, .string ⟨#[]⟩] 32
 have z1 := b1.size
 have B1 := Ke.b B0 b1
 have o_v1 := Ke.o o_v0 b1
 have o_p1 := Ke.o o_p0 b1
 have c_a1 := Ke.c r_a1
 have c_q1 := Ke.c r_q1
 have c_res1 := Ke.c r_res1
 clear o_v0 o_p0
 have q1 : ∀ W v1 v2 v3 v4, Glob W → Is.Four W a0 a1 a2 a3 → Sl W v1 (ss l) → Sl W v2 (bs b) → Sh W v3 t → Sl W v4 (ss x) → _ := fun W v1 v2 v3 v4 hG hF h1 h2 h3 h4 => withc_impl W v1 v2 v3 v4 ⟨l, h, b, s⟩ t hq x hG hF h1 h2 h3 h4 hl hbl htl hxl hz hzx htx hdr hhr
 obtain ⟨Lx, Hx, Bx, Sx, c, hC⟩ : ∃ L H B S c, commitQ ⟨l, h, b, s⟩ t hq x = (⟨L, H, B, S⟩, c) := ⟨_, _, _, _, _, rfl⟩
 simp only [hC] at q1
 have HT3 : Hid (R = (takes ⟨id, ⟨l, h, b, s⟩, g⟩ t ⟨k, f, tt, hq, n, x⟩, [])) := by show _ = _; rw [← HR.out]; unfold hear1; simp only; rw [if_neg (by rw [HK.out]; decide), if_neg (by rw [HK.out]; decide)]
 have HTK : Hid (takes ⟨id, ⟨l, h, b, s⟩, g⟩ t ⟨k, f, tt, hq, n, x⟩ = if n = (l.length : Int) ∧ c = 0 then better ⟨id, ⟨Lx, Hx, Bx, Sx⟩, g⟩ hq else ⟨id, ⟨l, h, b, s⟩, g⟩) := takes_commitQ HOK.out HK.out hC
 clear HR hC
 go_enter Tryz.func89, Tryz.ntmps89
 by_cases hnl : n = (l.length : Int)
 ·have nq : (n != (l.length : Int)) = false := by simp [hnl]
  have HNL : Hid (n = (l.length : Int)) := hnl
  clear hnl
  go_wp2_with fail
  rw [HW1.out]
  refine (q1 W1 _ _ _ _ (HG.out.later B1.out) (HF.out.later B1.out) (HS.out.later B1.out) (HSB.out.later B1.out) (HT.out.later B1.out) (HX.out.later B1.out)).mono ?_
  rintro e W2 ⟨v_n, v_np, rfl, o_n2, o_np2, b2⟩
  obtain ⟨lo_n, hi_n, lo_np, hi_np, d1_n, d2_n, d3_n, d4_n, d5_n, d6_n, d7_n, oo_n, oo_np⟩ := Sr.pairN o_n2 o_np2 b2.size
  clear o_n2 o_np2
  obtain ⟨ao_n, L_n, cap_n, rfl, _, _⟩ := oo_n.form
  obtain ⟨ao_np, L_np, cap_np, rfl, _, _⟩ := oo_np.form
  have o_n2 : Hid (Own W2 lo_n hi_n 9 (.slice ao_n L_n cap_n) (ss Lx)) := oo_n
  have o_np2 : Hid (Own W2 lo_np hi_np 5 (.slice ao_np L_np cap_np) (bs Bx)) := oo_np
  clear oo_n oo_np
  have z2 := b2.size
  have B2 := Ke.b B1 b2
  have r_a2 := Ke.r r_a1 b2
  have r_q2 := Ke.r r_q1 b2
  have r_res2 := Ke.r r_res1 b2
  have o_v2 := Ke.o o_v1 b2
  have o_p2 := Ke.o o_p1 b2
  have c_a2 := Ke.c r_a2
  have c_q2 := Ke.c r_q2
  have c_res2 := Ke.c r_res2
  clear r_a1 c_a1 r_q1 c_q1 r_res1 c_res1 o_v1 o_p1
  have a_a2 := Ke.a r_a2
  have a_q2 := Ke.a r_q2
  have a_res2 := Ke.a r_res2
  obtain ⟨W3, HW3, b3, y3, hS3, r_st3⟩ := Ke.l1 W2 #[.slice ao_n L_n cap_n, .int .i64 Hx.n, .string Hx.r, .slice ao_np L_np cap_np, .int .i64 Sx] 30
  have z3 := b3.size
  have B3 := Ke.b B2 b3
  have r_a3 := Ke.r r_a2 b3
  have r_q3 := Ke.r r_q2 b3
  have r_res3 := Ke.r r_res2 b3
  have o_v3 := Ke.o o_v2 b3
  have o_p3 := Ke.o o_p2 b3
  have o_n3 := Ke.o o_n2 b3
  have o_np3 := Ke.o o_np2 b3
  have c_a3 := Ke.c r_a3
  have c_q3 := Ke.c r_q3
  have c_res3 := Ke.c r_res3
  have c_st3 := Ke.c r_st3
  clear r_a2 c_a2 r_q2 c_q2 r_res2 c_res2 o_v2 o_p2 o_n2 o_np2
  by_cases hc : c = 0
  ·have q2 : ∀ W v1 v2, Sl W v1 (ss Lx) → Sl W v2 (bs Bx) → _ := fun W v1 v2 h1 h2 => withbest_impl W v1 v2 ⟨id, ⟨Lx, Hx, Bx, Sx⟩, g⟩ hq (by omega) h1 h2
   simp only at q2
   obtain ⟨G, hG⟩ : ∃ G, (better ⟨id, ⟨Lx, Hx, Bx, Sx⟩, g⟩ hq).b = G := ⟨_, rfl⟩
   simp only [hG] at q2
   have HN : Hid (R = (⟨id, ⟨Lx, Hx, Bx, Sx⟩, G⟩, [])) := by
    show _ = _
    rw [HT3.out, HTK.out, if_pos ⟨HNL.out, hc⟩, ← hG]
    unfold better
    split <;> rfl
   clear hG
   subst hc
   go_wp2_with (first | ((try rw [HW3.out]); refine wpList_load_row rfl 30 _ rfl (W2.heap.size) rfl 30 (sc (.slice ao_n L_n cap_n) Hx (.slice ao_np L_np cap_np) Sx) (0, 0) _ r_st3.out Tryz.underlying30 rfl (sizeS _ _ _ _) ?_) | ((try rw [HW3.out]); refine wpl_partG rfl 30 _ _ rfl (w.heap.size) 1 (sc (.slice ao_n L_n cap_n) Hx (.slice ao_np L_np cap_np) Sx) rfl rfl [.int .i64 id, .slice ao_v l.length cap_v, .int .i64 h.n, .string h.r, .slice ao_p b.length cap_p, .int .i64 s, .int .i64 g.n, .string g.r] 32 r_a3.out (Nat.le_of_ble_eq_true rfl) (sizeS _ _ _ _) (oneS _ _ rfl rfl) [.int .i64 id, .slice ao_n L_n cap_n, .int .i64 Hx.n, .string Hx.r, .slice ao_np L_np cap_np, .int .i64 Sx, .int .i64 g.n, .string g.r] rfl ?_))
   intro W4 r_a4 g4
   clear a_a2 a_q2 a_res2
   have r_a4 : Hid (W4.heap[w.heap.size]? = some (.cells #[.int .i64 id, .slice ao_n L_n cap_n, .int .i64 Hx.n, .string Hx.r, .slice ao_np L_np cap_np, .int .i64 Sx, .int .i64 g.n, .string g.r] 32 (0, 0))) := r_a4
   have z4 := g4.size
   have B4 := Ke.i B3 g4
   have r_q4 := Ke.s r_q3 g4
   have r_res4 := Ke.s r_res3 g4
   have r_st4 := Ke.s r_st3 g4
   have o_v4 := Ke.t o_v3 r_a3 g4
   have o_p4 := Ke.t o_p3 r_a3 g4
   have o_n4 := Ke.t o_n3 r_a3 g4
   have o_np4 := Ke.t o_np3 r_a3 g4
   have c_a4 := Ke.c r_a4
   have c_q4 := Ke.c r_q4
   have c_res4 := Ke.c r_res4
   have c_st4 := Ke.c r_st4
   clear r_q3 c_q3 r_res3 c_res3 r_st3 c_st3 o_v3 o_p3 o_n3 o_np3
   clear r_a3 c_a3
   clear g4
   go_wp2_with fail
   refine (q2 W4 _ _ o_n4.out.sl o_np4.out.sl).mono ?_
   rintro e W5 ⟨rfl, b5⟩
   have z5 := b5.size
   have B5 := Ke.b B4 b5
   have r_a5 := Ke.r r_a4 b5
   have r_q5 := Ke.r r_q4 b5
   have r_res5 := Ke.r r_res4 b5
   have r_st5 := Ke.r r_st4 b5
   have o_v5 := Ke.o o_v4 b5
   have o_p5 := Ke.o o_p4 b5
   have o_n5 := Ke.o o_n4 b5
   have o_np5 := Ke.o o_np4 b5
   have c_a5 := Ke.c r_a5
   have c_q5 := Ke.c r_q5
   have c_res5 := Ke.c r_res5
   have c_st5 := Ke.c r_st5
   clear r_a4 c_a4 r_q4 c_q4 r_res4 c_res4 r_st4 c_st4 o_v4 o_p4 o_n4 o_np4
   go_wp2_with (refine wpList_store_row rfl 32 _ _ rfl (w.heap.size + 1 + 1) (mq id (.slice ao_n L_n cap_n) Hx (.slice ao_np L_np cap_np) Sx G) rfl rfl 32 _ r_res5.out (sizeQ _ _ _ _ _ _) rfl (oneQ _ _ _ _ rfl rfl) ?_)
   refine bodyPost_ret (res_row_tmp rfl _ _ (w.heap.size + 1 + 1) 32 (mq id (.slice ao_n L_n cap_n) Hx (.slice ao_np L_np cap_np) Sx G) (0, 0) _ rfl (setRow_heap _ _ _ _ _ (0, 0) r_res5.out) Tryz.underlying32 rfl (sizeQ _ _ _ _ _ _)) rfl ⟨.slice ao_n L_n cap_n, .slice ao_np L_np cap_np, _, W5.heap.size, by rw [HN.out]; rfl, ?_, ?_, ?_, ?_, ?_, below_setRow B5.out (by omega) _⟩
   ·omega
   ·rw [size_setRow]; omega
   ·rw [HN.out]
    exact (Own.setRow o_n5.out _ (by omega)).mono (by omega) (by omega)
   ·rw [HN.out]
    exact (Own.setRow o_np5.out _ (by omega)).mono (by omega) (by omega)
   ·rw [HN.out]
    exact Om.nil _ _ _ _ _
  ·have nc : (c != 0) = true := by simp [hc]
   have HN : Hid (R = (⟨id, ⟨l, h, b, s⟩, g⟩, [])) := by show _ = _; rw [HT3.out, HTK.out, if_neg (fun q => hc q.2)]
   go_wp2_with (first | ((try rw [HW3.out]); refine wpList_load_row rfl 32 _ rfl (w.heap.size) rfl 32 (mq id (.slice ao_v l.length cap_v) h (.slice ao_p b.length cap_p) s g) (0, 0) _ r_a3.out Tryz.underlying32 rfl (sizeQ _ _ _ _ _ _) ?_) | ((try rw [HW3.out]); refine wpList_store_row rfl 32 _ _ rfl (w.heap.size + 1 + 1) (mq id (.slice ao_v l.length cap_v) h (.slice ao_p b.length cap_p) s g) rfl rfl 32 _ r_res3.out (sizeQ _ _ _ _ _ _) rfl (oneQ _ _ _ _ rfl rfl) ?_))
   refine bodyPost_ret (res_row_tmp rfl _ _ (w.heap.size + 1 + 1) 32 (mq id (.slice ao_v l.length cap_v) h (.slice ao_p b.length cap_p) s g) (0, 0) _ rfl (setRow_heap _ _ _ _ _ (0, 0) r_res3.out) Tryz.underlying32 rfl (sizeQ _ _ _ _ _ _)) rfl ⟨.slice ao_v l.length cap_v, .slice ao_p b.length cap_p, _, w.heap.size, by rw [HN.out]; rfl, ?_, ?_, ?_, ?_, ?_, below_setRow B3.out (by omega) _⟩
   ·omega
   ·rw [size_setRow]; omega
   ·rw [HN.out]
    exact (Own.setRow o_v3.out _ (by omega)).mono (by omega) (by omega)
   ·rw [HN.out]
    exact (Own.setRow o_p3.out _ (by omega)).mono (by omega) (by omega)
   ·rw [HN.out]
    exact Om.nil _ _ _ _ _
 ·have nq : (n != (l.length : Int)) = true := by simp [hnl]
  have HN : Hid (R = (⟨id, ⟨l, h, b, s⟩, g⟩, [])) := by show _ = _; rw [HT3.out, HTK.out, if_neg (fun q => hnl q.1)]
  go_wp2_with (first | ((try rw [HW1.out]); refine wpList_load_row rfl 32 _ rfl (w.heap.size) rfl 32 (mq id (.slice ao_v l.length cap_v) h (.slice ao_p b.length cap_p) s g) (0, 0) _ r_a1.out Tryz.underlying32 rfl (sizeQ _ _ _ _ _ _) ?_) | ((try rw [HW1.out]); refine wpList_store_row rfl 32 _ _ rfl (w.heap.size + 1 + 1) (mq id (.slice ao_v l.length cap_v) h (.slice ao_p b.length cap_p) s g) rfl rfl 32 _ r_res1.out (sizeQ _ _ _ _ _ _) rfl (oneQ _ _ _ _ rfl rfl) ?_))
  refine bodyPost_ret (res_row_tmp rfl _ _ (w.heap.size + 1 + 1) 32 (mq id (.slice ao_v l.length cap_v) h (.slice ao_p b.length cap_p) s g) (0, 0) _ rfl (setRow_heap _ _ _ _ _ (0, 0) r_res1.out) Tryz.underlying32 rfl (sizeQ _ _ _ _ _ _)) rfl ⟨.slice ao_v l.length cap_v, .slice ao_p b.length cap_p, _, w.heap.size, by rw [HN.out]; rfl, ?_, ?_, ?_, ?_, ?_, below_setRow B1.out (by omega) _⟩
  ·omega
  ·rw [size_setRow]; omega
  ·rw [HN.out]
   exact (Own.setRow o_v1.out _ (by omega)).mono (by omega) (by omega)
  ·rw [HN.out]
   exact (Own.setRow o_p1.out _ (by omega)).mono (by omega) (by omega)
  ·rw [HN.out]
   exact Om.nil _ _ _ _ _
end Go.Proofs.YtchonoonclllbaaGreatDoor.Mi
