/- Texts in one: MiX. -/
import Derived.Test.YtchonoonclllbabGreatDoorPa6
import Derived.Test.YtchonoonclllbabGreatDoorPa14
import Derived.Test.YtchonoonclllbabGreatDoorPa15
import Derived.Test.YtchonoonclllbabGreatDoorPa18
import Derived.Test.YtchonoonclllbabGreatDoorPa29
namespace Go.Proofs.YtchonoonclllbabGreatDoor.Mi
open Go.RowKit Go.Proofs.YtchonoonclllbabGreatDoor.Mem Go.Proofs.YtchonoonclllbabGreatDoor.Laws Go.Proofs.YtchonoonclllbabGreatDoor.Bytes Go.Proofs.YtchonoonclllbabGreatDoor.Sha Go.Proofs.YtchonoonclllbabGreatDoor.Tr Go.Proofs.YtchonoonclllbabGreatDoor.He Go.Proofs.YtchonoonclllbabGreatDoor.Lg Go.Proofs.YtchonoonclllbabGreatDoor.Sr Go.Proofs.YtchonoonclllbabGreatDoor.Mg
set_option linter.unusedVariables false
set_option linter.unusedSimpArgs false
set_option maxRecDepth 1000000 in
set_option maxHeartbeats 16000000 in
theorem exact_gossip (w : World) (v vb vt : Value) (id : Int) (l : List ByteArray) (h : Hd) (b : List Int) (s : Int) (g : Hd) (t : List Hd) (hs : Sl w v (ss l)) (hb : Sl w vb (bs b)) (hby : Byt b) (hz : ∀ s ∈ l, s.size ≤ maxLen) (hm : l.length ≤ maxLen) (hmb : b.length ≤ maxLen) (hh : h.r.size ≤ maxLen) (hgm : g.r.size ≤ maxLen) (hst : Sh w vt t) (y0 : ∀ n ∈ t, n.r.size ≤ maxLen) (m0 : t.length ≤ maxLen) (hG : Glob w) (hN : NoC w) (to : Int) :
  Calls Tryz.prog 4 #[.agg #[.int .i64 id, v, .int .i64 h.n, .string h.r, vb, .int .i64 s, .int .i64 g.n, .string g.r], vt, .int .i64 to] w fun e w' => e = .returned (.bool true) ∧ Below w.heap.size w w' := by
 have HS : Hid (Sl w v (ss l)) := hs
 have HSB : Hid (Sl w vb (bs b)) := hb
 have HBY : Hid (Byt b) := hby
 have HT : Hid (Sh w vt t) := hst
 have HG : Hid (Glob w) := hG
 have HNC : Hid (NoC w) := hN
 unfold maxLen at *
 obtain ⟨ao0, cap0, rfl, hc0⟩ := hs.form
 obtain ⟨ao1, cap1, rfl, hc1⟩ := hb.form
 obtain ⟨ao2, cap2, rfl, hc2⟩ := hst.form
 simp only [ss_len, bs_len] at *
 clear hs hb hby hst hG hN
 have B0 : Hid (Below w.heap.size w w) := Below.refl _ _
 obtain ⟨W1, HW1, b1, y1, hS1, r_a1⟩ := Ke.l1 w #[.int .i64 id, .slice ao0 l.length cap0, .int .i64 h.n, .string h.r, .slice ao1 b.length cap1, .int .i64 s, .int .i64 g.n, .string g.r] 31
 have z1 := b1.size
 have B1 := Ke.b B0 b1
 have c_a1 := Ke.c r_a1
 go_enter Tryz.func4, Tryz.ntmps4
 go_wp2_with fail
 rw [HW1.out]
 refine (sz_mirror W1 _ _ id l h b s g (HS.out.later B1.out) (HSB.out.later B1.out) (fun s h => by have := hz s h; omega) (by omega) (by omega) (by omega) (by omega)).mono ?_
 rintro e W2 ⟨⟨r0, rfl, hr0⟩, b2⟩
 have z2 := b2.size
 have B2 := Ke.b B1 b2
 have r_a2 := Ke.r r_a1 b2
 have c_a2 := Ke.c r_a2
 clear r_a1 c_a1
 by_cases hr : r0 < 0
 ·
  go_wp2
  go_ret
  exact ⟨rfl, B2.out⟩
 have hr1 : l.length + Puts.tot l ≤ 1048576 ∧ h.r.size ≤ 1048576 ∧ b.length ≤ 1048576 ∧ g.r.size ≤ 1048576 ∧ 0 ≤ r0 ∧ r0 ≤ 1048576 := by rcases hr0 with h0 | h0; exact absurd h0 hr; exact h0
 obtain ⟨hr1, hzh, hbl, hzg, hr2, hr3⟩ := hr1
 have hl : l.length ≤ 1048576 := by omega
 have HZ : Hid (∀ s ∈ l, s.size ≤ 10000000000) := fun s h => Nat.le_trans (tot_mem14 l s h) (by omega)
 clear hz hr0 hm hmb hh hgm
 obtain ⟨n0, rfl⟩ : ∃ n0 : Nat, r0 = (n0 : Int) := ⟨r0.toNat, by omega⟩
 go_wp2_with fail
 refine (sz_heads W2 _ t n0 (HT.out.later B2.out) (fun n hn => y0 n hn) m0 (by omega)).mono ?_
 rintro e W3 ⟨⟨q0, rfl, hq1, hq0⟩, b3⟩
 have z3 := b3.size
 have B3 := Ke.b B2 b3
 have r_a3 := Ke.r r_a2 b3
 have c_a3 := Ke.c r_a3
 clear r_a2 c_a2
 by_cases hqn : q0 < 0
 ·
  go_wp2
  go_ret
  exact ⟨rfl, B3.out⟩
 have hfit : 0 ≤ q0 ∧ t.length ≤ 1048576 := by rcases hq0 with h | ⟨h1, h2, h3⟩; exact absurd h hqn; exact ⟨h1, by omega⟩
 obtain ⟨hq2, htl⟩ := hfit
 clear hq0 y0 m0
 have q1 : ∀ W v1 v2 v3, Sl W v1 (ss l) → Sl W v2 (bs b) → Sh W v3 t → _ := fun W v1 v2 v3 h1 h2 h3 => gossip_spec W v1 v2 v3 ⟨id, ⟨l, h, b, s⟩, g⟩ t to h1 h2 HBY.out h3 (by simp only; omega) (by simp only; omega) (by omega) HZ.out
 have q2 : ∀ W v1 v2 v3, Below w.heap.size w W → Sl W v1 (ss l) → Sl W v2 (bs b) → Sh W v3 t → _ := fun W v1 v2 v3 hB h1 h2 h3 => gossip_impl W v1 v2 v3 ⟨id, ⟨l, h, b, s⟩, g⟩ t to (HG.out.later hB) (NoC.later HNC.out hB) (by simp only; omega) h1 h2 HBY.out h3 (by simp only; omega) (by simp only; omega) (by omega) HZ.out
 have HQL : Hid (∀ m ∈ gossip ⟨id, ⟨l, h, b, s⟩, g⟩ t to, m.x.length ≤ 1000000000) := gossip_len ⟨id, ⟨l, h, b, s⟩, g⟩ t to
 obtain ⟨Q, hM⟩ : ∃ Q, gossip ⟨id, ⟨l, h, b, s⟩, g⟩ t to = Q := ⟨_, rfl⟩
 simp only [hM] at q1 q2
 rw [hM] at HQL
 clear hM
 go_wp2_with fail
 refine (to_mirror W3 _ _ id l h b s g (HS.out.later B3.out) (HSB.out.later B3.out) (by omega) (by omega)).mono ?_
 rintro e W4 ⟨v_t, v_tp, rfl, o_t4, o_tp4, b4⟩
 obtain ⟨lo_t, hi_t, lo_tp, hi_tp, d1_t, d2_t, d3_t, d4_t, d5_t, d6_t, d7_t, oo_t, oo_tp⟩ := Sr.pairN o_t4 o_tp4 b4.size
 clear o_t4 o_tp4
 obtain ⟨ao_t, L_t, cap_t, rfl, _, _⟩ := oo_t.form
 obtain ⟨ao_tp, L_tp, cap_tp, rfl, _, _⟩ := oo_tp.form
 have o_t4 : Hid (Own W4 lo_t hi_t 9 (.slice ao_t L_t cap_t) (ss l)) := oo_t
 have o_tp4 : Hid (Own W4 lo_tp hi_tp 5 (.slice ao_tp L_tp cap_tp) (bs b)) := oo_tp
 clear oo_t oo_tp
 have z4 := b4.size
 have B4 := Ke.b B3 b4
 have r_a4 := Ke.r r_a3 b4
 have c_a4 := Ke.c r_a4
 clear r_a3 c_a3
 go_wp2_with fail
 refine (to_heads W4 _ t (HT.out.later B4.out) (by omega)).mono ?_
 rintro e W5 ⟨v_t1, rfl, o_t15, b5⟩
 have z5 := b5.size
 have B5 := Ke.b B4 b5
 have r_a5 := Ke.r r_a4 b5
 have o_t5 := Ke.o o_t4 b5
 have o_tp5 := Ke.o o_tp4 b5
 have c_a5 := Ke.c r_a5
 clear r_a4 c_a4 o_t4 o_tp4
 have f_t15 : Hid (Oq W5 W4.heap.size W5.heap.size v_t1 t) := ⟨o_t15, Nat.le_refl _⟩
 clear o_t15
 go_wp2_with fail
 refine (q1 W5 _ _ _ o_t5.out.sl o_tp5.out.sl f_t15.out.1.sh).mono ?_
 rintro e W6 ⟨v_w0, rfl, o_w06, b6⟩
 have z6 := b6.size
 have B6 := Ke.b B5 b6
 have r_a6 := Ke.r r_a5 b6
 have o_t6 := Ke.o o_t5 b6
 have o_tp6 := Ke.o o_tp5 b6
 have c_a6 := Ke.c r_a6
 clear r_a5 c_a5 o_t5 o_tp5
 have f_t16 : Hid (Oq W6 W4.heap.size W5.heap.size v_t1 t) := Oq.later f_t15.out b6
 clear f_t15
 have f_w06 : Hid (Omx W6 W5.heap.size W6.heap.size v_w0 Q) := ⟨o_w06, Nat.le_refl _⟩
 clear o_w06
 clear o_t6
 clear o_tp6
 clear f_t16
 go_wp2_with fail
 refine (to_mirror W6 _ _ id l h b s g (HS.out.later B6.out) (HSB.out.later B6.out) (by omega) (by omega)).mono ?_
 rintro e W7 ⟨v_x, v_xp, rfl, o_x7, o_xp7, b7⟩
 obtain ⟨lo_x, hi_x, lo_xp, hi_xp, d1_x, d2_x, d3_x, d4_x, d5_x, d6_x, d7_x, oo_x, oo_xp⟩ := Sr.pairN o_x7 o_xp7 b7.size
 clear o_x7 o_xp7
 obtain ⟨ao_x, L_x, cap_x, rfl, _, _⟩ := oo_x.form
 obtain ⟨ao_xp, L_xp, cap_xp, rfl, _, _⟩ := oo_xp.form
 have o_x7 : Hid (Own W7 lo_x hi_x 9 (.slice ao_x L_x cap_x) (ss l)) := oo_x
 have o_xp7 : Hid (Own W7 lo_xp hi_xp 5 (.slice ao_xp L_xp cap_xp) (bs b)) := oo_xp
 clear oo_x oo_xp
 have z7 := b7.size
 have B7 := Ke.b B6 b7
 have r_a7 := Ke.r r_a6 b7
 have c_a7 := Ke.c r_a7
 clear r_a6 c_a6
 have f_w07 : Hid (Omx W7 W5.heap.size W6.heap.size v_w0 Q) := Omx.later f_w06.out b7
 clear f_w06
 have a_a7 := Ke.a r_a7
 obtain ⟨W8, HW8, b8, y8, hS8, r_x08⟩ := Ke.l1 W7 #[.int .i64 id, .slice ao_x L_x cap_x, .int .i64 h.n, .string h.r, .slice ao_xp L_xp cap_xp, .int .i64 s, .int .i64 g.n, .string g.r] 44
 have z8 := b8.size
 have B8 := Ke.b B7 b8
 have r_a8 := Ke.r r_a7 b8
 have o_x8 := Ke.o o_x7 b8
 have o_xp8 := Ke.o o_xp7 b8
 have c_a8 := Ke.c r_a8
 have c_x08 := Ke.c r_x08
 clear r_a7 c_a7 o_x7 o_xp7
 have f_w08 : Hid (Omx W8 W5.heap.size W6.heap.size v_w0 Q) := Omx.later f_w07.out b8
 clear f_w07
 go_wp2_with fail
 rw [HW8.out]
 clear a_a7
 refine (to_heads W8 _ t (HT.out.later B8.out) (by omega)).mono ?_
 rintro e W9 ⟨v_x1, rfl, o_x19, b9⟩
 have z9 := b9.size
 have B9 := Ke.b B8 b9
 have r_a9 := Ke.r r_a8 b9
 have r_x09 := Ke.r r_x08 b9
 have o_x9 := Ke.o o_x8 b9
 have o_xp9 := Ke.o o_xp8 b9
 have c_a9 := Ke.c r_a9
 have c_x09 := Ke.c r_x09
 clear r_a8 c_a8 r_x08 c_x08 o_x8 o_xp8
 have f_w09 : Hid (Omx W9 W5.heap.size W6.heap.size v_w0 Q) := Omx.later f_w08.out b9
 clear f_w08
 have f_x19 : Hid (Oq W9 W8.heap.size W9.heap.size v_x1 t) := ⟨o_x19, Nat.le_refl _⟩
 clear o_x19
 go_wp2_with fail
 refine (q2 W9 _ _ _ B9.out o_x9.out.sl o_xp9.out.sl f_x19.out.1.sh).mono ?_
 rintro e W10 ⟨v_g0, rfl, o_g010, b10⟩
 have z10 := b10.size
 have B10 := Ke.b B9 b10
 have r_a10 := Ke.r r_a9 b10
 have r_x010 := Ke.r r_x09 b10
 have o_x10 := Ke.o o_x9 b10
 have o_xp10 := Ke.o o_xp9 b10
 have c_a10 := Ke.c r_a10
 have c_x010 := Ke.c r_x010
 clear r_a9 c_a9 r_x09 c_x09 o_x9 o_xp9
 have f_w010 : Hid (Omx W10 W5.heap.size W6.heap.size v_w0 Q) := Omx.later f_w09.out b10
 have f_x110 : Hid (Oq W10 W8.heap.size W9.heap.size v_x1 t) := Oq.later f_x19.out b10
 clear f_w09 f_x19
 have f_g010 : Hid (Omx W10 W9.heap.size W10.heap.size v_g0 Q) := ⟨o_g010, Nat.le_refl _⟩
 clear o_g010
 go_wp2_with fail
 refine (eq_msgs W10 _ _ _ _ _ _ Q f_g010.out.1 f_w010.out.1 (fun m hm => Nat.le_trans (HQL.out m hm) (by omega))).mono ?_
 rintro e W11 ⟨rfl, b11⟩
 have z11 := b11.size
 have B11 := Ke.b B10 b11
 have r_a11 := Ke.r r_a10 b11
 have r_x011 := Ke.r r_x010 b11
 have o_x11 := Ke.o o_x10 b11
 have o_xp11 := Ke.o o_xp10 b11
 have c_a11 := Ke.c r_a11
 have c_x011 := Ke.c r_x011
 clear r_a10 c_a10 r_x010 c_x010 o_x10 o_xp10
 have f_w011 : Hid (Omx W11 W5.heap.size W6.heap.size v_w0 Q) := Omx.later f_w010.out b11
 have f_x111 : Hid (Oq W11 W8.heap.size W9.heap.size v_x1 t) := Oq.later f_x110.out b11
 have f_g011 : Hid (Omx W11 W9.heap.size W10.heap.size v_g0 Q) := Omx.later f_g010.out b11
 clear f_w010 f_x110 f_g010
 go_wp2_with fail
 refine wp_region_held_drew (S := fun w' => w'.cell? ⟨W7.heap.size, 0, none⟩ = some (.int .i64 id) ∧ w'.cell? ⟨W7.heap.size, 1, none⟩ = some (.slice ao_x L_x cap_x) ∧ w'.cell? ⟨W7.heap.size, 2, none⟩ = some (.int .i64 h.n) ∧ w'.cell? ⟨W7.heap.size, 3, none⟩ = some (.string h.r) ∧ w'.cell? ⟨W7.heap.size, 4, none⟩ = some (.slice ao_xp L_xp cap_xp) ∧ w'.cell? ⟨W7.heap.size, 5, none⟩ = some (.int .i64 s) ∧ w'.cell? ⟨W7.heap.size, 6, none⟩ = some (.int .i64 g.n) ∧ w'.cell? ⟨W7.heap.size, 7, none⟩ = some (.string g.r) ∧ w'.cell? ⟨w.heap.size, 0, none⟩ = some (.int .i64 id) ∧ w'.cell? ⟨w.heap.size, 1, none⟩ = some (.slice ao0 l.length cap0) ∧ w'.cell? ⟨w.heap.size, 2, none⟩ = some (.int .i64 h.n) ∧ w'.cell? ⟨w.heap.size, 3, none⟩ = some (.string h.r) ∧ w'.cell? ⟨w.heap.size, 4, none⟩ = some (.slice ao1 b.length cap1) ∧ w'.cell? ⟨w.heap.size, 5, none⟩ = some (.int .i64 s) ∧ w'.cell? ⟨w.heap.size, 6, none⟩ = some (.int .i64 g.n) ∧ w'.cell? ⟨w.heap.size, 7, none⟩ = some (.string g.r)) (by kernel_rfl) ⟨(c_x011 0), (c_x011 1), (c_x011 2), (c_x011 3), (c_x011 4), (c_x011 5), (c_x011 6), (c_x011 7), (c_a11 0), (c_a11 1), (c_a11 2), (c_a11 3), (c_a11 4), (c_a11 5), (c_a11 6), (c_a11 7)⟩ (fun hHeld => ?_)
 refine Ke.y 0 rfl (fun _ _ _ h => h) ?_
 try simp only [Act.put, pu1, pu2, pu3, pu4, pu5, pu6]
 refine Ke.y 1 rfl (fun _ _ _ h => h) ?_
 try simp only [Act.put, pu1, pu2, pu3, pu4, pu5, pu6]
 refine Ke.z 2 rfl (fun K hK => ?_)
 go_simp
 refine (to_mirror W11.drew _ _ id l h b s g (Sl.later (w := W11) (HS.out.later B11.out) (Below.drew (Below.refl _ _))) (Sl.later (w := W11) (HSB.out.later B11.out) (Below.drew (Below.refl _ _))) (by omega) (by omega)).mono ?_
 rintro e W12 ⟨v_u, v_up, rfl, o_u12, o_up12, b12⟩
 have b12 : Below W11.heap.size W11 W12 := (Below.drew (Below.refl _ _)).trans b12
 have o_u12 : Own W12 W11.heap.size W12.heap.size 9 _ _ := o_u12
 have o_up12 : Own W12 W11.heap.size W12.heap.size 5 _ _ := o_up12
 refine hK.out _ _ ⟨(keepR (W := W11) hHeld.1 b12), (keepR (W := W11) hHeld.2.1 b12), (keepR (W := W11) hHeld.2.2.1 b12), (keepR (W := W11) hHeld.2.2.2.1 b12), (keepR (W := W11) hHeld.2.2.2.2.1 b12), (keepR (W := W11) hHeld.2.2.2.2.2.1 b12), (keepR (W := W11) hHeld.2.2.2.2.2.2.1 b12), (keepR (W := W11) hHeld.2.2.2.2.2.2.2.1 b12), (keepR (W := W11) hHeld.2.2.2.2.2.2.2.2.1 b12), (keepR (W := W11) hHeld.2.2.2.2.2.2.2.2.2.1 b12), (keepR (W := W11) hHeld.2.2.2.2.2.2.2.2.2.2.1 b12), (keepR (W := W11) hHeld.2.2.2.2.2.2.2.2.2.2.2.1 b12), (keepR (W := W11) hHeld.2.2.2.2.2.2.2.2.2.2.2.2.1 b12), (keepR (W := W11) hHeld.2.2.2.2.2.2.2.2.2.2.2.2.2.1 b12), (keepR (W := W11) hHeld.2.2.2.2.2.2.2.2.2.2.2.2.2.2.1 b12), (keepR (W := W11) hHeld.2.2.2.2.2.2.2.2.2.2.2.2.2.2.2 b12)⟩ (fun hHeld => ?_)
 clear hK K
 try simp only [Act.put, pu1, pu2, pu3, pu4, pu5, pu6]
 obtain ⟨lo_u, hi_u, lo_up, hi_up, d1_u, d2_u, d3_u, d4_u, d5_u, d6_u, d7_u, oo_u, oo_up⟩ := Sr.pairN o_u12 o_up12 b12.size
 clear o_u12 o_up12
 obtain ⟨ao_u, L_u, cap_u, rfl, _, _⟩ := oo_u.form
 obtain ⟨ao_up, L_up, cap_up, rfl, _, _⟩ := oo_up.form
 have o_u12 : Hid (Own W12 lo_u hi_u 9 (.slice ao_u L_u cap_u) (ss l)) := oo_u
 have o_up12 : Hid (Own W12 lo_up hi_up 5 (.slice ao_up L_up cap_up) (bs b)) := oo_up
 clear oo_u oo_up
 have z12 := b12.size
 have B12 := Ke.b B11 b12
 have r_a12 := Ke.r r_a11 b12
 have r_x012 := Ke.r r_x011 b12
 have o_x12 := Ke.o o_x11 b12
 have o_xp12 := Ke.o o_xp11 b12
 have c_a12 := Ke.c r_a12
 have c_x012 := Ke.c r_x012
 clear r_a11 c_a11 r_x011 c_x011 o_x11 o_xp11
 have f_w012 : Hid (Omx W12 W5.heap.size W6.heap.size v_w0 Q) := Omx.later f_w011.out b12
 have f_x112 : Hid (Oq W12 W8.heap.size W9.heap.size v_x1 t) := Oq.later f_x111.out b12
 have f_g012 : Hid (Omx W12 W9.heap.size W10.heap.size v_g0 Q) := Omx.later f_g011.out b12
 clear f_w011 f_x111 f_g011
 refine Ke.z 3 rfl (fun K hK => ?_)
 go_simp
 refine (eq_mirror W12 _ _ _ _ id l h b s g o_x12.out.sl o_u12.out.sl o_xp12.out.sl o_up12.out.sl (by omega) (by omega)).mono ?_
 rintro e W13 ⟨rfl, b13⟩
 refine hK.out _ _ ⟨(keepR (W := W12) hHeld.1 b13), (keepR (W := W12) hHeld.2.1 b13), (keepR (W := W12) hHeld.2.2.1 b13), (keepR (W := W12) hHeld.2.2.2.1 b13), (keepR (W := W12) hHeld.2.2.2.2.1 b13), (keepR (W := W12) hHeld.2.2.2.2.2.1 b13), (keepR (W := W12) hHeld.2.2.2.2.2.2.1 b13), (keepR (W := W12) hHeld.2.2.2.2.2.2.2.1 b13), (keepR (W := W12) hHeld.2.2.2.2.2.2.2.2.1 b13), (keepR (W := W12) hHeld.2.2.2.2.2.2.2.2.2.1 b13), (keepR (W := W12) hHeld.2.2.2.2.2.2.2.2.2.2.1 b13), (keepR (W := W12) hHeld.2.2.2.2.2.2.2.2.2.2.2.1 b13), (keepR (W := W12) hHeld.2.2.2.2.2.2.2.2.2.2.2.2.1 b13), (keepR (W := W12) hHeld.2.2.2.2.2.2.2.2.2.2.2.2.2.1 b13), (keepR (W := W12) hHeld.2.2.2.2.2.2.2.2.2.2.2.2.2.2.1 b13), (keepR (W := W12) hHeld.2.2.2.2.2.2.2.2.2.2.2.2.2.2.2 b13)⟩ (fun hHeld => ?_)
 clear hK K
 try simp only [Act.put, pu1, pu2, pu3, pu4, pu5, pu6]
 have z13 := b13.size
 have B13 := Ke.b B12 b13
 have r_a13 := Ke.r r_a12 b13
 have r_x013 := Ke.r r_x012 b13
 have o_x13 := Ke.o o_x12 b13
 have o_xp13 := Ke.o o_xp12 b13
 have o_u13 := Ke.o o_u12 b13
 have o_up13 := Ke.o o_up12 b13
 have c_a13 := Ke.c r_a13
 have c_x013 := Ke.c r_x013
 clear r_a12 c_a12 r_x012 c_x012 o_x12 o_xp12 o_u12 o_up12
 have f_w013 : Hid (Omx W13 W5.heap.size W6.heap.size v_w0 Q) := Omx.later f_w012.out b13
 have f_x113 : Hid (Oq W13 W8.heap.size W9.heap.size v_x1 t) := Oq.later f_x112.out b13
 have f_g013 : Hid (Omx W13 W9.heap.size W10.heap.size v_g0 Q) := Omx.later f_g012.out b13
 clear f_w012 f_x112 f_g012
 refine Ke.y 4 rfl (fun _ _ _ h => h) ?_
 try simp only [Act.put, pu1, pu2, pu3, pu4, pu5, pu6]
 refine wpAnyH_done (by kernel_rfl) ?_ _
 clear hHeld
 clear o_u13
 clear o_up13
 go_wp2_with fail
 refine (to_heads W13 _ t (HT.out.later B13.out) (by omega)).mono ?_
 rintro e W14 ⟨v_u1, rfl, o_u114, b14⟩
 have z14 := b14.size
 have B14 := Ke.b B13 b14
 have r_a14 := Ke.r r_a13 b14
 have r_x014 := Ke.r r_x013 b14
 have o_x14 := Ke.o o_x13 b14
 have o_xp14 := Ke.o o_xp13 b14
 have c_a14 := Ke.c r_a14
 have c_x014 := Ke.c r_x014
 clear r_a13 c_a13 r_x013 c_x013 o_x13 o_xp13
 have f_w014 : Hid (Omx W14 W5.heap.size W6.heap.size v_w0 Q) := Omx.later f_w013.out b14
 have f_x114 : Hid (Oq W14 W8.heap.size W9.heap.size v_x1 t) := Oq.later f_x113.out b14
 have f_g014 : Hid (Omx W14 W9.heap.size W10.heap.size v_g0 Q) := Omx.later f_g013.out b14
 clear f_w013 f_x113 f_g013
 have f_u114 : Hid (Oq W14 W13.heap.size W14.heap.size v_u1 t) := ⟨o_u114, Nat.le_refl _⟩
 clear o_u114
 go_wp2_with fail
 refine (eq_heads W14 v_x1 v_u1 t f_x114.out.1.sh f_u114.out.1.sh (by omega)).mono ?_
 rintro e W15 ⟨rfl, b15⟩
 have z15 := b15.size
 have B15 := Ke.b B14 b15
 have r_a15 := Ke.r r_a14 b15
 have r_x015 := Ke.r r_x014 b15
 have o_x15 := Ke.o o_x14 b15
 have o_xp15 := Ke.o o_xp14 b15
 have c_a15 := Ke.c r_a15
 have c_x015 := Ke.c r_x015
 clear r_a14 c_a14 r_x014 c_x014 o_x14 o_xp14
 have f_w015 : Hid (Omx W15 W5.heap.size W6.heap.size v_w0 Q) := Omx.later f_w014.out b15
 have f_x115 : Hid (Oq W15 W8.heap.size W9.heap.size v_x1 t) := Oq.later f_x114.out b15
 have f_g015 : Hid (Omx W15 W9.heap.size W10.heap.size v_g0 Q) := Omx.later f_g014.out b15
 have f_u115 : Hid (Oq W15 W13.heap.size W14.heap.size v_u1 t) := Oq.later f_u114.out b15
 clear f_w014 f_x114 f_g014 f_u114
 clear f_u115
 obtain ⟨K1, HK1⟩ : ∃ K1 : Nat, Hid (1 + l.length + b.length = K1) := ⟨_, rfl⟩
 have hK1 : 1 ≤ K1 ∧ K1 ≤ 4000000 := by have := HK1.out; omega
 have qm := mark_mirror W15 id h g _ _ s _ _ _ _ l b 1 o_x15.out o_xp15.out (by omega) (by omega) (by omega) (by omega) (by omega) (by omega) (by omega)
 rw [HK1.out] at qm
 go_wp2_with fail
 refine (qm).mono ?_
 rintro e W16 ⟨rfl, o_x16, o_xp16, p16⟩
 have o_x16 : Hid (Own W16 (lo_x) (hi_x) 9 (.slice ao_x L_x cap_x) (ss (Strs.mts 1 l.length))) := o_x16
 have o_xp16 : Hid (Own W16 (lo_xp) (hi_xp) 5 (.slice ao_xp L_xp cap_xp) (bs (marks (1 + l.length) b.length))) := o_xp16
 have z16 : W15.heap.size ≤ W16.heap.size := p16.size
 have B16 : Hid (Below w.heap.size w W16) := B15.out.trans (p16.below (by have := B15.out.size; omega) (by have := B15.out.size; omega) B15.out.size)
 have r_a16 : Hid (W16.heap[w.heap.size]? = some (.cells #[.int .i64 id, .slice ao0 l.length cap0, .int .i64 h.n, .string h.r, .slice ao1 b.length cap1, .int .i64 s, .int .i64 g.n, .string g.r] 31 (0, 0))) := (p16.block (w.heap.size) (by omega) (by omega) (by omega)).trans r_a15.out
 have r_x016 : Hid (W16.heap[W7.heap.size]? = some (.cells #[.int .i64 id, .slice ao_x L_x cap_x, .int .i64 h.n, .string h.r, .slice ao_xp L_xp cap_xp, .int .i64 s, .int .i64 g.n, .string g.r] 44 (0, 0))) := (p16.block (W7.heap.size) (by omega) (by omega) (by omega)).trans r_x015.out
 have f_w016 : Hid (Omx W16 W5.heap.size W6.heap.size v_w0 Q) := Omx.apart2 f_w015.out p16 (by omega) (by omega)
 have f_x116 : Hid (Oq W16 W8.heap.size W9.heap.size v_x1 t) := Oq.apart2 f_x115.out p16 (by omega) (by omega)
 have f_g016 : Hid (Omx W16 W9.heap.size W10.heap.size v_g0 Q) := Omx.apart2 f_g015.out p16 (by omega) (by omega)
 have c_a16 := Ke.c r_a16
 have c_x016 := Ke.c r_x016
 clear r_a15 c_a15 r_x015 c_x015 o_x15 o_xp15
 clear f_w015 f_x115 f_g015
 clear qm
 clear o_x16
 clear o_xp16
 clear r_x016 c_x016
 obtain ⟨K2, HK2⟩ : ∃ K2 : Nat, Hid (K1 + 2 * t.length = K2) := ⟨_, rfl⟩
 have hK2 : 1 ≤ K2 ∧ K2 ≤ 10000000 := by have := HK2.out; omega
 have qm := mark_heads W16 v_x1 (W8.heap.size) (W9.heap.size) t K1 f_x116.out.1 (by omega) (by omega) (by omega) (by omega)
 rw [HK2.out] at qm
 go_wp2_with fail
 refine (qm).mono ?_
 rintro e W17 ⟨rfl, m17, p17⟩
 have z17 : W16.heap.size ≤ W17.heap.size := p17.size
 have B17 : Hid (Below w.heap.size w W17) := B16.out.trans (p17.below (by have := B16.out.size; omega) B16.out.size)
 have r_a17 : Hid (W17.heap[w.heap.size]? = some (.cells #[.int .i64 id, .slice ao0 l.length cap0, .int .i64 h.n, .string h.r, .slice ao1 b.length cap1, .int .i64 s, .int .i64 g.n, .string g.r] 31 (0, 0))) := (p17.block (w.heap.size) (by omega) (by omega)).trans r_a16.out
 have f_w017 : Hid (Omx W17 W5.heap.size W6.heap.size v_w0 Q) := Omx.apart f_w016.out p17 (by omega)
 have f_g017 : Hid (Omx W17 W9.heap.size W10.heap.size v_g0 Q) := Omx.apart f_g016.out p17 (by omega)
 have c_a17 := Ke.c r_a17
 clear r_a16 c_a16
 clear f_w016 f_x116 f_g016 m17
 clear qm
 go_wp2_with fail
 refine (eq_msgs W17 _ _ _ _ _ _ Q f_g017.out.1 f_w017.out.1 (fun m hm => Nat.le_trans (HQL.out m hm) (by omega))).mono ?_
 rintro e W18 ⟨rfl, b18⟩
 have z18 := b18.size
 have B18 := Ke.b B17 b18
 have r_a18 := Ke.r r_a17 b18
 have c_a18 := Ke.c r_a18
 clear r_a17 c_a17
 have f_w018 : Hid (Omx W18 W5.heap.size W6.heap.size v_w0 Q) := Omx.later f_w017.out b18
 have f_g018 : Hid (Omx W18 W9.heap.size W10.heap.size v_g0 Q) := Omx.later f_g017.out b18
 clear f_w017 f_g017
 obtain ⟨K9, HK9⟩ : ∃ K : Int, Hid (((1 + cnq Q : Nat) : Int) = K) := ⟨_, rfl⟩
 have n1 : (K9 != K9) = false := by simp
 have n2 : (K9 == K9) = true := by simp
 have n3 : ¬ K9 < 0 := by have := HK9.out; omega
 have qm := mark_msgs W18 v_g0 (W9.heap.size) (W10.heap.size) Q 1 f_g018.out.1 (by omega) HQL.out (by omega) (by omega)
 rw [HK9.out] at qm
 go_wp2_with fail
 refine (qm).mono ?_
 rintro e W19 ⟨rfl, m19, p19⟩
 have z19 : W18.heap.size ≤ W19.heap.size := p19.size
 have B19 : Hid (Below w.heap.size w W19) := B18.out.trans (p19.below (by have := B18.out.size; omega) B18.out.size)
 have r_a19 : Hid (W19.heap[w.heap.size]? = some (.cells #[.int .i64 id, .slice ao0 l.length cap0, .int .i64 h.n, .string h.r, .slice ao1 b.length cap1, .int .i64 s, .int .i64 g.n, .string g.r] 31 (0, 0))) := (p19.block (w.heap.size) (by omega) (by omega)).trans r_a18.out
 have f_w019 : Hid (Omx W19 W5.heap.size W6.heap.size v_w0 Q) := Omx.apart f_w018.out p19 (by omega)
 have c_a19 := Ke.c r_a19
 clear r_a18 c_a18
 clear f_w018 f_g018
 have f_g019 : Hid (Omx W19 W9.heap.size W10.heap.size v_g0 (mkq 1 Q)) := ⟨m19, by omega⟩
 clear m19
 clear qm
 have qm := held_msgs W19 v_g0 (W9.heap.size) (W10.heap.size) Q 1 f_g019.out.1 HQL.out (by omega) (by omega)
 rw [HK9.out] at qm
 go_wp2_with fail
 refine (qm).mono ?_
 rintro e W20 ⟨rfl, b20⟩
 have z20 := b20.size
 have B20 := Ke.b B19 b20
 have r_a20 := Ke.r r_a19 b20
 have c_a20 := Ke.c r_a20
 clear r_a19 c_a19
 have f_w020 : Hid (Omx W20 W5.heap.size W6.heap.size v_w0 Q) := Omx.later f_w019.out b20
 have f_g020 : Hid (Omx W20 W9.heap.size W10.heap.size v_g0 (mkq 1 Q)) := Omx.later f_g019.out b20
 clear f_w019 f_g019
 clear qm
 go_wp2_with fail
 refine (to_mirror W20 _ _ id l h b s g (HS.out.later B20.out) (HSB.out.later B20.out) (by omega) (by omega)).mono ?_
 rintro e W21 ⟨v_y, v_yp, rfl, o_y21, o_yp21, b21⟩
 obtain ⟨lo_y, hi_y, lo_yp, hi_yp, d1_y, d2_y, d3_y, d4_y, d5_y, d6_y, d7_y, oo_y, oo_yp⟩ := Sr.pairN o_y21 o_yp21 b21.size
 clear o_y21 o_yp21
 obtain ⟨ao_y, L_y, cap_y, rfl, _, _⟩ := oo_y.form
 obtain ⟨ao_yp, L_yp, cap_yp, rfl, _, _⟩ := oo_yp.form
 have o_y21 : Hid (Own W21 lo_y hi_y 9 (.slice ao_y L_y cap_y) (ss l)) := oo_y
 have o_yp21 : Hid (Own W21 lo_yp hi_yp 5 (.slice ao_yp L_yp cap_yp) (bs b)) := oo_yp
 clear oo_y oo_yp
 have z21 := b21.size
 have B21 := Ke.b B20 b21
 have r_a21 := Ke.r r_a20 b21
 have c_a21 := Ke.c r_a21
 clear r_a20 c_a20
 have f_w021 : Hid (Omx W21 W5.heap.size W6.heap.size v_w0 Q) := Omx.later f_w020.out b21
 have f_g021 : Hid (Omx W21 W9.heap.size W10.heap.size v_g0 (mkq 1 Q)) := Omx.later f_g020.out b21
 clear f_w020 f_g020
 go_wp2_with fail
 refine (to_heads W21 _ t (HT.out.later B21.out) (by omega)).mono ?_
 rintro e W22 ⟨v_y1, rfl, o_y122, b22⟩
 have z22 := b22.size
 have B22 := Ke.b B21 b22
 have r_a22 := Ke.r r_a21 b22
 have o_y22 := Ke.o o_y21 b22
 have o_yp22 := Ke.o o_yp21 b22
 have c_a22 := Ke.c r_a22
 clear r_a21 c_a21 o_y21 o_yp21
 have f_w022 : Hid (Omx W22 W5.heap.size W6.heap.size v_w0 Q) := Omx.later f_w021.out b22
 have f_g022 : Hid (Omx W22 W9.heap.size W10.heap.size v_g0 (mkq 1 Q)) := Omx.later f_g021.out b22
 clear f_w021 f_g021
 have f_y122 : Hid (Oq W22 W21.heap.size W22.heap.size v_y1 t) := ⟨o_y122, Nat.le_refl _⟩
 clear o_y122
 go_wp2_with fail
 refine (q2 W22 _ _ _ B22.out o_y22.out.sl o_yp22.out.sl f_y122.out.1.sh).mono ?_
 rintro e W23 ⟨v_h0, rfl, o_h023, b23⟩
 have z23 := b23.size
 have B23 := Ke.b B22 b23
 have r_a23 := Ke.r r_a22 b23
 have o_y23 := Ke.o o_y22 b23
 have o_yp23 := Ke.o o_yp22 b23
 have c_a23 := Ke.c r_a23
 clear r_a22 c_a22 o_y22 o_yp22
 have f_w023 : Hid (Omx W23 W5.heap.size W6.heap.size v_w0 Q) := Omx.later f_w022.out b23
 have f_g023 : Hid (Omx W23 W9.heap.size W10.heap.size v_g0 (mkq 1 Q)) := Omx.later f_g022.out b23
 have f_y123 : Hid (Oq W23 W21.heap.size W22.heap.size v_y1 t) := Oq.later f_y122.out b23
 clear f_w022 f_g022 f_y122
 have f_h023 : Hid (Omx W23 W22.heap.size W23.heap.size v_h0 Q) := ⟨o_h023, Nat.le_refl _⟩
 clear o_h023
 clear o_y23
 clear o_yp23
 clear f_y123
 go_wp2_with fail
 refine (eq_msgs W23 _ _ _ _ _ _ Q f_h023.out.1 f_w023.out.1 (fun m hm => Nat.le_trans (HQL.out m hm) (by omega))).mono ?_
 rintro e W24 ⟨rfl, b24⟩
 have z24 := b24.size
 have B24 := Ke.b B23 b24
 have r_a24 := Ke.r r_a23 b24
 have c_a24 := Ke.c r_a24
 clear r_a23 c_a23
 have f_w024 : Hid (Omx W24 W5.heap.size W6.heap.size v_w0 Q) := Omx.later f_w023.out b24
 have f_g024 : Hid (Omx W24 W9.heap.size W10.heap.size v_g0 (mkq 1 Q)) := Omx.later f_g023.out b24
 have f_h024 : Hid (Omx W24 W22.heap.size W23.heap.size v_h0 Q) := Omx.later f_h023.out b24
 clear f_w023 f_g023 f_h023
 have qm := held_msgs W24 v_g0 (W9.heap.size) (W10.heap.size) Q 1 f_g024.out.1 HQL.out (by omega) (by omega)
 rw [HK9.out] at qm
 go_wp2_with fail
 refine (qm).mono ?_
 rintro e W25 ⟨rfl, b25⟩
 have z25 := b25.size
 have B25 := Ke.b B24 b25
 have r_a25 := Ke.r r_a24 b25
 have c_a25 := Ke.c r_a25
 clear r_a24 c_a24
 have f_w025 : Hid (Omx W25 W5.heap.size W6.heap.size v_w0 Q) := Omx.later f_w024.out b25
 have f_g025 : Hid (Omx W25 W9.heap.size W10.heap.size v_g0 (mkq 1 Q)) := Omx.later f_g024.out b25
 have f_h025 : Hid (Omx W25 W22.heap.size W23.heap.size v_h0 Q) := Omx.later f_h024.out b25
 clear f_w024 f_g024 f_h024
 clear qm
 go_wp2
 go_ret
 exact ⟨rfl, B25.out⟩
set_option maxRecDepth 1000000 in
set_option maxHeartbeats 16000000 in
theorem exact_askfor (w : World) (v vb vt : Value) (id : Int) (l : List ByteArray) (h : Hd) (b : List Int) (s : Int) (g : Hd) (t : List Hd) (hs : Sl w v (ss l)) (hb : Sl w vb (bs b)) (hby : Byt b) (hz : ∀ s ∈ l, s.size ≤ maxLen) (hm : l.length ≤ maxLen) (hmb : b.length ≤ maxLen) (hh : h.r.size ≤ maxLen) (hgm : g.r.size ≤ maxLen) (hst : Sh w vt t) (y0 : ∀ n ∈ t, n.r.size ≤ maxLen) (m0 : t.length ≤ maxLen) (hG : Glob w) (hN : NoC w) (to : Int) :
  Calls Tryz.prog 5 #[.agg #[.int .i64 id, v, .int .i64 h.n, .string h.r, vb, .int .i64 s, .int .i64 g.n, .string g.r], vt, .int .i64 to] w fun e w' => e = .returned (.bool true) ∧ Below w.heap.size w w' := by
 have HS : Hid (Sl w v (ss l)) := hs
 have HSB : Hid (Sl w vb (bs b)) := hb
 have HBY : Hid (Byt b) := hby
 have HT : Hid (Sh w vt t) := hst
 have HG : Hid (Glob w) := hG
 have HNC : Hid (NoC w) := hN
 unfold maxLen at *
 obtain ⟨ao0, cap0, rfl, hc0⟩ := hs.form
 obtain ⟨ao1, cap1, rfl, hc1⟩ := hb.form
 obtain ⟨ao2, cap2, rfl, hc2⟩ := hst.form
 simp only [ss_len, bs_len] at *
 clear hs hb hby hst hG hN
 have B0 : Hid (Below w.heap.size w w) := Below.refl _ _
 obtain ⟨W1, HW1, b1, y1, hS1, r_a1⟩ := Ke.l1 w #[.int .i64 id, .slice ao0 l.length cap0, .int .i64 h.n, .string h.r, .slice ao1 b.length cap1, .int .i64 s, .int .i64 g.n, .string g.r] 31
 have z1 := b1.size
 have B1 := Ke.b B0 b1
 have c_a1 := Ke.c r_a1
 go_enter Tryz.func5, Tryz.ntmps5
 go_wp2_with fail
 rw [HW1.out]
 refine (sz_mirror W1 _ _ id l h b s g (HS.out.later B1.out) (HSB.out.later B1.out) (fun s h => by have := hz s h; omega) (by omega) (by omega) (by omega) (by omega)).mono ?_
 rintro e W2 ⟨⟨r0, rfl, hr0⟩, b2⟩
 have z2 := b2.size
 have B2 := Ke.b B1 b2
 have r_a2 := Ke.r r_a1 b2
 have c_a2 := Ke.c r_a2
 clear r_a1 c_a1
 by_cases hr : r0 < 0
 ·
  go_wp2
  go_ret
  exact ⟨rfl, B2.out⟩
 have hr1 : l.length + Puts.tot l ≤ 1048576 ∧ h.r.size ≤ 1048576 ∧ b.length ≤ 1048576 ∧ g.r.size ≤ 1048576 ∧ 0 ≤ r0 ∧ r0 ≤ 1048576 := by rcases hr0 with h0 | h0; exact absurd h0 hr; exact h0
 obtain ⟨hr1, hzh, hbl, hzg, hr2, hr3⟩ := hr1
 have hl : l.length ≤ 1048576 := by omega
 have HZ : Hid (∀ s ∈ l, s.size ≤ 10000000000) := fun s h => Nat.le_trans (tot_mem14 l s h) (by omega)
 clear hz hr0 hm hmb hh hgm
 obtain ⟨n0, rfl⟩ : ∃ n0 : Nat, r0 = (n0 : Int) := ⟨r0.toNat, by omega⟩
 go_wp2_with fail
 refine (sz_heads W2 _ t n0 (HT.out.later B2.out) (fun n hn => y0 n hn) m0 (by omega)).mono ?_
 rintro e W3 ⟨⟨q0, rfl, hq1, hq0⟩, b3⟩
 have z3 := b3.size
 have B3 := Ke.b B2 b3
 have r_a3 := Ke.r r_a2 b3
 have c_a3 := Ke.c r_a3
 clear r_a2 c_a2
 by_cases hqn : q0 < 0
 ·
  go_wp2
  go_ret
  exact ⟨rfl, B3.out⟩
 have hfit : 0 ≤ q0 ∧ t.length ≤ 1048576 := by rcases hq0 with h | ⟨h1, h2, h3⟩; exact absurd h hqn; exact ⟨h1, by omega⟩
 obtain ⟨hq2, htl⟩ := hfit
 clear hq0 y0 m0
 have q1 : ∀ W v1 v2 v3, Sl W v1 (ss l) → Sl W v2 (bs b) → Sh W v3 t → _ := fun W v1 v2 v3 h1 h2 h3 => askfor_spec W v1 v2 v3 ⟨id, ⟨l, h, b, s⟩, g⟩ t to h1 h2 HBY.out h3 (by simp only; omega) (by simp only; omega) (by omega) HZ.out
 have q2 : ∀ W v1 v2 v3, Below w.heap.size w W → Sl W v1 (ss l) → Sl W v2 (bs b) → Sh W v3 t → _ := fun W v1 v2 v3 hB h1 h2 h3 => askfor_impl W v1 v2 v3 ⟨id, ⟨l, h, b, s⟩, g⟩ t to (HG.out.later hB) (NoC.later HNC.out hB) (by simp only; omega) h1 h2 HBY.out h3 (by simp only; omega) (by simp only; omega) (by omega) HZ.out
 have HQL : Hid (∀ m ∈ askFor ⟨id, ⟨l, h, b, s⟩, g⟩ t to, m.x.length ≤ 1000000000) := askFor_len ⟨id, ⟨l, h, b, s⟩, g⟩ t to
 obtain ⟨Q, hM⟩ : ∃ Q, askFor ⟨id, ⟨l, h, b, s⟩, g⟩ t to = Q := ⟨_, rfl⟩
 simp only [hM] at q1 q2
 rw [hM] at HQL
 clear hM
 go_wp2_with fail
 refine (to_mirror W3 _ _ id l h b s g (HS.out.later B3.out) (HSB.out.later B3.out) (by omega) (by omega)).mono ?_
 rintro e W4 ⟨v_t, v_tp, rfl, o_t4, o_tp4, b4⟩
 obtain ⟨lo_t, hi_t, lo_tp, hi_tp, d1_t, d2_t, d3_t, d4_t, d5_t, d6_t, d7_t, oo_t, oo_tp⟩ := Sr.pairN o_t4 o_tp4 b4.size
 clear o_t4 o_tp4
 obtain ⟨ao_t, L_t, cap_t, rfl, _, _⟩ := oo_t.form
 obtain ⟨ao_tp, L_tp, cap_tp, rfl, _, _⟩ := oo_tp.form
 have o_t4 : Hid (Own W4 lo_t hi_t 9 (.slice ao_t L_t cap_t) (ss l)) := oo_t
 have o_tp4 : Hid (Own W4 lo_tp hi_tp 5 (.slice ao_tp L_tp cap_tp) (bs b)) := oo_tp
 clear oo_t oo_tp
 have z4 := b4.size
 have B4 := Ke.b B3 b4
 have r_a4 := Ke.r r_a3 b4
 have c_a4 := Ke.c r_a4
 clear r_a3 c_a3
 go_wp2_with fail
 refine (to_heads W4 _ t (HT.out.later B4.out) (by omega)).mono ?_
 rintro e W5 ⟨v_t1, rfl, o_t15, b5⟩
 have z5 := b5.size
 have B5 := Ke.b B4 b5
 have r_a5 := Ke.r r_a4 b5
 have o_t5 := Ke.o o_t4 b5
 have o_tp5 := Ke.o o_tp4 b5
 have c_a5 := Ke.c r_a5
 clear r_a4 c_a4 o_t4 o_tp4
 have f_t15 : Hid (Oq W5 W4.heap.size W5.heap.size v_t1 t) := ⟨o_t15, Nat.le_refl _⟩
 clear o_t15
 go_wp2_with fail
 refine (q1 W5 _ _ _ o_t5.out.sl o_tp5.out.sl f_t15.out.1.sh).mono ?_
 rintro e W6 ⟨v_w0, rfl, o_w06, b6⟩
 have z6 := b6.size
 have B6 := Ke.b B5 b6
 have r_a6 := Ke.r r_a5 b6
 have o_t6 := Ke.o o_t5 b6
 have o_tp6 := Ke.o o_tp5 b6
 have c_a6 := Ke.c r_a6
 clear r_a5 c_a5 o_t5 o_tp5
 have f_t16 : Hid (Oq W6 W4.heap.size W5.heap.size v_t1 t) := Oq.later f_t15.out b6
 clear f_t15
 have f_w06 : Hid (Omx W6 W5.heap.size W6.heap.size v_w0 Q) := ⟨o_w06, Nat.le_refl _⟩
 clear o_w06
 clear o_t6
 clear o_tp6
 clear f_t16
 go_wp2_with fail
 refine (to_mirror W6 _ _ id l h b s g (HS.out.later B6.out) (HSB.out.later B6.out) (by omega) (by omega)).mono ?_
 rintro e W7 ⟨v_x, v_xp, rfl, o_x7, o_xp7, b7⟩
 obtain ⟨lo_x, hi_x, lo_xp, hi_xp, d1_x, d2_x, d3_x, d4_x, d5_x, d6_x, d7_x, oo_x, oo_xp⟩ := Sr.pairN o_x7 o_xp7 b7.size
 clear o_x7 o_xp7
 obtain ⟨ao_x, L_x, cap_x, rfl, _, _⟩ := oo_x.form
 obtain ⟨ao_xp, L_xp, cap_xp, rfl, _, _⟩ := oo_xp.form
 have o_x7 : Hid (Own W7 lo_x hi_x 9 (.slice ao_x L_x cap_x) (ss l)) := oo_x
 have o_xp7 : Hid (Own W7 lo_xp hi_xp 5 (.slice ao_xp L_xp cap_xp) (bs b)) := oo_xp
 clear oo_x oo_xp
 have z7 := b7.size
 have B7 := Ke.b B6 b7
 have r_a7 := Ke.r r_a6 b7
 have c_a7 := Ke.c r_a7
 clear r_a6 c_a6
 have f_w07 : Hid (Omx W7 W5.heap.size W6.heap.size v_w0 Q) := Omx.later f_w06.out b7
 clear f_w06
 have a_a7 := Ke.a r_a7
 obtain ⟨W8, HW8, b8, y8, hS8, r_x08⟩ := Ke.l1 W7 #[.int .i64 id, .slice ao_x L_x cap_x, .int .i64 h.n, .string h.r, .slice ao_xp L_xp cap_xp, .int .i64 s, .int .i64 g.n, .string g.r] 44
 have z8 := b8.size
 have B8 := Ke.b B7 b8
 have r_a8 := Ke.r r_a7 b8
 have o_x8 := Ke.o o_x7 b8
 have o_xp8 := Ke.o o_xp7 b8
 have c_a8 := Ke.c r_a8
 have c_x08 := Ke.c r_x08
 clear r_a7 c_a7 o_x7 o_xp7
 have f_w08 : Hid (Omx W8 W5.heap.size W6.heap.size v_w0 Q) := Omx.later f_w07.out b8
 clear f_w07
 go_wp2_with fail
 rw [HW8.out]
 clear a_a7
 refine (to_heads W8 _ t (HT.out.later B8.out) (by omega)).mono ?_
 rintro e W9 ⟨v_x1, rfl, o_x19, b9⟩
 have z9 := b9.size
 have B9 := Ke.b B8 b9
 have r_a9 := Ke.r r_a8 b9
 have r_x09 := Ke.r r_x08 b9
 have o_x9 := Ke.o o_x8 b9
 have o_xp9 := Ke.o o_xp8 b9
 have c_a9 := Ke.c r_a9
 have c_x09 := Ke.c r_x09
 clear r_a8 c_a8 r_x08 c_x08 o_x8 o_xp8
 have f_w09 : Hid (Omx W9 W5.heap.size W6.heap.size v_w0 Q) := Omx.later f_w08.out b9
 clear f_w08
 have f_x19 : Hid (Oq W9 W8.heap.size W9.heap.size v_x1 t) := ⟨o_x19, Nat.le_refl _⟩
 clear o_x19
 go_wp2_with fail
 refine (q2 W9 _ _ _ B9.out o_x9.out.sl o_xp9.out.sl f_x19.out.1.sh).mono ?_
 rintro e W10 ⟨v_g0, rfl, o_g010, b10⟩
 have z10 := b10.size
 have B10 := Ke.b B9 b10
 have r_a10 := Ke.r r_a9 b10
 have r_x010 := Ke.r r_x09 b10
 have o_x10 := Ke.o o_x9 b10
 have o_xp10 := Ke.o o_xp9 b10
 have c_a10 := Ke.c r_a10
 have c_x010 := Ke.c r_x010
 clear r_a9 c_a9 r_x09 c_x09 o_x9 o_xp9
 have f_w010 : Hid (Omx W10 W5.heap.size W6.heap.size v_w0 Q) := Omx.later f_w09.out b10
 have f_x110 : Hid (Oq W10 W8.heap.size W9.heap.size v_x1 t) := Oq.later f_x19.out b10
 clear f_w09 f_x19
 have f_g010 : Hid (Omx W10 W9.heap.size W10.heap.size v_g0 Q) := ⟨o_g010, Nat.le_refl _⟩
 clear o_g010
 go_wp2_with fail
 refine (eq_msgs W10 _ _ _ _ _ _ Q f_g010.out.1 f_w010.out.1 (fun m hm => Nat.le_trans (HQL.out m hm) (by omega))).mono ?_
 rintro e W11 ⟨rfl, b11⟩
 have z11 := b11.size
 have B11 := Ke.b B10 b11
 have r_a11 := Ke.r r_a10 b11
 have r_x011 := Ke.r r_x010 b11
 have o_x11 := Ke.o o_x10 b11
 have o_xp11 := Ke.o o_xp10 b11
 have c_a11 := Ke.c r_a11
 have c_x011 := Ke.c r_x011
 clear r_a10 c_a10 r_x010 c_x010 o_x10 o_xp10
 have f_w011 : Hid (Omx W11 W5.heap.size W6.heap.size v_w0 Q) := Omx.later f_w010.out b11
 have f_x111 : Hid (Oq W11 W8.heap.size W9.heap.size v_x1 t) := Oq.later f_x110.out b11
 have f_g011 : Hid (Omx W11 W9.heap.size W10.heap.size v_g0 Q) := Omx.later f_g010.out b11
 clear f_w010 f_x110 f_g010
 go_wp2_with fail
 refine wp_region_held_drew (S := fun w' => w'.cell? ⟨W7.heap.size, 0, none⟩ = some (.int .i64 id) ∧ w'.cell? ⟨W7.heap.size, 1, none⟩ = some (.slice ao_x L_x cap_x) ∧ w'.cell? ⟨W7.heap.size, 2, none⟩ = some (.int .i64 h.n) ∧ w'.cell? ⟨W7.heap.size, 3, none⟩ = some (.string h.r) ∧ w'.cell? ⟨W7.heap.size, 4, none⟩ = some (.slice ao_xp L_xp cap_xp) ∧ w'.cell? ⟨W7.heap.size, 5, none⟩ = some (.int .i64 s) ∧ w'.cell? ⟨W7.heap.size, 6, none⟩ = some (.int .i64 g.n) ∧ w'.cell? ⟨W7.heap.size, 7, none⟩ = some (.string g.r) ∧ w'.cell? ⟨w.heap.size, 0, none⟩ = some (.int .i64 id) ∧ w'.cell? ⟨w.heap.size, 1, none⟩ = some (.slice ao0 l.length cap0) ∧ w'.cell? ⟨w.heap.size, 2, none⟩ = some (.int .i64 h.n) ∧ w'.cell? ⟨w.heap.size, 3, none⟩ = some (.string h.r) ∧ w'.cell? ⟨w.heap.size, 4, none⟩ = some (.slice ao1 b.length cap1) ∧ w'.cell? ⟨w.heap.size, 5, none⟩ = some (.int .i64 s) ∧ w'.cell? ⟨w.heap.size, 6, none⟩ = some (.int .i64 g.n) ∧ w'.cell? ⟨w.heap.size, 7, none⟩ = some (.string g.r)) (by kernel_rfl) ⟨(c_x011 0), (c_x011 1), (c_x011 2), (c_x011 3), (c_x011 4), (c_x011 5), (c_x011 6), (c_x011 7), (c_a11 0), (c_a11 1), (c_a11 2), (c_a11 3), (c_a11 4), (c_a11 5), (c_a11 6), (c_a11 7)⟩ (fun hHeld => ?_)
 refine Ke.y 0 rfl (fun _ _ _ h => h) ?_
 try simp only [Act.put, pu1, pu2, pu3, pu4, pu5, pu6]
 refine Ke.y 1 rfl (fun _ _ _ h => h) ?_
 try simp only [Act.put, pu1, pu2, pu3, pu4, pu5, pu6]
 refine Ke.z 2 rfl (fun K hK => ?_)
 go_simp
 refine (to_mirror W11.drew _ _ id l h b s g (Sl.later (w := W11) (HS.out.later B11.out) (Below.drew (Below.refl _ _))) (Sl.later (w := W11) (HSB.out.later B11.out) (Below.drew (Below.refl _ _))) (by omega) (by omega)).mono ?_
 rintro e W12 ⟨v_u, v_up, rfl, o_u12, o_up12, b12⟩
 have b12 : Below W11.heap.size W11 W12 := (Below.drew (Below.refl _ _)).trans b12
 have o_u12 : Own W12 W11.heap.size W12.heap.size 9 _ _ := o_u12
 have o_up12 : Own W12 W11.heap.size W12.heap.size 5 _ _ := o_up12
 refine hK.out _ _ ⟨(keepR (W := W11) hHeld.1 b12), (keepR (W := W11) hHeld.2.1 b12), (keepR (W := W11) hHeld.2.2.1 b12), (keepR (W := W11) hHeld.2.2.2.1 b12), (keepR (W := W11) hHeld.2.2.2.2.1 b12), (keepR (W := W11) hHeld.2.2.2.2.2.1 b12), (keepR (W := W11) hHeld.2.2.2.2.2.2.1 b12), (keepR (W := W11) hHeld.2.2.2.2.2.2.2.1 b12), (keepR (W := W11) hHeld.2.2.2.2.2.2.2.2.1 b12), (keepR (W := W11) hHeld.2.2.2.2.2.2.2.2.2.1 b12), (keepR (W := W11) hHeld.2.2.2.2.2.2.2.2.2.2.1 b12), (keepR (W := W11) hHeld.2.2.2.2.2.2.2.2.2.2.2.1 b12), (keepR (W := W11) hHeld.2.2.2.2.2.2.2.2.2.2.2.2.1 b12), (keepR (W := W11) hHeld.2.2.2.2.2.2.2.2.2.2.2.2.2.1 b12), (keepR (W := W11) hHeld.2.2.2.2.2.2.2.2.2.2.2.2.2.2.1 b12), (keepR (W := W11) hHeld.2.2.2.2.2.2.2.2.2.2.2.2.2.2.2 b12)⟩ (fun hHeld => ?_)
 clear hK K
 try simp only [Act.put, pu1, pu2, pu3, pu4, pu5, pu6]
 obtain ⟨lo_u, hi_u, lo_up, hi_up, d1_u, d2_u, d3_u, d4_u, d5_u, d6_u, d7_u, oo_u, oo_up⟩ := Sr.pairN o_u12 o_up12 b12.size
 clear o_u12 o_up12
 obtain ⟨ao_u, L_u, cap_u, rfl, _, _⟩ := oo_u.form
 obtain ⟨ao_up, L_up, cap_up, rfl, _, _⟩ := oo_up.form
 have o_u12 : Hid (Own W12 lo_u hi_u 9 (.slice ao_u L_u cap_u) (ss l)) := oo_u
 have o_up12 : Hid (Own W12 lo_up hi_up 5 (.slice ao_up L_up cap_up) (bs b)) := oo_up
 clear oo_u oo_up
 have z12 := b12.size
 have B12 := Ke.b B11 b12
 have r_a12 := Ke.r r_a11 b12
 have r_x012 := Ke.r r_x011 b12
 have o_x12 := Ke.o o_x11 b12
 have o_xp12 := Ke.o o_xp11 b12
 have c_a12 := Ke.c r_a12
 have c_x012 := Ke.c r_x012
 clear r_a11 c_a11 r_x011 c_x011 o_x11 o_xp11
 have f_w012 : Hid (Omx W12 W5.heap.size W6.heap.size v_w0 Q) := Omx.later f_w011.out b12
 have f_x112 : Hid (Oq W12 W8.heap.size W9.heap.size v_x1 t) := Oq.later f_x111.out b12
 have f_g012 : Hid (Omx W12 W9.heap.size W10.heap.size v_g0 Q) := Omx.later f_g011.out b12
 clear f_w011 f_x111 f_g011
 refine Ke.z 3 rfl (fun K hK => ?_)
 go_simp
 refine (eq_mirror W12 _ _ _ _ id l h b s g o_x12.out.sl o_u12.out.sl o_xp12.out.sl o_up12.out.sl (by omega) (by omega)).mono ?_
 rintro e W13 ⟨rfl, b13⟩
 refine hK.out _ _ ⟨(keepR (W := W12) hHeld.1 b13), (keepR (W := W12) hHeld.2.1 b13), (keepR (W := W12) hHeld.2.2.1 b13), (keepR (W := W12) hHeld.2.2.2.1 b13), (keepR (W := W12) hHeld.2.2.2.2.1 b13), (keepR (W := W12) hHeld.2.2.2.2.2.1 b13), (keepR (W := W12) hHeld.2.2.2.2.2.2.1 b13), (keepR (W := W12) hHeld.2.2.2.2.2.2.2.1 b13), (keepR (W := W12) hHeld.2.2.2.2.2.2.2.2.1 b13), (keepR (W := W12) hHeld.2.2.2.2.2.2.2.2.2.1 b13), (keepR (W := W12) hHeld.2.2.2.2.2.2.2.2.2.2.1 b13), (keepR (W := W12) hHeld.2.2.2.2.2.2.2.2.2.2.2.1 b13), (keepR (W := W12) hHeld.2.2.2.2.2.2.2.2.2.2.2.2.1 b13), (keepR (W := W12) hHeld.2.2.2.2.2.2.2.2.2.2.2.2.2.1 b13), (keepR (W := W12) hHeld.2.2.2.2.2.2.2.2.2.2.2.2.2.2.1 b13), (keepR (W := W12) hHeld.2.2.2.2.2.2.2.2.2.2.2.2.2.2.2 b13)⟩ (fun hHeld => ?_)
 clear hK K
 try simp only [Act.put, pu1, pu2, pu3, pu4, pu5, pu6]
 have z13 := b13.size
 have B13 := Ke.b B12 b13
 have r_a13 := Ke.r r_a12 b13
 have r_x013 := Ke.r r_x012 b13
 have o_x13 := Ke.o o_x12 b13
 have o_xp13 := Ke.o o_xp12 b13
 have o_u13 := Ke.o o_u12 b13
 have o_up13 := Ke.o o_up12 b13
 have c_a13 := Ke.c r_a13
 have c_x013 := Ke.c r_x013
 clear r_a12 c_a12 r_x012 c_x012 o_x12 o_xp12 o_u12 o_up12
 have f_w013 : Hid (Omx W13 W5.heap.size W6.heap.size v_w0 Q) := Omx.later f_w012.out b13
 have f_x113 : Hid (Oq W13 W8.heap.size W9.heap.size v_x1 t) := Oq.later f_x112.out b13
 have f_g013 : Hid (Omx W13 W9.heap.size W10.heap.size v_g0 Q) := Omx.later f_g012.out b13
 clear f_w012 f_x112 f_g012
 refine Ke.y 4 rfl (fun _ _ _ h => h) ?_
 try simp only [Act.put, pu1, pu2, pu3, pu4, pu5, pu6]
 refine wpAnyH_done (by kernel_rfl) ?_ _
 clear hHeld
 clear o_u13
 clear o_up13
 go_wp2_with fail
 refine (to_heads W13 _ t (HT.out.later B13.out) (by omega)).mono ?_
 rintro e W14 ⟨v_u1, rfl, o_u114, b14⟩
 have z14 := b14.size
 have B14 := Ke.b B13 b14
 have r_a14 := Ke.r r_a13 b14
 have r_x014 := Ke.r r_x013 b14
 have o_x14 := Ke.o o_x13 b14
 have o_xp14 := Ke.o o_xp13 b14
 have c_a14 := Ke.c r_a14
 have c_x014 := Ke.c r_x014
 clear r_a13 c_a13 r_x013 c_x013 o_x13 o_xp13
 have f_w014 : Hid (Omx W14 W5.heap.size W6.heap.size v_w0 Q) := Omx.later f_w013.out b14
 have f_x114 : Hid (Oq W14 W8.heap.size W9.heap.size v_x1 t) := Oq.later f_x113.out b14
 have f_g014 : Hid (Omx W14 W9.heap.size W10.heap.size v_g0 Q) := Omx.later f_g013.out b14
 clear f_w013 f_x113 f_g013
 have f_u114 : Hid (Oq W14 W13.heap.size W14.heap.size v_u1 t) := ⟨o_u114, Nat.le_refl _⟩
 clear o_u114
 go_wp2_with fail
 refine (eq_heads W14 v_x1 v_u1 t f_x114.out.1.sh f_u114.out.1.sh (by omega)).mono ?_
 rintro e W15 ⟨rfl, b15⟩
 have z15 := b15.size
 have B15 := Ke.b B14 b15
 have r_a15 := Ke.r r_a14 b15
 have r_x015 := Ke.r r_x014 b15
 have o_x15 := Ke.o o_x14 b15
 have o_xp15 := Ke.o o_xp14 b15
 have c_a15 := Ke.c r_a15
 have c_x015 := Ke.c r_x015
 clear r_a14 c_a14 r_x014 c_x014 o_x14 o_xp14
 have f_w015 : Hid (Omx W15 W5.heap.size W6.heap.size v_w0 Q) := Omx.later f_w014.out b15
 have f_x115 : Hid (Oq W15 W8.heap.size W9.heap.size v_x1 t) := Oq.later f_x114.out b15
 have f_g015 : Hid (Omx W15 W9.heap.size W10.heap.size v_g0 Q) := Omx.later f_g014.out b15
 have f_u115 : Hid (Oq W15 W13.heap.size W14.heap.size v_u1 t) := Oq.later f_u114.out b15
 clear f_w014 f_x114 f_g014 f_u114
 clear f_u115
 obtain ⟨K1, HK1⟩ : ∃ K1 : Nat, Hid (1 + l.length + b.length = K1) := ⟨_, rfl⟩
 have hK1 : 1 ≤ K1 ∧ K1 ≤ 4000000 := by have := HK1.out; omega
 have qm := mark_mirror W15 id h g _ _ s _ _ _ _ l b 1 o_x15.out o_xp15.out (by omega) (by omega) (by omega) (by omega) (by omega) (by omega) (by omega)
 rw [HK1.out] at qm
 go_wp2_with fail
 refine (qm).mono ?_
 rintro e W16 ⟨rfl, o_x16, o_xp16, p16⟩
 have o_x16 : Hid (Own W16 (lo_x) (hi_x) 9 (.slice ao_x L_x cap_x) (ss (Strs.mts 1 l.length))) := o_x16
 have o_xp16 : Hid (Own W16 (lo_xp) (hi_xp) 5 (.slice ao_xp L_xp cap_xp) (bs (marks (1 + l.length) b.length))) := o_xp16
 have z16 : W15.heap.size ≤ W16.heap.size := p16.size
 have B16 : Hid (Below w.heap.size w W16) := B15.out.trans (p16.below (by have := B15.out.size; omega) (by have := B15.out.size; omega) B15.out.size)
 have r_a16 : Hid (W16.heap[w.heap.size]? = some (.cells #[.int .i64 id, .slice ao0 l.length cap0, .int .i64 h.n, .string h.r, .slice ao1 b.length cap1, .int .i64 s, .int .i64 g.n, .string g.r] 31 (0, 0))) := (p16.block (w.heap.size) (by omega) (by omega) (by omega)).trans r_a15.out
 have r_x016 : Hid (W16.heap[W7.heap.size]? = some (.cells #[.int .i64 id, .slice ao_x L_x cap_x, .int .i64 h.n, .string h.r, .slice ao_xp L_xp cap_xp, .int .i64 s, .int .i64 g.n, .string g.r] 44 (0, 0))) := (p16.block (W7.heap.size) (by omega) (by omega) (by omega)).trans r_x015.out
 have f_w016 : Hid (Omx W16 W5.heap.size W6.heap.size v_w0 Q) := Omx.apart2 f_w015.out p16 (by omega) (by omega)
 have f_x116 : Hid (Oq W16 W8.heap.size W9.heap.size v_x1 t) := Oq.apart2 f_x115.out p16 (by omega) (by omega)
 have f_g016 : Hid (Omx W16 W9.heap.size W10.heap.size v_g0 Q) := Omx.apart2 f_g015.out p16 (by omega) (by omega)
 have c_a16 := Ke.c r_a16
 have c_x016 := Ke.c r_x016
 clear r_a15 c_a15 r_x015 c_x015 o_x15 o_xp15
 clear f_w015 f_x115 f_g015
 clear qm
 clear o_x16
 clear o_xp16
 clear r_x016 c_x016
 obtain ⟨K2, HK2⟩ : ∃ K2 : Nat, Hid (K1 + 2 * t.length = K2) := ⟨_, rfl⟩
 have hK2 : 1 ≤ K2 ∧ K2 ≤ 10000000 := by have := HK2.out; omega
 have qm := mark_heads W16 v_x1 (W8.heap.size) (W9.heap.size) t K1 f_x116.out.1 (by omega) (by omega) (by omega) (by omega)
 rw [HK2.out] at qm
 go_wp2_with fail
 refine (qm).mono ?_
 rintro e W17 ⟨rfl, m17, p17⟩
 have z17 : W16.heap.size ≤ W17.heap.size := p17.size
 have B17 : Hid (Below w.heap.size w W17) := B16.out.trans (p17.below (by have := B16.out.size; omega) B16.out.size)
 have r_a17 : Hid (W17.heap[w.heap.size]? = some (.cells #[.int .i64 id, .slice ao0 l.length cap0, .int .i64 h.n, .string h.r, .slice ao1 b.length cap1, .int .i64 s, .int .i64 g.n, .string g.r] 31 (0, 0))) := (p17.block (w.heap.size) (by omega) (by omega)).trans r_a16.out
 have f_w017 : Hid (Omx W17 W5.heap.size W6.heap.size v_w0 Q) := Omx.apart f_w016.out p17 (by omega)
 have f_g017 : Hid (Omx W17 W9.heap.size W10.heap.size v_g0 Q) := Omx.apart f_g016.out p17 (by omega)
 have c_a17 := Ke.c r_a17
 clear r_a16 c_a16
 clear f_w016 f_x116 f_g016 m17
 clear qm
 go_wp2_with fail
 refine (eq_msgs W17 _ _ _ _ _ _ Q f_g017.out.1 f_w017.out.1 (fun m hm => Nat.le_trans (HQL.out m hm) (by omega))).mono ?_
 rintro e W18 ⟨rfl, b18⟩
 have z18 := b18.size
 have B18 := Ke.b B17 b18
 have r_a18 := Ke.r r_a17 b18
 have c_a18 := Ke.c r_a18
 clear r_a17 c_a17
 have f_w018 : Hid (Omx W18 W5.heap.size W6.heap.size v_w0 Q) := Omx.later f_w017.out b18
 have f_g018 : Hid (Omx W18 W9.heap.size W10.heap.size v_g0 Q) := Omx.later f_g017.out b18
 clear f_w017 f_g017
 obtain ⟨K9, HK9⟩ : ∃ K : Int, Hid (((1 + cnq Q : Nat) : Int) = K) := ⟨_, rfl⟩
 have n1 : (K9 != K9) = false := by simp
 have n2 : (K9 == K9) = true := by simp
 have n3 : ¬ K9 < 0 := by have := HK9.out; omega
 have qm := mark_msgs W18 v_g0 (W9.heap.size) (W10.heap.size) Q 1 f_g018.out.1 (by omega) HQL.out (by omega) (by omega)
 rw [HK9.out] at qm
 go_wp2_with fail
 refine (qm).mono ?_
 rintro e W19 ⟨rfl, m19, p19⟩
 have z19 : W18.heap.size ≤ W19.heap.size := p19.size
 have B19 : Hid (Below w.heap.size w W19) := B18.out.trans (p19.below (by have := B18.out.size; omega) B18.out.size)
 have r_a19 : Hid (W19.heap[w.heap.size]? = some (.cells #[.int .i64 id, .slice ao0 l.length cap0, .int .i64 h.n, .string h.r, .slice ao1 b.length cap1, .int .i64 s, .int .i64 g.n, .string g.r] 31 (0, 0))) := (p19.block (w.heap.size) (by omega) (by omega)).trans r_a18.out
 have f_w019 : Hid (Omx W19 W5.heap.size W6.heap.size v_w0 Q) := Omx.apart f_w018.out p19 (by omega)
 have c_a19 := Ke.c r_a19
 clear r_a18 c_a18
 clear f_w018 f_g018
 have f_g019 : Hid (Omx W19 W9.heap.size W10.heap.size v_g0 (mkq 1 Q)) := ⟨m19, by omega⟩
 clear m19
 clear qm
 have qm := held_msgs W19 v_g0 (W9.heap.size) (W10.heap.size) Q 1 f_g019.out.1 HQL.out (by omega) (by omega)
 rw [HK9.out] at qm
 go_wp2_with fail
 refine (qm).mono ?_
 rintro e W20 ⟨rfl, b20⟩
 have z20 := b20.size
 have B20 := Ke.b B19 b20
 have r_a20 := Ke.r r_a19 b20
 have c_a20 := Ke.c r_a20
 clear r_a19 c_a19
 have f_w020 : Hid (Omx W20 W5.heap.size W6.heap.size v_w0 Q) := Omx.later f_w019.out b20
 have f_g020 : Hid (Omx W20 W9.heap.size W10.heap.size v_g0 (mkq 1 Q)) := Omx.later f_g019.out b20
 clear f_w019 f_g019
 clear qm
 go_wp2_with fail
 refine (to_mirror W20 _ _ id l h b s g (HS.out.later B20.out) (HSB.out.later B20.out) (by omega) (by omega)).mono ?_
 rintro e W21 ⟨v_y, v_yp, rfl, o_y21, o_yp21, b21⟩
 obtain ⟨lo_y, hi_y, lo_yp, hi_yp, d1_y, d2_y, d3_y, d4_y, d5_y, d6_y, d7_y, oo_y, oo_yp⟩ := Sr.pairN o_y21 o_yp21 b21.size
 clear o_y21 o_yp21
 obtain ⟨ao_y, L_y, cap_y, rfl, _, _⟩ := oo_y.form
 obtain ⟨ao_yp, L_yp, cap_yp, rfl, _, _⟩ := oo_yp.form
 have o_y21 : Hid (Own W21 lo_y hi_y 9 (.slice ao_y L_y cap_y) (ss l)) := oo_y
 have o_yp21 : Hid (Own W21 lo_yp hi_yp 5 (.slice ao_yp L_yp cap_yp) (bs b)) := oo_yp
 clear oo_y oo_yp
 have z21 := b21.size
 have B21 := Ke.b B20 b21
 have r_a21 := Ke.r r_a20 b21
 have c_a21 := Ke.c r_a21
 clear r_a20 c_a20
 have f_w021 : Hid (Omx W21 W5.heap.size W6.heap.size v_w0 Q) := Omx.later f_w020.out b21
 have f_g021 : Hid (Omx W21 W9.heap.size W10.heap.size v_g0 (mkq 1 Q)) := Omx.later f_g020.out b21
 clear f_w020 f_g020
 go_wp2_with fail
 refine (to_heads W21 _ t (HT.out.later B21.out) (by omega)).mono ?_
 rintro e W22 ⟨v_y1, rfl, o_y122, b22⟩
 have z22 := b22.size
 have B22 := Ke.b B21 b22
 have r_a22 := Ke.r r_a21 b22
 have o_y22 := Ke.o o_y21 b22
 have o_yp22 := Ke.o o_yp21 b22
 have c_a22 := Ke.c r_a22
 clear r_a21 c_a21 o_y21 o_yp21
 have f_w022 : Hid (Omx W22 W5.heap.size W6.heap.size v_w0 Q) := Omx.later f_w021.out b22
 have f_g022 : Hid (Omx W22 W9.heap.size W10.heap.size v_g0 (mkq 1 Q)) := Omx.later f_g021.out b22
 clear f_w021 f_g021
 have f_y122 : Hid (Oq W22 W21.heap.size W22.heap.size v_y1 t) := ⟨o_y122, Nat.le_refl _⟩
 clear o_y122
 go_wp2_with fail
 refine (q2 W22 _ _ _ B22.out o_y22.out.sl o_yp22.out.sl f_y122.out.1.sh).mono ?_
 rintro e W23 ⟨v_h0, rfl, o_h023, b23⟩
 have z23 := b23.size
 have B23 := Ke.b B22 b23
 have r_a23 := Ke.r r_a22 b23
 have o_y23 := Ke.o o_y22 b23
 have o_yp23 := Ke.o o_yp22 b23
 have c_a23 := Ke.c r_a23
 clear r_a22 c_a22 o_y22 o_yp22
 have f_w023 : Hid (Omx W23 W5.heap.size W6.heap.size v_w0 Q) := Omx.later f_w022.out b23
 have f_g023 : Hid (Omx W23 W9.heap.size W10.heap.size v_g0 (mkq 1 Q)) := Omx.later f_g022.out b23
 have f_y123 : Hid (Oq W23 W21.heap.size W22.heap.size v_y1 t) := Oq.later f_y122.out b23
 clear f_w022 f_g022 f_y122
 have f_h023 : Hid (Omx W23 W22.heap.size W23.heap.size v_h0 Q) := ⟨o_h023, Nat.le_refl _⟩
 clear o_h023
 clear o_y23
 clear o_yp23
 clear f_y123
 go_wp2_with fail
 refine (eq_msgs W23 _ _ _ _ _ _ Q f_h023.out.1 f_w023.out.1 (fun m hm => Nat.le_trans (HQL.out m hm) (by omega))).mono ?_
 rintro e W24 ⟨rfl, b24⟩
 have z24 := b24.size
 have B24 := Ke.b B23 b24
 have r_a24 := Ke.r r_a23 b24
 have c_a24 := Ke.c r_a24
 clear r_a23 c_a23
 have f_w024 : Hid (Omx W24 W5.heap.size W6.heap.size v_w0 Q) := Omx.later f_w023.out b24
 have f_g024 : Hid (Omx W24 W9.heap.size W10.heap.size v_g0 (mkq 1 Q)) := Omx.later f_g023.out b24
 have f_h024 : Hid (Omx W24 W22.heap.size W23.heap.size v_h0 Q) := Omx.later f_h023.out b24
 clear f_w023 f_g023 f_h023
 have qm := held_msgs W24 v_g0 (W9.heap.size) (W10.heap.size) Q 1 f_g024.out.1 HQL.out (by omega) (by omega)
 rw [HK9.out] at qm
 go_wp2_with fail
 refine (qm).mono ?_
 rintro e W25 ⟨rfl, b25⟩
 have z25 := b25.size
 have B25 := Ke.b B24 b25
 have r_a25 := Ke.r r_a24 b25
 have c_a25 := Ke.c r_a25
 clear r_a24 c_a24
 have f_w025 : Hid (Omx W25 W5.heap.size W6.heap.size v_w0 Q) := Omx.later f_w024.out b25
 have f_g025 : Hid (Omx W25 W9.heap.size W10.heap.size v_g0 (mkq 1 Q)) := Omx.later f_g024.out b25
 have f_h025 : Hid (Omx W25 W22.heap.size W23.heap.size v_h0 Q) := Omx.later f_h024.out b25
 clear f_w024 f_g024 f_h024
 clear qm
 go_wp2
 go_ret
 exact ⟨rfl, B25.out⟩
end Go.Proofs.YtchonoonclllbabGreatDoor.Mi
