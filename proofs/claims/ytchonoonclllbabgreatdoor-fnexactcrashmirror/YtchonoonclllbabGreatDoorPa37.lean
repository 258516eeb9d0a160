/- Texts in one: MiU. -/
import Derived.Test.YtchonoonclllbabGreatDoorPa6
import Derived.Test.YtchonoonclllbabGreatDoorPa14
import Derived.Test.YtchonoonclllbabGreatDoorPa15
import Derived.Test.YtchonoonclllbabGreatDoorPa32
import Derived.Test.YtchonoonclllbabGreatDoorPa35
namespace Go.Proofs.YtchonoonclllbabGreatDoor.Mi
open Go.RowKit Go.Proofs.YtchonoonclllbabGreatDoor.Mem Go.Proofs.YtchonoonclllbabGreatDoor.Laws Go.Proofs.YtchonoonclllbabGreatDoor.Bytes Go.Proofs.YtchonoonclllbabGreatDoor.Sha Go.Proofs.YtchonoonclllbabGreatDoor.Tr Go.Proofs.YtchonoonclllbabGreatDoor.He Go.Proofs.YtchonoonclllbabGreatDoor.Lg Go.Proofs.YtchonoonclllbabGreatDoor.Sr Go.Proofs.YtchonoonclllbabGreatDoor.Mg
set_option linter.unusedVariables false
set_option linter.unusedSimpArgs false
theorem crash_len (m : Mr) (t : List Hd) (keep : Int) (hb : Byt m.st.b) (h1 : m.st.l.length ≤ 2097152) (h2 : m.st.b.length ≤ 2097152) : (crash m t keep).1.st.l.length ≤ 2097152 ∧ (crash m t keep).1.st.b.length ≤ 2097152 := by
 unfold crash
 split
 ·
  have hf : Byt (fall m.st keep) := fun y hy => hb y (List.mem_of_mem_take hy)
  obtain ⟨a, b, _⟩ := ok_parts (openS_ok t hf).1
  unfold crash1
  simp only
  exact ⟨Nat.le_trans (logOk_yes a).1 (by omega), Nat.le_trans b (by omega)⟩
 ·
  exact ⟨h1, h2⟩
set_option maxRecDepth 1000000 in
set_option maxHeartbeats 16000000 in
theorem exact_crashmirror (w : World) (v vb vt : Value) (id : Int) (l : List ByteArray) (h : Hd) (b : List Int) (s : Int) (g : Hd) (t : List Hd) (hs : Sl w v (ss l)) (hb : Sl w vb (bs b)) (hby : Byt b) (hz : ∀ s ∈ l, s.size ≤ maxLen) (hm : l.length ≤ maxLen) (hmb : b.length ≤ maxLen) (hh : h.r.size ≤ maxLen) (hgm : g.r.size ≤ maxLen) (hst : Sh w vt t) (y0 : ∀ n ∈ t, n.r.size ≤ maxLen) (m0 : t.length ≤ maxLen) (hG : Glob w) (hN : NoC w) {a0 a1 a2 a3 : Addr} (hF : Is.Four w a0 a1 a2 a3) (keep : Int) (hs1 : -9223372036854775808 ≤ s) (hs2 : s ≤ 9223372036854775807) (hk1 : -9223372036854775808 ≤ keep) (hk2 : keep ≤ 9223372036854775807) :
  Calls Tryz.prog 7 #[.agg #[.int .i64 id, v, .int .i64 h.n, .string h.r, vb, .int .i64 s, .int .i64 g.n, .string g.r], vt, .int .i64 keep] w fun e w' => e = .returned (.bool true) ∧ Below w.heap.size w w' := by
 have HF : Hid (Is.Four w a0 a1 a2 a3) := hF
 clear hF
 have HS : Hid (Sl w v (ss l)) := hs
 have HSB : Hid (Sl w vb (bs b)) := hb
 have HBY : Hid (Byt b) := hby
 have HT : Hid (Sh w vt t) := hst
 have HG : Hid (Glob w) := hG
 have HNC : Hid (NoC w) := hN
 unfold maxLen at *
 obtain ⟨ao0, cap0, rfl, hc0⟩ := hs.form
 obtain ⟨ao1, cap1, rfl, hc1⟩ := hb.form
 obtain ⟨ao2, cap2, rfl, hc2⟩ := hst.form
 simp only [ss_len, bs_len] at *
 clear hs hb hby hst hG hN
 have B0 : Hid (Below w.heap.size w w) := Below.refl _ _
 obtain ⟨W1, HW1, b1, y1, hS1, r_a1⟩ := Ke.l1 w #[.int .i64 id, .slice ao0 l.length cap0, .int .i64 h.n, .string h.r, .slice ao1 b.length cap1, .int .i64 s, .int .i64 g.n, .string g.r] 31
 have z1 := b1.size
 have B1 := Ke.b B0 b1
 have c_a1 := Ke.c r_a1
 go_enter Tryz.func7, Tryz.ntmps7
 go_wp2_with fail
 rw [HW1.out]
 refine (sz_mirror W1 _ _ id l h b s g (HS.out.later B1.out) (HSB.out.later B1.out) (fun s h => by have := hz s h; omega) (by omega) (by omega) (by omega) (by omega)).mono ?_
 rintro e W2 ⟨⟨r0, rfl, hr0⟩, b2⟩
 have z2 := b2.size
 have B2 := Ke.b B1 b2
 have r_a2 := Ke.r r_a1 b2
 have c_a2 := Ke.c r_a2
 clear r_a1 c_a1
 by_cases hr : r0 < 0
 ·
  go_wp2
  go_ret
  exact ⟨rfl, B2.out⟩
 have hr1 : l.length + Puts.tot l ≤ 1048576 ∧ h.r.size ≤ 1048576 ∧ b.length ≤ 1048576 ∧ g.r.size ≤ 1048576 ∧ 0 ≤ r0 ∧ r0 ≤ 1048576 := by rcases hr0 with h0 | h0; exact absurd h0 hr; exact h0
 obtain ⟨hr1, hzh, hbl, hzg, hr2, hr3⟩ := hr1
 have hl : l.length ≤ 1048576 := by omega
 have HZ : Hid (∀ s ∈ l, s.size ≤ 10000000000) := fun s h => Nat.le_trans (tot_mem14 l s h) (by omega)
 clear hz hr0 hm hmb hh hgm
 obtain ⟨n0, rfl⟩ : ∃ n0 : Nat, r0 = (n0 : Int) := ⟨r0.toNat, by omega⟩
 go_wp2_with fail
 refine (sz_heads W2 _ t n0 (HT.out.later B2.out) (fun n hn => y0 n hn) m0 (by omega)).mono ?_
 rintro e W3 ⟨⟨q0, rfl, hq1, hq0⟩, b3⟩
 have z3 := b3.size
 have B3 := Ke.b B2 b3
 have r_a3 := Ke.r r_a2 b3
 have c_a3 := Ke.c r_a3
 clear r_a2 c_a2
 by_cases hqn : q0 < 0
 ·
  go_wp2
  go_ret
  exact ⟨rfl, B3.out⟩
 have hfit : 0 ≤ q0 ∧ t.length ≤ 1048576 := by rcases hq0 with h | ⟨h1, h2, h3⟩; exact absurd h hqn; exact ⟨h1, by omega⟩
 obtain ⟨hq2, htl⟩ := hfit
 clear hq0 y0 m0
 have q1 : ∀ W v1 v2 v3, Sl W v1 (ss l) → Sl W v2 (bs b) → Sh W v3 t → _ := fun W v1 v2 v3 h1 h2 h3 => crash_spec W v1 v2 v3 ⟨id, ⟨l, h, b, s⟩, g⟩ t keep hs1 hs2 hk1 hk2 h1 h2 HBY.out h3 (by simp only; omega) (by simp only; omega) (by omega) HZ.out
 have q2 : ∀ W v1 v2 v3, Below w.heap.size w W → Sl W v1 (ss l) → Sl W v2 (bs b) → Sh W v3 t → _ := fun W v1 v2 v3 hB h1 h2 h3 => crash_impl W v1 v2 v3 ⟨id, ⟨l, h, b, s⟩, g⟩ t keep (HG.out.later hB) (NoC.later HNC.out hB) (by simp only; omega) (by simp only; omega) (HF.out.later hB) hs1 hs2 hk1 hk2 h1 h2 HBY.out h3 (by simp only; omega) (by simp only; omega) (by omega) HZ.out
 obtain ⟨i2, Lx, Hx, Bx, Sx, Gx, c, hM⟩ : ∃ i2 L H B S G c, crash ⟨id, ⟨l, h, b, s⟩, g⟩ t keep = (⟨i2, ⟨L, H, B, S⟩, G⟩, c) := ⟨_, _, _, _, _, _, _, rfl⟩
 have hRb : Lx.length ≤ 2097152 ∧ Bx.length ≤ 2097152 := by
  have e1 := crash_len ⟨id, ⟨l, h, b, s⟩, g⟩ t keep HBY.out (by simp only; omega) (by simp only; omega)
  rw [hM] at e1
  exact e1
 simp only [hM] at q1 q2
 clear hM
 have nc : (c != c) = false := by simp
 have ne : (c == c) = true := by simp
 go_wp2_with fail
 refine (to_mirror W3 _ _ id l h b s g (HS.out.later B3.out) (HSB.out.later B3.out) (by omega) (by omega)).mono ?_
 rintro e W4 ⟨v_t, v_tp, rfl, o_t4, o_tp4, b4⟩
 obtain ⟨lo_t, hi_t, lo_tp, hi_tp, d1_t, d2_t, d3_t, d4_t, d5_t, d6_t, d7_t, oo_t, oo_tp⟩ := Sr.pairN o_t4 o_tp4 b4.size
 clear o_t4 o_tp4
 obtain ⟨ao_t, L_t, cap_t, rfl, _, _⟩ := oo_t.form
 obtain ⟨ao_tp, L_tp, cap_tp, rfl, _, _⟩ := oo_tp.form
 have o_t4 : Hid (Own W4 lo_t hi_t 9 (.slice ao_t L_t cap_t) (ss l)) := oo_t
 have o_tp4 : Hid (Own W4 lo_tp hi_tp 5 (.slice ao_tp L_tp cap_tp) (bs b)) := oo_tp
 clear oo_t oo_tp
 have z4 := b4.size
 have B4 := Ke.b B3 b4
 have r_a4 := Ke.r r_a3 b4
 have c_a4 := Ke.c r_a4
 clear r_a3 c_a3
 go_wp2_with fail
 refine (to_heads W4 _ t (HT.out.later B4.out) (by omega)).mono ?_
 rintro e W5 ⟨v_t1, rfl, o_t15, b5⟩
 have z5 := b5.size
 have B5 := Ke.b B4 b5
 have r_a5 := Ke.r r_a4 b5
 have o_t5 := Ke.o o_t4 b5
 have o_tp5 := Ke.o o_tp4 b5
 have c_a5 := Ke.c r_a5
 clear r_a4 c_a4 o_t4 o_tp4
 have f_t15 : Hid (Oq W5 W4.heap.size W5.heap.size v_t1 t) := ⟨o_t15, Nat.le_refl _⟩
 clear o_t15
 go_wp2_with fail
 refine (q1 W5 _ _ _ o_t5.out.sl o_tp5.out.sl f_t15.out.1.sh).mono ?_
 rintro e W6 ⟨v_m, v_mp, rfl, o_m6, o_mp6, b6⟩
 obtain ⟨lo_m, hi_m, lo_mp, hi_mp, d1_m, d2_m, d3_m, d4_m, d5_m, d6_m, d7_m, oo_m, oo_mp⟩ := Sr.pairN o_m6 o_mp6 b6.size
 clear o_m6 o_mp6
 obtain ⟨ao_m, L_m, cap_m, rfl, _, _⟩ := oo_m.form
 obtain ⟨ao_mp, L_mp, cap_mp, rfl, _, _⟩ := oo_mp.form
 have o_m6 : Hid (Own W6 lo_m hi_m 9 (.slice ao_m L_m cap_m) (ss Lx)) := oo_m
 have o_mp6 : Hid (Own W6 lo_mp hi_mp 5 (.slice ao_mp L_mp cap_mp) (bs Bx)) := oo_mp
 clear oo_m oo_mp
 have z6 := b6.size
 have B6 := Ke.b B5 b6
 have r_a6 := Ke.r r_a5 b6
 have o_t6 := Ke.o o_t5 b6
 have o_tp6 := Ke.o o_tp5 b6
 have c_a6 := Ke.c r_a6
 clear r_a5 c_a5 o_t5 o_tp5
 have f_t16 : Hid (Oq W6 W4.heap.size W5.heap.size v_t1 t) := Oq.later f_t15.out b6
 clear f_t15
 clear o_t6
 clear o_tp6
 clear f_t16
 have a_a6 := Ke.a r_a6
 obtain ⟨W7, HW7, b7, y7, hS7, r_w07⟩ := Ke.l1 W6 #[.int .i64 i2, .slice ao_m L_m cap_m, .int .i64 Hx.n, .string Hx.r, .slice ao_mp L_mp cap_mp, .int .i64 Sx, .int .i64 Gx.n, .string Gx.r] 44
 have z7 := b7.size
 have B7 := Ke.b B6 b7
 have r_a7 := Ke.r r_a6 b7
 have o_m7 := Ke.o o_m6 b7
 have o_mp7 := Ke.o o_mp6 b7
 have c_a7 := Ke.c r_a7
 have c_w07 := Ke.c r_w07
 clear r_a6 c_a6 o_m6 o_mp6
 go_wp2_with fail
 rw [HW7.out]
 clear a_a6
 refine (to_mirror W7 _ _ id l h b s g (HS.out.later B7.out) (HSB.out.later B7.out) (by omega) (by omega)).mono ?_
 rintro e W8 ⟨v_x, v_xp, rfl, o_x8, o_xp8, b8⟩
 obtain ⟨lo_x, hi_x, lo_xp, hi_xp, d1_x, d2_x, d3_x, d4_x, d5_x, d6_x, d7_x, oo_x, oo_xp⟩ := Sr.pairN o_x8 o_xp8 b8.size
 clear o_x8 o_xp8
 obtain ⟨ao_x, L_x, cap_x, rfl, _, _⟩ := oo_x.form
 obtain ⟨ao_xp, L_xp, cap_xp, rfl, _, _⟩ := oo_xp.form
 have o_x8 : Hid (Own W8 lo_x hi_x 9 (.slice ao_x L_x cap_x) (ss l)) := oo_x
 have o_xp8 : Hid (Own W8 lo_xp hi_xp 5 (.slice ao_xp L_xp cap_xp) (bs b)) := oo_xp
 clear oo_x oo_xp
 have z8 := b8.size
 have B8 := Ke.b B7 b8
 have r_a8 := Ke.r r_a7 b8
 have r_w08 := Ke.r r_w07 b8
 have o_m8 := Ke.o o_m7 b8
 have o_mp8 := Ke.o o_mp7 b8
 have c_a8 := Ke.c r_a8
 have c_w08 := Ke.c r_w08
 clear r_a7 c_a7 r_w07 c_w07 o_m7 o_mp7
 have a_a8 := Ke.a r_a8
 have a_w08 := Ke.a r_w08
 obtain ⟨W9, HW9, b9, y9, hS9, r_x09⟩ := Ke.l1 W8 #[.int .i64 id, .slice ao_x L_x cap_x, .int .i64 h.n, .string h.r, .slice ao_xp L_xp cap_xp, .int .i64 s, .int .i64 g.n, .string g.r] 44
 have z9 := b9.size
 have B9 := Ke.b B8 b9
 have r_a9 := Ke.r r_a8 b9
 have r_w09 := Ke.r r_w08 b9
 have o_m9 := Ke.o o_m8 b9
 have o_mp9 := Ke.o o_mp8 b9
 have o_x9 := Ke.o o_x8 b9
 have o_xp9 := Ke.o o_xp8 b9
 have c_a9 := Ke.c r_a9
 have c_w09 := Ke.c r_w09
 have c_x09 := Ke.c r_x09
 clear r_a8 c_a8 r_w08 c_w08 o_m8 o_mp8 o_x8 o_xp8
 go_wp2_with fail
 rw [HW9.out]
 clear a_a8 a_w08
 refine (to_heads W9 _ t (HT.out.later B9.out) (by omega)).mono ?_
 rintro e W10 ⟨v_x1, rfl, o_x110, b10⟩
 have z10 := b10.size
 have B10 := Ke.b B9 b10
 have r_a10 := Ke.r r_a9 b10
 have r_w010 := Ke.r r_w09 b10
 have r_x010 := Ke.r r_x09 b10
 have o_m10 := Ke.o o_m9 b10
 have o_mp10 := Ke.o o_mp9 b10
 have o_x10 := Ke.o o_x9 b10
 have o_xp10 := Ke.o o_xp9 b10
 have c_a10 := Ke.c r_a10
 have c_w010 := Ke.c r_w010
 have c_x010 := Ke.c r_x010
 clear r_a9 c_a9 r_w09 c_w09 r_x09 c_x09 o_m9 o_mp9 o_x9 o_xp9
 have f_x110 : Hid (Oq W10 W9.heap.size W10.heap.size v_x1 t) := ⟨o_x110, Nat.le_refl _⟩
 clear o_x110
 go_wp2_with fail
 refine (q2 W10 _ _ _ B10.out o_x10.out.sl o_xp10.out.sl f_x110.out.1.sh).mono ?_
 rintro e W11 ⟨v_g, v_gp, rfl, o_g11, o_gp11, b11⟩
 obtain ⟨lo_g, hi_g, lo_gp, hi_gp, d1_g, d2_g, d3_g, d4_g, d5_g, d6_g, d7_g, oo_g, oo_gp⟩ := Sr.pairN o_g11 o_gp11 b11.size
 clear o_g11 o_gp11
 obtain ⟨ao_g, L_g, cap_g, rfl, _, _⟩ := oo_g.form
 obtain ⟨ao_gp, L_gp, cap_gp, rfl, _, _⟩ := oo_gp.form
 have o_g11 : Hid (Own W11 lo_g hi_g 9 (.slice ao_g L_g cap_g) (ss Lx)) := oo_g
 have o_gp11 : Hid (Own W11 lo_gp hi_gp 5 (.slice ao_gp L_gp cap_gp) (bs Bx)) := oo_gp
 clear oo_g oo_gp
 have z11 := b11.size
 have B11 := Ke.b B10 b11
 have r_a11 := Ke.r r_a10 b11
 have r_w011 := Ke.r r_w010 b11
 have r_x011 := Ke.r r_x010 b11
 have o_m11 := Ke.o o_m10 b11
 have o_mp11 := Ke.o o_mp10 b11
 have o_x11 := Ke.o o_x10 b11
 have o_xp11 := Ke.o o_xp10 b11
 have c_a11 := Ke.c r_a11
 have c_w011 := Ke.c r_w011
 have c_x011 := Ke.c r_x011
 clear r_a10 c_a10 r_w010 c_w010 r_x010 c_x010 o_m10 o_mp10 o_x10 o_xp10
 have f_x111 : Hid (Oq W11 W9.heap.size W10.heap.size v_x1 t) := Oq.later f_x110.out b11
 clear f_x110
 have a_a11 := Ke.a r_a11
 have a_w011 := Ke.a r_w011
 have a_x011 := Ke.a r_x011
 obtain ⟨W12, HW12, b12, y12, hS12, r_g012⟩ := Ke.l1 W11 #[.int .i64 i2, .slice ao_g L_g cap_g, .int .i64 Hx.n, .string Hx.r, .slice ao_gp L_gp cap_gp, .int .i64 Sx, .int .i64 Gx.n, .string Gx.r] 44
 have z12 := b12.size
 have B12 := Ke.b B11 b12
 have r_a12 := Ke.r r_a11 b12
 have r_w012 := Ke.r r_w011 b12
 have r_x012 := Ke.r r_x011 b12
 have o_m12 := Ke.o o_m11 b12
 have o_mp12 := Ke.o o_mp11 b12
 have o_x12 := Ke.o o_x11 b12
 have o_xp12 := Ke.o o_xp11 b12
 have o_g12 := Ke.o o_g11 b12
 have o_gp12 := Ke.o o_gp11 b12
 have c_a12 := Ke.c r_a12
 have c_w012 := Ke.c r_w012
 have c_x012 := Ke.c r_x012
 have c_g012 := Ke.c r_g012
 clear r_a11 c_a11 r_w011 c_w011 r_x011 c_x011 o_m11 o_mp11 o_x11 o_xp11 o_g11 o_gp11
 have f_x112 : Hid (Oq W12 W9.heap.size W10.heap.size v_x1 t) := Oq.later f_x111.out b12
 clear f_x111
 go_wp2_with fail
 rw [HW12.out]
 clear a_a11 a_w011 a_x011
 refine (eq_mirror W12 _ _ _ _ i2 Lx Hx Bx Sx Gx o_g12.out.sl o_m12.out.sl o_gp12.out.sl o_mp12.out.sl (by omega) (by omega)).mono ?_
 rintro e W13 ⟨rfl, b13⟩
 have z13 := b13.size
 have B13 := Ke.b B12 b13
 have r_a13 := Ke.r r_a12 b13
 have r_w013 := Ke.r r_w012 b13
 have r_x013 := Ke.r r_x012 b13
 have r_g013 := Ke.r r_g012 b13
 have o_m13 := Ke.o o_m12 b13
 have o_mp13 := Ke.o o_mp12 b13
 have o_x13 := Ke.o o_x12 b13
 have o_xp13 := Ke.o o_xp12 b13
 have o_g13 := Ke.o o_g12 b13
 have o_gp13 := Ke.o o_gp12 b13
 have c_a13 := Ke.c r_a13
 have c_w013 := Ke.c r_w013
 have c_x013 := Ke.c r_x013
 have c_g013 := Ke.c r_g013
 clear r_a12 c_a12 r_w012 c_w012 r_x012 c_x012 r_g012 c_g012 o_m12 o_mp12 o_x12 o_xp12 o_g12 o_gp12
 have f_x113 : Hid (Oq W13 W9.heap.size W10.heap.size v_x1 t) := Oq.later f_x112.out b13
 clear f_x112
 go_wp2_with fail
 refine wp_region_held_drew (S := fun w' => w'.cell? ⟨W8.heap.size, 0, none⟩ = some (.int .i64 id) ∧ w'.cell? ⟨W8.heap.size, 1, none⟩ = some (.slice ao_x L_x cap_x) ∧ w'.cell? ⟨W8.heap.size, 2, none⟩ = some (.int .i64 h.n) ∧ w'.cell? ⟨W8.heap.size, 3, none⟩ = some (.string h.r) ∧ w'.cell? ⟨W8.heap.size, 4, none⟩ = some (.slice ao_xp L_xp cap_xp) ∧ w'.cell? ⟨W8.heap.size, 5, none⟩ = some (.int .i64 s) ∧ w'.cell? ⟨W8.heap.size, 6, none⟩ = some (.int .i64 g.n) ∧ w'.cell? ⟨W8.heap.size, 7, none⟩ = some (.string g.r) ∧ w'.cell? ⟨w.heap.size, 0, none⟩ = some (.int .i64 id) ∧ w'.cell? ⟨w.heap.size, 1, none⟩ = some (.slice ao0 l.length cap0) ∧ w'.cell? ⟨w.heap.size, 2, none⟩ = some (.int .i64 h.n) ∧ w'.cell? ⟨w.heap.size, 3, none⟩ = some (.string h.r) ∧ w'.cell? ⟨w.heap.size, 4, none⟩ = some (.slice ao1 b.length cap1) ∧ w'.cell? ⟨w.heap.size, 5, none⟩ = some (.int .i64 s) ∧ w'.cell? ⟨w.heap.size, 6, none⟩ = some (.int .i64 g.n) ∧ w'.cell? ⟨w.heap.size, 7, none⟩ = some (.string g.r)) (by kernel_rfl) ⟨(c_x013 0), (c_x013 1), (c_x013 2), (c_x013 3), (c_x013 4), (c_x013 5), (c_x013 6), (c_x013 7), (c_a13 0), (c_a13 1), (c_a13 2), (c_a13 3), (c_a13 4), (c_a13 5), (c_a13 6), (c_a13 7)⟩ (fun hHeld => ?_)
 refine Ke.y 0 rfl (fun _ _ _ h => h) ?_
 try simp only [Act.put, pu1, pu2, pu3, pu4, pu5, pu6]
 refine Ke.y 1 rfl (fun _ _ _ h => h) ?_
 try simp only [Act.put, pu1, pu2, pu3, pu4, pu5, pu6]
 refine Ke.z 2 rfl (fun K hK => ?_)
 go_simp
 refine (to_mirror W13.drew _ _ id l h b s g (Sl.later (w := W13) (HS.out.later B13.out) (Below.drew (Below.refl _ _))) (Sl.later (w := W13) (HSB.out.later B13.out) (Below.drew (Below.refl _ _))) (by omega) (by omega)).mono ?_
 rintro e W14 ⟨v_u, v_up, rfl, o_u14, o_up14, b14⟩
 have b14 : Below W13.heap.size W13 W14 := (Below.drew (Below.refl _ _)).trans b14
 have o_u14 : Own W14 W13.heap.size W14.heap.size 9 _ _ := o_u14
 have o_up14 : Own W14 W13.heap.size W14.heap.size 5 _ _ := o_up14
 refine hK.out _ _ ⟨(keepR (W := W13) hHeld.1 b14), (keepR (W := W13) hHeld.2.1 b14), (keepR (W := W13) hHeld.2.2.1 b14), (keepR (W := W13) hHeld.2.2.2.1 b14), (keepR (W := W13) hHeld.2.2.2.2.1 b14), (keepR (W := W13) hHeld.2.2.2.2.2.1 b14), (keepR (W := W13) hHeld.2.2.2.2.2.2.1 b14), (keepR (W := W13) hHeld.2.2.2.2.2.2.2.1 b14), (keepR (W := W13) hHeld.2.2.2.2.2.2.2.2.1 b14), (keepR (W := W13) hHeld.2.2.2.2.2.2.2.2.2.1 b14), (keepR (W := W13) hHeld.2.2.2.2.2.2.2.2.2.2.1 b14), (keepR (W := W13) hHeld.2.2.2.2.2.2.2.2.2.2.2.1 b14), (keepR (W := W13) hHeld.2.2.2.2.2.2.2.2.2.2.2.2.1 b14), (keepR (W := W13) hHeld.2.2.2.2.2.2.2.2.2.2.2.2.2.1 b14), (keepR (W := W13) hHeld.2.2.2.2.2.2.2.2.2.2.2.2.2.2.1 b14), (keepR (W := W13) hHeld.2.2.2.2.2.2.2.2.2.2.2.2.2.2.2 b14)⟩ (fun hHeld => ?_)
 clear hK K
 try simp only [Act.put, pu1, pu2, pu3, pu4, pu5, pu6]
 obtain ⟨lo_u, hi_u, lo_up, hi_up, d1_u, d2_u, d3_u, d4_u, d5_u, d6_u, d7_u, oo_u, oo_up⟩ := Sr.pairN o_u14 o_up14 b14.size
 clear o_u14 o_up14
 obtain ⟨ao_u, L_u, cap_u, rfl, _, _⟩ := oo_u.form
 obtain ⟨ao_up, L_up, cap_up, rfl, _, _⟩ := oo_up.form
 have o_u14 : Hid (Own W14 lo_u hi_u 9 (.slice ao_u L_u cap_u) (ss l)) := oo_u
 have o_up14 : Hid (Own W14 lo_up hi_up 5 (.slice ao_up L_up cap_up) (bs b)) := oo_up
 clear oo_u oo_up
 have z14 := b14.size
 have B14 := Ke.b B13 b14
 have r_a14 := Ke.r r_a13 b14
 have r_w014 := Ke.r r_w013 b14
 have r_x014 := Ke.r r_x013 b14
 have r_g014 := Ke.r r_g013 b14
 have o_m14 := Ke.o o_m13 b14
 have o_mp14 := Ke.o o_mp13 b14
 have o_x14 := Ke.o o_x13 b14
 have o_xp14 := Ke.o o_xp13 b14
 have o_g14 := Ke.o o_g13 b14
 have o_gp14 := Ke.o o_gp13 b14
 have c_a14 := Ke.c r_a14
 have c_w014 := Ke.c r_w014
 have c_x014 := Ke.c r_x014
 have c_g014 := Ke.c r_g014
 clear r_a13 c_a13 r_w013 c_w013 r_x013 c_x013 r_g013 c_g013 o_m13 o_mp13 o_x13 o_xp13 o_g13 o_gp13
 have f_x114 : Hid (Oq W14 W9.heap.size W10.heap.size v_x1 t) := Oq.later f_x113.out b14
 clear f_x113
 refine Ke.z 3 rfl (fun K hK => ?_)
 go_simp
 refine (eq_mirror W14 _ _ _ _ id l h b s g o_x14.out.sl o_u14.out.sl o_xp14.out.sl o_up14.out.sl (by omega) (by omega)).mono ?_
 rintro e W15 ⟨rfl, b15⟩
 refine hK.out _ _ ⟨(keepR (W := W14) hHeld.1 b15), (keepR (W := W14) hHeld.2.1 b15), (keepR (W := W14) hHeld.2.2.1 b15), (keepR (W := W14) hHeld.2.2.2.1 b15), (keepR (W := W14) hHeld.2.2.2.2.1 b15), (keepR (W := W14) hHeld.2.2.2.2.2.1 b15), (keepR (W := W14) hHeld.2.2.2.2.2.2.1 b15), (keepR (W := W14) hHeld.2.2.2.2.2.2.2.1 b15), (keepR (W := W14) hHeld.2.2.2.2.2.2.2.2.1 b15), (keepR (W := W14) hHeld.2.2.2.2.2.2.2.2.2.1 b15), (keepR (W := W14) hHeld.2.2.2.2.2.2.2.2.2.2.1 b15), (keepR (W := W14) hHeld.2.2.2.2.2.2.2.2.2.2.2.1 b15), (keepR (W := W14) hHeld.2.2.2.2.2.2.2.2.2.2.2.2.1 b15), (keepR (W := W14) hHeld.2.2.2.2.2.2.2.2.2.2.2.2.2.1 b15), (keepR (W := W14) hHeld.2.2.2.2.2.2.2.2.2.2.2.2.2.2.1 b15), (keepR (W := W14) hHeld.2.2.2.2.2.2.2.2.2.2.2.2.2.2.2 b15)⟩ (fun hHeld => ?_)
 clear hK K
 try simp only [Act.put, pu1, pu2, pu3, pu4, pu5, pu6]
 have z15 := b15.size
 have B15 := Ke.b B14 b15
 have r_a15 := Ke.r r_a14 b15
 have r_w015 := Ke.r r_w014 b15
 have r_x015 := Ke.r r_x014 b15
 have r_g015 := Ke.r r_g014 b15
 have o_m15 := Ke.o o_m14 b15
 have o_mp15 := Ke.o o_mp14 b15
 have o_x15 := Ke.o o_x14 b15
 have o_xp15 := Ke.o o_xp14 b15
 have o_g15 := Ke.o o_g14 b15
 have o_gp15 := Ke.o o_gp14 b15
 have o_u15 := Ke.o o_u14 b15
 have o_up15 := Ke.o o_up14 b15
 have c_a15 := Ke.c r_a15
 have c_w015 := Ke.c r_w015
 have c_x015 := Ke.c r_x015
 have c_g015 := Ke.c r_g015
 clear r_a14 c_a14 r_w014 c_w014 r_x014 c_x014 r_g014 c_g014 o_m14 o_mp14 o_x14 o_xp14 o_g14 o_gp14 o_u14 o_up14
 have f_x115 : Hid (Oq W15 W9.heap.size W10.heap.size v_x1 t) := Oq.later f_x114.out b15
 clear f_x114
 refine Ke.y 4 rfl (fun _ _ _ h => h) ?_
 try simp only [Act.put, pu1, pu2, pu3, pu4, pu5, pu6]
 refine wpAnyH_done (by kernel_rfl) ?_ _
 clear hHeld
 clear o_u15
 clear o_up15
 go_wp2_with fail
 refine (to_heads W15 _ t (HT.out.later B15.out) (by omega)).mono ?_
 rintro e W16 ⟨v_u1, rfl, o_u116, b16⟩
 have z16 := b16.size
 have B16 := Ke.b B15 b16
 have r_a16 := Ke.r r_a15 b16
 have r_w016 := Ke.r r_w015 b16
 have r_x016 := Ke.r r_x015 b16
 have r_g016 := Ke.r r_g015 b16
 have o_m16 := Ke.o o_m15 b16
 have o_mp16 := Ke.o o_mp15 b16
 have o_x16 := Ke.o o_x15 b16
 have o_xp16 := Ke.o o_xp15 b16
 have o_g16 := Ke.o o_g15 b16
 have o_gp16 := Ke.o o_gp15 b16
 have c_a16 := Ke.c r_a16
 have c_w016 := Ke.c r_w016
 have c_x016 := Ke.c r_x016
 have c_g016 := Ke.c r_g016
 clear r_a15 c_a15 r_w015 c_w015 r_x015 c_x015 r_g015 c_g015 o_m15 o_mp15 o_x15 o_xp15 o_g15 o_gp15
 have f_x116 : Hid (Oq W16 W9.heap.size W10.heap.size v_x1 t) := Oq.later f_x115.out b16
 clear f_x115
 have f_u116 : Hid (Oq W16 W15.heap.size W16.heap.size v_u1 t) := ⟨o_u116, Nat.le_refl _⟩
 clear o_u116
 go_wp2_with fail
 refine (eq_heads W16 v_x1 v_u1 t f_x116.out.1.sh f_u116.out.1.sh (by omega)).mono ?_
 rintro e W17 ⟨rfl, b17⟩
 have z17 := b17.size
 have B17 := Ke.b B16 b17
 have r_a17 := Ke.r r_a16 b17
 have r_w017 := Ke.r r_w016 b17
 have r_x017 := Ke.r r_x016 b17
 have r_g017 := Ke.r r_g016 b17
 have o_m17 := Ke.o o_m16 b17
 have o_mp17 := Ke.o o_mp16 b17
 have o_x17 := Ke.o o_x16 b17
 have o_xp17 := Ke.o o_xp16 b17
 have o_g17 := Ke.o o_g16 b17
 have o_gp17 := Ke.o o_gp16 b17
 have c_a17 := Ke.c r_a17
 have c_w017 := Ke.c r_w017
 have c_x017 := Ke.c r_x017
 have c_g017 := Ke.c r_g017
 clear r_a16 c_a16 r_w016 c_w016 r_x016 c_x016 r_g016 c_g016 o_m16 o_mp16 o_x16 o_xp16 o_g16 o_gp16
 have f_x117 : Hid (Oq W17 W9.heap.size W10.heap.size v_x1 t) := Oq.later f_x116.out b17
 have f_u117 : Hid (Oq W17 W15.heap.size W16.heap.size v_u1 t) := Oq.later f_u116.out b17
 clear f_x116 f_u116
 clear f_u117
 obtain ⟨K1, HK1⟩ : ∃ K1 : Nat, Hid (1 + l.length + b.length = K1) := ⟨_, rfl⟩
 have hK1 : 1 ≤ K1 ∧ K1 ≤ 4000000 := by have := HK1.out; omega
 have qm := mark_mirror W17 id h g _ _ s _ _ _ _ l b 1 o_x17.out o_xp17.out (by omega) (by omega) (by omega) (by omega) (by omega) (by omega) (by omega)
 rw [HK1.out] at qm
 go_wp2_with fail
 refine (qm).mono ?_
 rintro e W18 ⟨rfl, o_x18, o_xp18, p18⟩
 have o_x18 : Hid (Own W18 (lo_x) (hi_x) 9 (.slice ao_x L_x cap_x) (ss (Strs.mts 1 l.length))) := o_x18
 have o_xp18 : Hid (Own W18 (lo_xp) (hi_xp) 5 (.slice ao_xp L_xp cap_xp) (bs (marks (1 + l.length) b.length))) := o_xp18
 have z18 : W17.heap.size ≤ W18.heap.size := p18.size
 have B18 : Hid (Below w.heap.size w W18) := B17.out.trans (p18.below (by have := B17.out.size; omega) (by have := B17.out.size; omega) B17.out.size)
 have r_a18 : Hid (W18.heap[w.heap.size]? = some (.cells #[.int .i64 id, .slice ao0 l.length cap0, .int .i64 h.n, .string h.r, .slice ao1 b.length cap1, .int .i64 s, .int .i64 g.n, .string g.r] 31 (0, 0))) := (p18.block (w.heap.size) (by omega) (by omega) (by omega)).trans r_a17.out
 have r_w018 : Hid (W18.heap[W6.heap.size]? = some (.cells #[.int .i64 i2, .slice ao_m L_m cap_m, .int .i64 Hx.n, .string Hx.r, .slice ao_mp L_mp cap_mp, .int .i64 Sx, .int .i64 Gx.n, .string Gx.r] 44 (0, 0))) := (p18.block (W6.heap.size) (by omega) (by omega) (by omega)).trans r_w017.out
 have r_x018 : Hid (W18.heap[W8.heap.size]? = some (.cells #[.int .i64 id, .slice ao_x L_x cap_x, .int .i64 h.n, .string h.r, .slice ao_xp L_xp cap_xp, .int .i64 s, .int .i64 g.n, .string g.r] 44 (0, 0))) := (p18.block (W8.heap.size) (by omega) (by omega) (by omega)).trans r_x017.out
 have r_g018 : Hid (W18.heap[W11.heap.size]? = some (.cells #[.int .i64 i2, .slice ao_g L_g cap_g, .int .i64 Hx.n, .string Hx.r, .slice ao_gp L_gp cap_gp, .int .i64 Sx, .int .i64 Gx.n, .string Gx.r] 44 (0, 0))) := (p18.block (W11.heap.size) (by omega) (by omega) (by omega)).trans r_g017.out
 have o_m18 : Hid (Own W18 (lo_m) (hi_m) 9 (.slice ao_m L_m cap_m) (ss Lx)) := Sr.Own.apart2 o_m17.out p18 (by omega) (by omega) (by omega)
 have o_mp18 : Hid (Own W18 (lo_mp) (hi_mp) 5 (.slice ao_mp L_mp cap_mp) (bs Bx)) := Sr.Own.apart2 o_mp17.out p18 (by omega) (by omega) (by omega)
 have o_g18 : Hid (Own W18 (lo_g) (hi_g) 9 (.slice ao_g L_g cap_g) (ss Lx)) := Sr.Own.apart2 o_g17.out p18 (by omega) (by omega) (by omega)
 have o_gp18 : Hid (Own W18 (lo_gp) (hi_gp) 5 (.slice ao_gp L_gp cap_gp) (bs Bx)) := Sr.Own.apart2 o_gp17.out p18 (by omega) (by omega) (by omega)
 have f_x118 : Hid (Oq W18 W9.heap.size W10.heap.size v_x1 t) := Oq.apart2 f_x117.out p18 (by omega) (by omega)
 have c_a18 := Ke.c r_a18
 have c_w018 := Ke.c r_w018
 have c_x018 := Ke.c r_x018
 have c_g018 := Ke.c r_g018
 clear r_a17 c_a17 r_w017 c_w017 r_x017 c_x017 r_g017 c_g017 o_m17 o_mp17 o_x17 o_xp17 o_g17 o_gp17
 clear f_x117
 clear qm
 clear o_x18
 clear o_xp18
 clear r_x018 c_x018
 obtain ⟨K2, HK2⟩ : ∃ K2 : Nat, Hid (K1 + 2 * t.length = K2) := ⟨_, rfl⟩
 have hK2 : 1 ≤ K2 ∧ K2 ≤ 10000000 := by have := HK2.out; omega
 have qm := mark_heads W18 v_x1 (W9.heap.size) (W10.heap.size) t K1 f_x118.out.1 (by omega) (by omega) (by omega) (by omega)
 rw [HK2.out] at qm
 go_wp2_with fail
 refine (qm).mono ?_
 rintro e W19 ⟨rfl, m19, p19⟩
 have z19 : W18.heap.size ≤ W19.heap.size := p19.size
 have B19 : Hid (Below w.heap.size w W19) := B18.out.trans (p19.below (by have := B18.out.size; omega) B18.out.size)
 have r_a19 : Hid (W19.heap[w.heap.size]? = some (.cells #[.int .i64 id, .slice ao0 l.length cap0, .int .i64 h.n, .string h.r, .slice ao1 b.length cap1, .int .i64 s, .int .i64 g.n, .string g.r] 31 (0, 0))) := (p19.block (w.heap.size) (by omega) (by omega)).trans r_a18.out
 have r_w019 : Hid (W19.heap[W6.heap.size]? = some (.cells #[.int .i64 i2, .slice ao_m L_m cap_m, .int .i64 Hx.n, .string Hx.r, .slice ao_mp L_mp cap_mp, .int .i64 Sx, .int .i64 Gx.n, .string Gx.r] 44 (0, 0))) := (p19.block (W6.heap.size) (by omega) (by omega)).trans r_w018.out
 have r_g019 : Hid (W19.heap[W11.heap.size]? = some (.cells #[.int .i64 i2, .slice ao_g L_g cap_g, .int .i64 Hx.n, .string Hx.r, .slice ao_gp L_gp cap_gp, .int .i64 Sx, .int .i64 Gx.n, .string Gx.r] 44 (0, 0))) := (p19.block (W11.heap.size) (by omega) (by omega)).trans r_g018.out
 have o_m19 : Hid (Own W19 (lo_m) (hi_m) 9 (.slice ao_m L_m cap_m) (ss Lx)) := Own.apart o_m18.out p19 (by omega) (by omega)
 have o_mp19 : Hid (Own W19 (lo_mp) (hi_mp) 5 (.slice ao_mp L_mp cap_mp) (bs Bx)) := Own.apart o_mp18.out p19 (by omega) (by omega)
 have o_g19 : Hid (Own W19 (lo_g) (hi_g) 9 (.slice ao_g L_g cap_g) (ss Lx)) := Own.apart o_g18.out p19 (by omega) (by omega)
 have o_gp19 : Hid (Own W19 (lo_gp) (hi_gp) 5 (.slice ao_gp L_gp cap_gp) (bs Bx)) := Own.apart o_gp18.out p19 (by omega) (by omega)
 have c_a19 := Ke.c r_a19
 have c_w019 := Ke.c r_w019
 have c_g019 := Ke.c r_g019
 clear r_a18 c_a18 r_w018 c_w018 r_g018 c_g018 o_m18 o_mp18 o_g18 o_gp18
 clear f_x118 m19
 clear qm
 go_wp2_with fail
 refine (eq_mirror W19 _ _ _ _ i2 Lx Hx Bx Sx Gx o_g19.out.sl o_m19.out.sl o_gp19.out.sl o_mp19.out.sl (by omega) (by omega)).mono ?_
 rintro e W20 ⟨rfl, b20⟩
 have z20 := b20.size
 have B20 := Ke.b B19 b20
 have r_a20 := Ke.r r_a19 b20
 have r_w020 := Ke.r r_w019 b20
 have r_g020 := Ke.r r_g019 b20
 have o_m20 := Ke.o o_m19 b20
 have o_mp20 := Ke.o o_mp19 b20
 have o_g20 := Ke.o o_g19 b20
 have o_gp20 := Ke.o o_gp19 b20
 have c_a20 := Ke.c r_a20
 have c_w020 := Ke.c r_w020
 have c_g020 := Ke.c r_g020
 clear r_a19 c_a19 r_w019 c_w019 r_g019 c_g019 o_m19 o_mp19 o_g19 o_gp19
 go_wp2_with fail
 refine (mark_mirror W20 i2 Hx Gx _ _ Sx _ _ _ _ Lx Bx 1 o_g20.out o_gp20.out (by omega) (by omega) (by omega) (by omega) (by omega) (by omega) (by omega)).mono ?_
 rintro e W21 ⟨rfl, o_g21, o_gp21, p21⟩
 have o_g21 : Hid (Own W21 (lo_g) (hi_g) 9 (.slice ao_g L_g cap_g) (ss (Strs.mts 1 Lx.length))) := o_g21
 have o_gp21 : Hid (Own W21 (lo_gp) (hi_gp) 5 (.slice ao_gp L_gp cap_gp) (bs (marks (1 + Lx.length) Bx.length))) := o_gp21
 have z21 : W20.heap.size ≤ W21.heap.size := p21.size
 have B21 : Hid (Below w.heap.size w W21) := B20.out.trans (p21.below (by have := B20.out.size; omega) (by have := B20.out.size; omega) B20.out.size)
 have r_a21 : Hid (W21.heap[w.heap.size]? = some (.cells #[.int .i64 id, .slice ao0 l.length cap0, .int .i64 h.n, .string h.r, .slice ao1 b.length cap1, .int .i64 s, .int .i64 g.n, .string g.r] 31 (0, 0))) := (p21.block (w.heap.size) (by omega) (by omega) (by omega)).trans r_a20.out
 have r_w021 : Hid (W21.heap[W6.heap.size]? = some (.cells #[.int .i64 i2, .slice ao_m L_m cap_m, .int .i64 Hx.n, .string Hx.r, .slice ao_mp L_mp cap_mp, .int .i64 Sx, .int .i64 Gx.n, .string Gx.r] 44 (0, 0))) := (p21.block (W6.heap.size) (by omega) (by omega) (by omega)).trans r_w020.out
 have r_g021 : Hid (W21.heap[W11.heap.size]? = some (.cells #[.int .i64 i2, .slice ao_g L_g cap_g, .int .i64 Hx.n, .string Hx.r, .slice ao_gp L_gp cap_gp, .int .i64 Sx, .int .i64 Gx.n, .string Gx.r] 44 (0, 0))) := (p21.block (W11.heap.size) (by omega) (by omega) (by omega)).trans r_g020.out
 have o_m21 : Hid (Own W21 (lo_m) (hi_m) 9 (.slice ao_m L_m cap_m) (ss Lx)) := Sr.Own.apart2 o_m20.out p21 (by omega) (by omega) (by omega)
 have o_mp21 : Hid (Own W21 (lo_mp) (hi_mp) 5 (.slice ao_mp L_mp cap_mp) (bs Bx)) := Sr.Own.apart2 o_mp20.out p21 (by omega) (by omega) (by omega)
 have c_a21 := Ke.c r_a21
 have c_w021 := Ke.c r_w021
 have c_g021 := Ke.c r_g021
 clear r_a20 c_a20 r_w020 c_w020 r_g020 c_g020 o_m20 o_mp20 o_g20 o_gp20
 go_wp2_with fail
 refine (held_mirror W21 i2 Hx Gx _ _ Sx Lx.length Bx.length 1 o_g21.out.sl o_gp21.out.sl (by omega) (by omega) (by omega) (by omega)).mono ?_
 rintro e W22 ⟨rfl, b22⟩
 have z22 := b22.size
 have B22 := Ke.b B21 b22
 have r_a22 := Ke.r r_a21 b22
 have r_w022 := Ke.r r_w021 b22
 have r_g022 := Ke.r r_g021 b22
 have o_m22 := Ke.o o_m21 b22
 have o_mp22 := Ke.o o_mp21 b22
 have o_g22 := Ke.o o_g21 b22
 have o_gp22 := Ke.o o_gp21 b22
 have c_a22 := Ke.c r_a22
 have c_w022 := Ke.c r_w022
 have c_g022 := Ke.c r_g022
 clear r_a21 c_a21 r_w021 c_w021 r_g021 c_g021 o_m21 o_mp21 o_g21 o_gp21
 go_wp2_with fail
 refine (to_mirror W22 _ _ id l h b s g (HS.out.later B22.out) (HSB.out.later B22.out) (by omega) (by omega)).mono ?_
 rintro e W23 ⟨v_y, v_yp, rfl, o_y23, o_yp23, b23⟩
 obtain ⟨lo_y, hi_y, lo_yp, hi_yp, d1_y, d2_y, d3_y, d4_y, d5_y, d6_y, d7_y, oo_y, oo_yp⟩ := Sr.pairN o_y23 o_yp23 b23.size
 clear o_y23 o_yp23
 obtain ⟨ao_y, L_y, cap_y, rfl, _, _⟩ := oo_y.form
 obtain ⟨ao_yp, L_yp, cap_yp, rfl, _, _⟩ := oo_yp.form
 have o_y23 : Hid (Own W23 lo_y hi_y 9 (.slice ao_y L_y cap_y) (ss l)) := oo_y
 have o_yp23 : Hid (Own W23 lo_yp hi_yp 5 (.slice ao_yp L_yp cap_yp) (bs b)) := oo_yp
 clear oo_y oo_yp
 have z23 := b23.size
 have B23 := Ke.b B22 b23
 have r_a23 := Ke.r r_a22 b23
 have r_w023 := Ke.r r_w022 b23
 have r_g023 := Ke.r r_g022 b23
 have o_m23 := Ke.o o_m22 b23
 have o_mp23 := Ke.o o_mp22 b23
 have o_g23 := Ke.o o_g22 b23
 have o_gp23 := Ke.o o_gp22 b23
 have c_a23 := Ke.c r_a23
 have c_w023 := Ke.c r_w023
 have c_g023 := Ke.c r_g023
 clear r_a22 c_a22 r_w022 c_w022 r_g022 c_g022 o_m22 o_mp22 o_g22 o_gp22
 go_wp2_with fail
 refine (to_heads W23 _ t (HT.out.later B23.out) (by omega)).mono ?_
 rintro e W24 ⟨v_y1, rfl, o_y124, b24⟩
 have z24 := b24.size
 have B24 := Ke.b B23 b24
 have r_a24 := Ke.r r_a23 b24
 have r_w024 := Ke.r r_w023 b24
 have r_g024 := Ke.r r_g023 b24
 have o_m24 := Ke.o o_m23 b24
 have o_mp24 := Ke.o o_mp23 b24
 have o_g24 := Ke.o o_g23 b24
 have o_gp24 := Ke.o o_gp23 b24
 have o_y24 := Ke.o o_y23 b24
 have o_yp24 := Ke.o o_yp23 b24
 have c_a24 := Ke.c r_a24
 have c_w024 := Ke.c r_w024
 have c_g024 := Ke.c r_g024
 clear r_a23 c_a23 r_w023 c_w023 r_g023 c_g023 o_m23 o_mp23 o_g23 o_gp23 o_y23 o_yp23
 have f_y124 : Hid (Oq W24 W23.heap.size W24.heap.size v_y1 t) := ⟨o_y124, Nat.le_refl _⟩
 clear o_y124
 go_wp2_with fail
 refine (q2 W24 _ _ _ B24.out o_y24.out.sl o_yp24.out.sl f_y124.out.1.sh).mono ?_
 rintro e W25 ⟨v_h, v_hp, rfl, o_h25, o_hp25, b25⟩
 obtain ⟨lo_h, hi_h, lo_hp, hi_hp, d1_h, d2_h, d3_h, d4_h, d5_h, d6_h, d7_h, oo_h, oo_hp⟩ := Sr.pairN o_h25 o_hp25 b25.size
 clear o_h25 o_hp25
 obtain ⟨ao_h, L_h, cap_h, rfl, _, _⟩ := oo_h.form
 obtain ⟨ao_hp, L_hp, cap_hp, rfl, _, _⟩ := oo_hp.form
 have o_h25 : Hid (Own W25 lo_h hi_h 9 (.slice ao_h L_h cap_h) (ss Lx)) := oo_h
 have o_hp25 : Hid (Own W25 lo_hp hi_hp 5 (.slice ao_hp L_hp cap_hp) (bs Bx)) := oo_hp
 clear oo_h oo_hp
 have z25 := b25.size
 have B25 := Ke.b B24 b25
 have r_a25 := Ke.r r_a24 b25
 have r_w025 := Ke.r r_w024 b25
 have r_g025 := Ke.r r_g024 b25
 have o_m25 := Ke.o o_m24 b25
 have o_mp25 := Ke.o o_mp24 b25
 have o_g25 := Ke.o o_g24 b25
 have o_gp25 := Ke.o o_gp24 b25
 have o_y25 := Ke.o o_y24 b25
 have o_yp25 := Ke.o o_yp24 b25
 have c_a25 := Ke.c r_a25
 have c_w025 := Ke.c r_w025
 have c_g025 := Ke.c r_g025
 clear r_a24 c_a24 r_w024 c_w024 r_g024 c_g024 o_m24 o_mp24 o_g24 o_gp24 o_y24 o_yp24
 have f_y125 : Hid (Oq W25 W23.heap.size W24.heap.size v_y1 t) := Oq.later f_y124.out b25
 clear f_y124
 clear o_y25
 clear o_yp25
 clear f_y125
 have a_a25 := Ke.a r_a25
 have a_w025 := Ke.a r_w025
 have a_g025 := Ke.a r_g025
 obtain ⟨W26, HW26, b26, y26, hS26, r_h026⟩ := Ke.l1 W25 #[.int .i64 i2, .slice ao_h L_h cap_h, .int .i64 Hx.n, .string Hx.r, .slice ao_hp L_hp cap_hp, .int .i64 Sx, .int .i64 Gx.n, .string Gx.r] 44
 have z26 := b26.size
 have B26 := Ke.b B25 b26
 have r_a26 := Ke.r r_a25 b26
 have r_w026 := Ke.r r_w025 b26
 have r_g026 := Ke.r r_g025 b26
 have o_m26 := Ke.o o_m25 b26
 have o_mp26 := Ke.o o_mp25 b26
 have o_g26 := Ke.o o_g25 b26
 have o_gp26 := Ke.o o_gp25 b26
 have o_h26 := Ke.o o_h25 b26
 have o_hp26 := Ke.o o_hp25 b26
 have c_a26 := Ke.c r_a26
 have c_w026 := Ke.c r_w026
 have c_g026 := Ke.c r_g026
 have c_h026 := Ke.c r_h026
 clear r_a25 c_a25 r_w025 c_w025 r_g025 c_g025 o_m25 o_mp25 o_g25 o_gp25 o_h25 o_hp25
 go_wp2_with fail
 rw [HW26.out]
 clear a_a25 a_w025 a_g025
 refine (eq_mirror W26 _ _ _ _ i2 Lx Hx Bx Sx Gx o_h26.out.sl o_m26.out.sl o_hp26.out.sl o_mp26.out.sl (by omega) (by omega)).mono ?_
 rintro e W27 ⟨rfl, b27⟩
 have z27 := b27.size
 have B27 := Ke.b B26 b27
 have r_a27 := Ke.r r_a26 b27
 have r_w027 := Ke.r r_w026 b27
 have r_g027 := Ke.r r_g026 b27
 have r_h027 := Ke.r r_h026 b27
 have o_m27 := Ke.o o_m26 b27
 have o_mp27 := Ke.o o_mp26 b27
 have o_g27 := Ke.o o_g26 b27
 have o_gp27 := Ke.o o_gp26 b27
 have o_h27 := Ke.o o_h26 b27
 have o_hp27 := Ke.o o_hp26 b27
 have c_a27 := Ke.c r_a27
 have c_w027 := Ke.c r_w027
 have c_g027 := Ke.c r_g027
 have c_h027 := Ke.c r_h027
 clear r_a26 c_a26 r_w026 c_w026 r_g026 c_g026 r_h026 c_h026 o_m26 o_mp26 o_g26 o_gp26 o_h26 o_hp26
 go_wp2_with fail
 refine (held_mirror W27 i2 Hx Gx _ _ Sx Lx.length Bx.length 1 o_g27.out.sl o_gp27.out.sl (by omega) (by omega) (by omega) (by omega)).mono ?_
 rintro e W28 ⟨rfl, b28⟩
 have z28 := b28.size
 have B28 := Ke.b B27 b28
 have r_a28 := Ke.r r_a27 b28
 have r_w028 := Ke.r r_w027 b28
 have r_g028 := Ke.r r_g027 b28
 have r_h028 := Ke.r r_h027 b28
 have o_m28 := Ke.o o_m27 b28
 have o_mp28 := Ke.o o_mp27 b28
 have o_g28 := Ke.o o_g27 b28
 have o_gp28 := Ke.o o_gp27 b28
 have o_h28 := Ke.o o_h27 b28
 have o_hp28 := Ke.o o_hp27 b28
 have c_a28 := Ke.c r_a28
 have c_w028 := Ke.c r_w028
 have c_g028 := Ke.c r_g028
 have c_h028 := Ke.c r_h028
 clear r_a27 c_a27 r_w027 c_w027 r_g027 c_g027 r_h027 c_h027 o_m27 o_mp27 o_g27 o_gp27 o_h27 o_hp27
 go_wp2
 go_ret
 exact ⟨rfl, B28.out⟩
end Go.Proofs.YtchonoonclllbabGreatDoor.Mi
