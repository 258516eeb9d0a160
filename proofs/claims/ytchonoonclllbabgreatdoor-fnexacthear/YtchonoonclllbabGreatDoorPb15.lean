/- Texts in one: MiH. -/
import Derived.Test.YtchonoonclllbabGreatDoorPb6
import Derived.Test.YtchonoonclllbabGreatDoorPb13
import Derived.Test.YtchonoonclllbabGreatDoorPb14
import Derived.Test.YtchonoonclllbabGreatDoorPb5
namespace Go.Proofs.YtchonoonclllbabGreatDoor.Mi
open Go.RowKit Go.Proofs.YtchonoonclllbabGreatDoor.Mem Go.Proofs.YtchonoonclllbabGreatDoor.Laws Go.Proofs.YtchonoonclllbabGreatDoor.Bytes Go.Proofs.YtchonoonclllbabGreatDoor.Sha Go.Proofs.YtchonoonclllbabGreatDoor.Tr Go.Proofs.YtchonoonclllbabGreatDoor.He Go.Proofs.YtchonoonclllbabGreatDoor.Lg Go.Proofs.YtchonoonclllbabGreatDoor.Sr Go.Proofs.YtchonoonclllbabGreatDoor.Mg
set_option linter.unusedVariables false
set_option linter.unusedSimpArgs false
set_option maxRecDepth 1000000 in
set_option maxHeartbeats 16000000 in
theorem to_mirror (w : World) (v vb : Value) (id : Int) (l : List ByteArray) (h : Hd) (b : List Int) (s : Int) (g : Hd) (hs : Sl w v (ss l)) (hb : Sl w vb (bs b)) (hl : l.length ≤ 1000000000) (hbl : b.length ≤ 1000000000) :
  Calls Tryz.prog 12 #[.agg #[.int .i64 id, v, .int .i64 h.n, .string h.r, vb, .int .i64 s, .int .i64 g.n, .string g.r]] w fun e w' => ∃ v' vb', e = .returned (.agg #[.int .i64 id, v', .int .i64 h.n, .string h.r, vb', .int .i64 s, .int .i64 g.n, .string g.r]) ∧ Own w' w.heap.size w'.heap.size 9 v' (ss l) ∧ Own w' w.heap.size w'.heap.size 5 vb' (bs b) ∧ Below w.heap.size w w' := by
 have HS : Hid (Sl w v (ss l)) := hs
 have HSB : Hid (Sl w vb (bs b)) := hb
 obtain ⟨ao0, cap0, rfl, hc0⟩ := hs.form
 obtain ⟨ao1, cap1, rfl, hc1⟩ := hb.form
 simp only [ss_len, bs_len] at *
 clear hs hb
 have B0 : Hid (Below w.heap.size w w) := Below.refl _ _
 obtain ⟨W1, HW1, b1, y1, hS1, r_a1, r_res1, r_out1⟩ := Ke.l3 w #[.int .i64 id, .slice ao0 l.length cap0, .int .i64 h.n, .string h.r, .slice ao1 b.length cap1, .int .i64 s, .int .i64 g.n, .string g.r] 31 #[.int .i64 0, .slice none 0 0, .int .i64 0, .string ⟨#[]⟩, .slice none 0 0, .int .i64 0, .int .i64 0, .string ⟨#[]⟩] 44 #[.int .i64 0, .slice none 0 0, .int .i64 0, .string ⟨#[]⟩, .slice none 0 0, .int .i64 0, .int .i64 0, .string ⟨#[]⟩] 44
 have z1 := b1.size
 have B1 := Ke.b B0 b1
 have c_a1 := Ke.c r_a1
 have c_res1 := Ke.c r_res1
 have c_out1 := Ke.c r_out1
 have q1 : ∀ W v1 v2, Sl W v1 (ss l) → Sl W v2 (bs b) → _ := fun W v1 v2 h1 h2 => to_store W v1 v2 l h b s h1 h2 (by omega) (by omega)
 have q2 : ∀ W, _ := fun W => to_head W g
 go_enter Tryz.func12, Tryz.ntmps12
 go_wp2_with ((try rw [HW1.out]); refine wpl_oneG rfl 3 _ _ rfl (w.heap.size + 1 + 1) 0 (.int .i64 id) rfl rfl [.int .i64 0, .slice none 0 0, .int .i64 0, .string ⟨#[]⟩, .slice none 0 0, .int .i64 0, .int .i64 0, .string ⟨#[]⟩] 44 r_out1.out (Nat.le_of_ble_eq_true rfl) (by kernel_rfl) rfl [.int .i64 id, .slice none 0 0, .int .i64 0, .string ⟨#[]⟩, .slice none 0 0, .int .i64 0, .int .i64 0, .string ⟨#[]⟩] rfl ?_)
 intro W2 r_out2 g2
 have r_out2 := Ke.h r_out2
 have z2 := g2.size
 have B2 : Hid (Below w.heap.size w W2) := belowGro B1.out g2 B1.out.size (fun k9 h9 => by injection h9 with h9; have := B1.out.size; omega)
 have r_a2 := Ke.s r_a1 g2
 have r_res2 := Ke.s r_res1 g2
 have c_a2 := Ke.c r_a2
 have c_res2 := Ke.c r_res2
 have c_out2 := Ke.c r_out2
 clear r_a1 c_a1 r_res1 c_res1
 clear r_out1 c_out1
 clear g2
 go_wp2_with fail
 refine (q1 W2 _ _ (HS.out.later B2.out) (HSB.out.later B2.out)).mono ?_
 rintro e W3 ⟨v_s, v_p, rfl, o_s3, o_p3, b3⟩
 obtain ⟨lo_s, hi_s, lo_p, hi_p, d1_s, d2_s, d3_s, d4_s, d5_s, d6_s, d7_s, oo_s, oo_p⟩ := Sr.pairN o_s3 o_p3 b3.size
 clear o_s3 o_p3
 obtain ⟨ao_s, L_s, cap_s, rfl, _, _⟩ := oo_s.form
 obtain ⟨ao_p, L_p, cap_p, rfl, _, _⟩ := oo_p.form
 have o_s3 : Hid (Own W3 lo_s hi_s 9 (.slice ao_s L_s cap_s) (ss l)) := oo_s
 have o_p3 : Hid (Own W3 lo_p hi_p 5 (.slice ao_p L_p cap_p) (bs b)) := oo_p
 clear oo_s oo_p
 have z3 := b3.size
 have B3 := Ke.b B2 b3
 have r_a3 := Ke.r r_a2 b3
 have r_res3 := Ke.r r_res2 b3
 have r_out3 := Ke.r r_out2 b3
 have c_a3 := Ke.c r_a3
 have c_res3 := Ke.c r_res3
 have c_out3 := Ke.c r_out3
 clear r_a2 c_a2 r_res2 c_res2 r_out2 c_out2
 go_wp2_with (refine wpl_partG rfl 42 _ _ rfl (w.heap.size + 1 + 1) 1 (sc (.slice ao_s L_s cap_s) h (.slice ao_p L_p cap_p) s) rfl rfl [.int .i64 id, .slice none 0 0, .int .i64 0, .string ⟨#[]⟩, .slice none 0 0, .int .i64 0, .int .i64 0, .string ⟨#[]⟩] 44 r_out3.out (Nat.le_of_ble_eq_true rfl) (sizeS _ _ _ _) (oneS _ _ rfl rfl) [.int .i64 id, .slice ao_s L_s cap_s, .int .i64 h.n, .string h.r, .slice ao_p L_p cap_p, .int .i64 s, .int .i64 0, .string ⟨#[]⟩] rfl ?_)
 intro W4 r_out4 g4
 have r_out4 := Ke.h r_out4
 have z4 := g4.size
 have B4 : Hid (Below w.heap.size w W4) := belowGro B3.out g4 B3.out.size (fun k9 h9 => by injection h9 with h9; have := B3.out.size; omega)
 have r_a4 := Ke.s r_a3 g4
 have r_res4 := Ke.s r_res3 g4
 have o_s4 := Ke.t o_s3 r_out3 g4
 have o_p4 := Ke.t o_p3 r_out3 g4
 have c_a4 := Ke.c r_a4
 have c_res4 := Ke.c r_res4
 have c_out4 := Ke.c r_out4
 clear r_a3 c_a3 r_res3 c_res3 o_s3 o_p3
 clear r_out3 c_out3
 clear g4
 go_wp2_with fail
 refine (q2 W4).mono ?_
 rintro e W5 ⟨rfl, b5⟩
 have z5 := b5.size
 have B5 := Ke.b B4 b5
 have r_a5 := Ke.r r_a4 b5
 have r_res5 := Ke.r r_res4 b5
 have r_out5 := Ke.r r_out4 b5
 have o_s5 := Ke.o o_s4 b5
 have o_p5 := Ke.o o_p4 b5
 have c_a5 := Ke.c r_a5
 have c_res5 := Ke.c r_res5
 have c_out5 := Ke.c r_out5
 clear r_a4 c_a4 r_res4 c_res4 r_out4 c_out4 o_s4 o_p4
 go_wp2_with (refine wpl_partG rfl 38 _ _ rfl (w.heap.size + 1 + 1) 6 (hc g) rfl rfl [.int .i64 id, .slice ao_s L_s cap_s, .int .i64 h.n, .string h.r, .slice ao_p L_p cap_p, .int .i64 s, .int .i64 0, .string ⟨#[]⟩] 44 r_out5.out (Nat.le_of_ble_eq_true rfl) (sizeH _) (oneH _) [.int .i64 id, .slice ao_s L_s cap_s, .int .i64 h.n, .string h.r, .slice ao_p L_p cap_p, .int .i64 s, .int .i64 g.n, .string g.r] rfl ?_)
 intro W6 r_out6 g6
 have r_out6 := Ke.h r_out6
 have z6 := g6.size
 have B6 : Hid (Below w.heap.size w W6) := belowGro B5.out g6 B5.out.size (fun k9 h9 => by injection h9 with h9; have := B5.out.size; omega)
 have r_a6 := Ke.s r_a5 g6
 have r_res6 := Ke.s r_res5 g6
 have o_s6 := Ke.t o_s5 r_out5 g6
 have o_p6 := Ke.t o_p5 r_out5 g6
 have c_a6 := Ke.c r_a6
 have c_res6 := Ke.c r_res6
 have c_out6 := Ke.c r_out6
 clear r_a5 c_a5 r_res5 c_res5 o_s5 o_p5
 clear r_out5 c_out5
 clear g6
 go_wp2_with (first | (refine wpList_load_row rfl 44 _ rfl (w.heap.size + 1 + 1) rfl 44 (mq id (.slice ao_s L_s cap_s) h (.slice ao_p L_p cap_p) s g) (0, 0) _ r_out6.out Tryz.underlying44 rfl (sizeQ _ _ _ _ _ _) ?_) | (refine wpList_store_row rfl 44 _ _ rfl (w.heap.size + 1) (mq id (.slice ao_s L_s cap_s) h (.slice ao_p L_p cap_p) s g) rfl rfl 44 _ r_res6.out (sizeQ _ _ _ _ _ _) rfl (oneQ _ _ _ _ rfl rfl) ?_))
 refine bodyPost_ret (v := .agg (mq id (.slice ao_s L_s cap_s) h (.slice ao_p L_p cap_p) s g)) (results_cell_row rfl _ _ (w.heap.size + 1) 44 _ (0, 0) _ rfl (setRow_heap _ _ _ _ _ (0, 0) r_res6.out) Tryz.underlying44 rfl (sizeQ _ _ _ _ _ _)) rfl ⟨_, _, rfl, (Own.setRow o_s6.out _ (by omega)).mono (by omega) (by rw [size_setRow]; omega), (Own.setRow o_p6.out _ (by omega)).mono (by omega) (by rw [size_setRow]; omega), below_setRow B6.out (by omega) _⟩
set_option maxRecDepth 1000000 in
set_option maxHeartbeats 16000000 in
theorem sz_mirror (w : World) (v vb : Value) (id : Int) (l : List ByteArray) (h : Hd) (b : List Int) (s : Int) (g : Hd) (hs : Sl w v (ss l)) (hb : Sl w vb (bs b)) (hz : ∀ s ∈ l, s.size ≤ 9223372036854775807) (hl : l.length ≤ 9223372036854775807) (hbl : b.length ≤ 9223372036854775807) (hr : h.r.size ≤ 9223372036854775807) (hrg : g.r.size ≤ 9223372036854775807) :
  Calls Tryz.prog 8 #[.agg #[.int .i64 id, v, .int .i64 h.n, .string h.r, vb, .int .i64 s, .int .i64 g.n, .string g.r], .int .i64 1048576] w fun e w' => (∃ r : Int, e = .returned (.int .i64 r) ∧ (r < 0 ∨ (l.length + Puts.tot l ≤ 1048576 ∧ h.r.size ≤ 1048576 ∧ b.length ≤ 1048576 ∧ g.r.size ≤ 1048576 ∧ 0 ≤ r ∧ r ≤ 1048576))) ∧ Below w.heap.size w w' := by
 have HS : Hid (Sl w v (ss l)) := hs
 have HSB : Hid (Sl w vb (bs b)) := hb
 obtain ⟨ao0, cap0, rfl, hc0⟩ := hs.form
 obtain ⟨ao1, cap1, rfl, hc1⟩ := hb.form
 simp only [ss_len, bs_len] at *
 clear hs hb
 have B0 : Hid (Below w.heap.size w w) := Below.refl _ _
 obtain ⟨W1, HW1, b1, y1, hS1, r_a1⟩ := Ke.l1 w #[.int .i64 id, .slice ao0 l.length cap0, .int .i64 h.n, .string h.r, .slice ao1 b.length cap1, .int .i64 s, .int .i64 g.n, .string g.r] 31
 have z1 := b1.size
 have B1 := Ke.b B0 b1
 have c_a1 := Ke.c r_a1
 have q1 := sz_store W1 _ _ l h b s (HS.out.later B1.out) (HSB.out.later B1.out) hz hl hbl hr
 clear hz
 go_enter Tryz.func8, Tryz.ntmps8
 go_wp2_with fail
 rw [HW1.out]
 refine q1.mono ?_
 rintro e W2 ⟨⟨r, rfl, hr0⟩, b2⟩
 clear q1
 have z2 := b2.size
 have B2 := Ke.b B1 b2
 have r_a2 := Ke.r r_a1 b2
 have c_a2 := Ke.c r_a2
 clear r_a1 c_a1
 by_cases h0 : r < 0
 ·
  go_wp2
  go_ret
  exact ⟨⟨-1, rfl, .inl (by omega)⟩, B2.out⟩
 ·
  rcases hr0 with hr0 | ⟨hr1, hr2, hr5, hr3, hr4⟩
  ·
   exact absurd hr0 h0
  have q2 : ∀ W, _ := fun W => sz_head W g r hrg hr3 hr4
  by_cases hb : r - (g.r.size : Int) < 0
  ·
   simp only [if_pos hb] at q2
   go_wp2_with fail
   refine (q2 W2).mono ?_
   rintro e W3 ⟨rfl, b3⟩
   have z3 := b3.size
   have B3 := Ke.b B2 b3
   have r_a3 := Ke.r r_a2 b3
   have c_a3 := Ke.c r_a3
   clear r_a2 c_a2
   go_wp2
   go_ret
   exact ⟨⟨-1, rfl, .inl (by omega)⟩, B3.out⟩
  ·
   simp only [if_neg hb] at q2
   have h5 : g.r.size ≤ 1048576 := by omega
   obtain ⟨m, hm⟩ : ∃ m, r - (g.r.size : Int) = m := ⟨_, rfl⟩
   have hm2 : 0 ≤ m ∧ m ≤ 1048576 := by omega
   rw [hm] at hb
   simp only [hm] at q2
   clear hm
   go_wp2_with fail
   refine (q2 W2).mono ?_
   rintro e W3 ⟨rfl, b3⟩
   have z3 := b3.size
   have B3 := Ke.b B2 b3
   have r_a3 := Ke.r r_a2 b3
   have c_a3 := Ke.c r_a3
   clear r_a2 c_a2
   go_wp2
   go_ret
   exact ⟨⟨m, rfl, .inr ⟨hr1, hr2, hr5, h5, hm2.1, hm2.2⟩⟩, B3.out⟩
set_option maxRecDepth 1000000 in
set_option maxHeartbeats 16000000 in
theorem eq_mirror (w : World) (v1 v2 b1 b2 : Value) (id : Int) (l : List ByteArray) (h : Hd) (b : List Int) (s : Int) (g : Hd) (s1 : Sl w v1 (ss l)) (s2 : Sl w v2 (ss l)) (t1 : Sl w b1 (bs b)) (t2 : Sl w b2 (bs b)) (hl : l.length ≤ 1000000000) (hbl : b.length ≤ 1000000000) :
  Calls Tryz.prog 16 #[.agg #[.int .i64 id, v1, .int .i64 h.n, .string h.r, b1, .int .i64 s, .int .i64 g.n, .string g.r], .agg #[.int .i64 id, v2, .int .i64 h.n, .string h.r, b2, .int .i64 s, .int .i64 g.n, .string g.r]] w fun e w' => e = .returned (.bool true) ∧ Below w.heap.size w w' := by
 have S1 : Hid (Sl w v1 (ss l)) := s1
 have S2 : Hid (Sl w v2 (ss l)) := s2
 have T1 : Hid (Sl w b1 (bs b)) := t1
 have T2 : Hid (Sl w b2 (bs b)) := t2
 obtain ⟨ao0, cap0, rfl, hc0⟩ := s1.form
 obtain ⟨ao1, cap1, rfl, hc1⟩ := t1.form
 obtain ⟨ao2, cap2, rfl, hc2⟩ := s2.form
 obtain ⟨ao3, cap3, rfl, hc3⟩ := t2.form
 simp only [ss_len, bs_len] at *
 have n1 : (id != id) = false := by simp
 have n2 : (id == id) = true := by simp
 clear s1 s2 t1 t2
 have B0 : Hid (Below w.heap.size w w) := Below.refl _ _
 obtain ⟨W1, HW1, b1, y1, hS1, r_a1, r_b1⟩ := Ke.l2 w #[.int .i64 id, .slice ao0 l.length cap0, .int .i64 h.n, .string h.r, .slice ao1 b.length cap1, .int .i64 s, .int .i64 g.n, .string g.r] 44 #[.int .i64 id, .slice ao2 l.length cap2, .int .i64 h.n, .string h.r, .slice ao3 b.length cap3, .int .i64 s, .int .i64 g.n, .string g.r] 44
 have z1 := b1.size
 have B1 := Ke.b B0 b1
 have c_a1 := Ke.c r_a1
 have c_b1 := Ke.c r_b1
 go_enter Tryz.func16, Tryz.ntmps16
 go_wp2_with fail
 rw [HW1.out]
 refine (eq_store W1 _ _ _ _ l h b s (S1.out.later B1.out) (S2.out.later B1.out) (T1.out.later B1.out) (T2.out.later B1.out) (by omega) (by omega)).mono ?_
 rintro e W2 ⟨rfl, b2⟩
 have z2 := b2.size
 have B2 := Ke.b B1 b2
 have r_a2 := Ke.r r_a1 b2
 have r_b2 := Ke.r r_b1 b2
 have c_a2 := Ke.c r_a2
 have c_b2 := Ke.c r_b2
 clear r_a1 c_a1 r_b1 c_b1
 go_wp2_with fail
 refine (eq_head W2 g).mono ?_
 rintro e W3 ⟨rfl, b3⟩
 have z3 := b3.size
 have B3 := Ke.b B2 b3
 have r_a3 := Ke.r r_a2 b3
 have r_b3 := Ke.r r_b2 b3
 have c_a3 := Ke.c r_a3
 have c_b3 := Ke.c r_b3
 clear r_a2 c_a2 r_b2 c_b2
 go_wp2
 go_ret
 exact ⟨rfl, B3.out⟩
set_option maxRecDepth 1000000 in
set_option maxHeartbeats 16000000 in
theorem mark_mirror (w : World) (id : Int) (n : Hd) (g : Hd) (v vb : Value) (s : Int) (l1 h1 l2 h2 : Nat) (l : List ByteArray) (b : List Int) (k0 : Nat) (h9 : Own w l1 h1 9 v (ss l)) (h5 : Own w l2 h2 5 vb (bs b)) (d : h1 ≤ l2 ∨ h2 ≤ l1) (e1 : h1 ≤ w.heap.size) (e2 : h2 ≤ w.heap.size) (hx : l.length ≤ 100000000) (hb : b.length ≤ 100000000) (hk1 : 1 ≤ k0) (hk0 : k0 ≤ 100000000) :
  Calls Tryz.prog 20 #[.agg #[.int .i64 id, v, .int .i64 n.n, .string n.r, vb, .int .i64 s, .int .i64 g.n, .string g.r], .int .i64 (k0 : Int)] w fun e w' => e = .returned (.int .i64 ((k0 + l.length + b.length : Nat) : Int)) ∧ Own w' l1 h1 9 v (ss (Strs.mts k0 l.length)) ∧ Own w' l2 h2 5 vb (bs (marks (k0 + l.length) b.length)) ∧ Apart2 l1 h1 l2 h2 w w' := by
 obtain ⟨ao0, L0, cap0, rfl, _, _⟩ := h9.form
 obtain ⟨ao1, L1, cap1, rfl, _, _⟩ := h5.form
 obtain ⟨W1, HW1, b1, y1, hS1, r1⟩ := Ke.l1 w #[.int .i64 id, .slice ao0 L0 cap0, .int .i64 n.n, .string n.r, .slice ao1 L1 cap1, .int .i64 s, .int .i64 g.n, .string g.r] 44
 have q1 := mark_store W1 n _ _ s l1 h1 l2 h2 l b k0 (h9.later b1 e1) (h5.later b1 e2) d (by omega) (by omega) hx hb hk1 hk0
 have A1 : Hid (Apart l1 h1 w W1) := (Apart.refl l1 h1 w).grow b1
 have c1 := Ke.c r1
 obtain ⟨m2, hm2⟩ : ∃ m : Int, ((k0 + l.length + b.length : Nat) : Int) = m := ⟨_, rfl⟩
 rw [hm2] at q1
 rw [hm2]
 clear hm2 h9 h5
 go_enter Tryz.func20, Tryz.ntmps20
 go_wp2_with fail
 rw [HW1.out]
 refine q1.mono ?_
 rintro e W2 ⟨rfl, o92, o52, p2⟩
 have O92 : Hid _ := o92
 have O52 : Hid _ := o52
 have A2 : Hid (Apart2 l1 h1 l2 h2 w W2) := by
  obtain ⟨m, a, b⟩ := p2
  exact ⟨m, A1.out.trans a, b⟩
 clear q1 r1 c1 A1 o92 o52 p2
 go_wp2
 go_ret
 exact ⟨rfl, O92.out, O52.out, A2.out⟩
set_option maxRecDepth 1000000 in
set_option maxHeartbeats 16000000 in
theorem held_mirror (w : World) (id : Int) (n : Hd) (g : Hd) (v vb : Value) (s : Int) (m j k0 : Nat) (h9 : Sl w v (ss (Strs.mts k0 m))) (h5 : Sl w vb (bs (marks (k0 + m) j))) (hx : m ≤ 100000000) (hb : j ≤ 100000000) (hk1 : 1 ≤ k0) (hk0 : k0 ≤ 100000000) :
  Calls Tryz.prog 24 #[.agg #[.int .i64 id, v, .int .i64 n.n, .string n.r, vb, .int .i64 s, .int .i64 g.n, .string g.r], .int .i64 (k0 : Int)] w fun e w' => e = .returned (.int .i64 ((k0 + m + j : Nat) : Int)) ∧ Below w.heap.size w w' := by
 have S1 : Hid (Sl w v (ss (Strs.mts k0 m))) := h9
 have T1 : Hid (Sl w vb (bs (marks (k0 + m) j))) := h5
 obtain ⟨ao0, cap0, rfl, hc0⟩ := h9.form
 obtain ⟨ao1, cap1, rfl, hc1⟩ := h5.form
 simp only [ss_len, bs_len, Strs.mts_len, marks_len] at *
 have q1 : ∀ W v1 v2, Sl W v1 (ss (Strs.mts k0 m)) → Sl W v2 (bs (marks (k0 + m) j)) → _ := fun W v1 v2 h1 h2 => held_store W n v1 v2 s m j k0 h1 h2 hx hb hk1 hk0
 obtain ⟨m2, hm2⟩ : ∃ m9 : Int, ((k0 + m + j : Nat) : Int) = m9 := ⟨_, rfl⟩
 have d2 : ¬ m2 < 0 := by omega
 simp only [hm2] at q1
 rw [hm2]
 clear hm2 h9 h5
 have B0 : Hid (Below w.heap.size w w) := Below.refl _ _
 obtain ⟨W1, HW1, b1, y1, hS1, r_a1⟩ := Ke.l1 w #[.int .i64 id, .slice ao0 m cap0, .int .i64 n.n, .string n.r, .slice ao1 j cap1, .int .i64 s, .int .i64 g.n, .string g.r] 44
 have z1 := b1.size
 have B1 := Ke.b B0 b1
 have c_a1 := Ke.c r_a1
 go_enter Tryz.func24, Tryz.ntmps24
 go_wp2_with fail
 rw [HW1.out]
 refine (q1 W1 _ _ (S1.out.later B1.out) (T1.out.later B1.out)).mono ?_
 rintro e W2 ⟨rfl, b2⟩
 have z2 := b2.size
 have B2 := Ke.b B1 b2
 have r_a2 := Ke.r r_a1 b2
 have c_a2 := Ke.c r_a2
 clear r_a1 c_a1
 go_wp2
 go_ret
 exact ⟨rfl, B2.out⟩
end Go.Proofs.YtchonoonclllbabGreatDoor.Mi
