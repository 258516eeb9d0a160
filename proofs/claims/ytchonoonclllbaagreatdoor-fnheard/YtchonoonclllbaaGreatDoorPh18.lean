/- Texts in one: MiD. -/
import Derived.Test.YtchonoonclllbaaGreatDoorPh17
set_option maxHeartbeats 16000000
set_option linter.unusedVariables false
set_option linter.unusedSimpArgs false
namespace Go.Proofs.YtchonoonclllbaaGreatDoor.Mi
open Go.RowKit Mem Laws Bytes Sha Tr Draw He Lg Sr Mg
set_option maxRecDepth 1000000 in
theorem draw14 (W0 w : World) (g : Nat) (vb : Value) (xs : List Int) (hs : Sl W0 vb (bs xs)) (hby : Byt xs) (hx : xs.length ≤ 140737488355328) (hB : Below W0.heap.size W0 w) (hg : W0.heap.size ≤ g) (hcu : Cur w g vb xs.length) :
  Calls Tryz.prog 57 #[.pointer (some ⟨g, 0, none⟩)] w fun e w' => ∃ (all : List ByteArray) (t : List Hd) (m : Mr) (v u vt va : Value), e = .returned (.tuple #[.agg #[.int .i64 m.id, v, .int .i64 m.st.h.n, .string m.st.h.r, u, .int .i64 m.st.s, .int .i64 m.b.n, .string m.b.r], vt, va]) ∧ D14 all t m ∧ t.length ≤ 10 ∧ (∀ x ∈ t, x.r.size ≤ 32) ∧ Own w' w.heap.size w'.heap.size 9 v (ss m.st.l) ∧ Own w' w.heap.size w'.heap.size 5 u (bs m.st.b) ∧ Own w' w.heap.size w'.heap.size 9 va (ss all) ∧ Oh w' w.heap.size w'.heap.size vt t ∧ Drawn W0 w g vb xs w' := by
 have HSW : Hid (Sl W0 vb (bs xs)) := hs
 have hgw := hcu.lt
 clear hs
 have B0 : Hid (Apart g (g + 1) w w) := Apart.refl _ _ _
 have cu0 : Hid (Cur w (g) vb xs.length) := hcu
 have bw0 : Hid (Below W0.heap.size W0 w) := hB
 obtain ⟨W1, HW1, b1, y1, hS1, r_res1⟩ := Ke.l1 w #[.int .i64 0, .slice none 0 0, .int .i64 0, .string ⟨#[]⟩, .slice none 0 0, .int .i64 0, .int .i64 0, .string ⟨#[]⟩] 32
 have z1 := b1.size
 have B1 := Kd.B B0 b1
 have cu1 := Kd.c cu0 b1
 have bw1 := Ke.b bw0 b1
 clear cu0 bw0
 go_enter Tryz.func57, Tryz.ntmps57
 go_wp2_with fail
 rw [HW1.out]
 refine (draw12t W0 W1 g _ xs HSW.out hby hx bw1.out hg cu1.out).mono ?_
 rintro e W2 ⟨st, all, t, v_v, v_u, v_a, v_t, rfl, hD, htab, hA1, hA9, hAz, ht1, ht9, htz, o_v2, o_u2, o_a2, o_t2, d2⟩
 have z2 := d2.apart.size
 have B2 := Kd.D B1 d2
 have cu2 := Kd.e d2
 have bw2 := Kd.f d2
 have r_res2 := Kd.r r_res1 d2
 clear r_res1
 clear cu1 bw1 d2
 obtain ⟨ao_v, L_v, cap_v, rfl, _, _⟩ := Mem.Own.form o_v2
 have o_v2 : Hid (Own W2 W1.heap.size W2.heap.size 9 (.slice ao_v L_v cap_v) (ss st.l)) := o_v2
 obtain ⟨ao_u, L_u, cap_u, rfl, _, _⟩ := Mem.Own.form o_u2
 have o_u2 : Hid (Own W2 W1.heap.size W2.heap.size 5 (.slice ao_u L_u cap_u) (bs st.b)) := o_u2
 obtain ⟨ao_a, L_a, cap_a, rfl, _, _⟩ := Mem.Own.form o_a2
 have o_a2 : Hid (Own W2 W1.heap.size W2.heap.size 9 (.slice ao_a L_a cap_a) (ss all)) := o_a2
 obtain ⟨ao_t, cap_t, rfl, _⟩ := (Oh.sh o_t2).form
 have f_t2 : Hid (Oht W2 W1.heap.size W2.heap.size (.slice ao_t t.length cap_t) t) := ⟨o_t2, Nat.le_refl _⟩
 clear o_t2
 have HDD : Hid (Dsq all t 0 st) := hD
 have HTAB : Hid (Tab all t) := htab
 have HAZ : Hid (∀ s ∈ all, s.size ≤ 3) := hAz
 have HTZ : Hid (∀ x ∈ t, x.r.size ≤ 32) := htz
 clear hD htab hAz htz
 obtain ⟨W3, HW3, b3, y3, hS3, r_s3⟩ := Ke.l1 W2 #[.slice ao_v L_v cap_v, .int .i64 st.h.n, .string st.h.r, .slice ao_u L_u cap_u, .int .i64 st.s] 30
 have z3 := b3.size
 have B3 := Kd.B B2 b3
 have r_res3 := Ke.r r_res2 b3
 have o_v3 := Ke.o o_v2 b3
 have o_u3 := Ke.o o_u2 b3
 have o_a3 := Ke.o o_a2 b3
 have c_res3 := Ke.c r_res3
 have c_s3 := Ke.c r_s3
 clear r_res2 o_v2 o_u2 o_a2
 have f_t3 := Ke.h (Oht.later f_t2.out b3)
 clear f_t2
 have cu3 := Kd.c cu2 b3
 have bw3 := Ke.b bw2 b3
 clear cu2 bw2
 go_upto_region 2 with fail
 rw [HW3.out]
 go_cut [8] (fun s8 wx => ∃ (g_x : Nat) (y : Int), s8 = (.pointer (some ⟨g_x, 0, none⟩)) ∧ 0 ≤ y ∧ y < 4 ∧ Apart g (g + 1) w wx ∧ W3.heap.size ≤ wx.heap.size ∧ W3.heap.size ≤ g_x ∧ g_x < wx.heap.size ∧ Cur wx (g) vb xs.length ∧ Below W0.heap.size W0 wx ∧ wx.heap[g_x]? = some (.cells #[.int .i64 y, .slice ao_v L_v cap_v, .int .i64 st.h.n, .string st.h.r, .slice ao_u L_u cap_u, .int .i64 st.s, .int .i64 st.h.n, .string st.h.r] 32 (0, 0)) ∧ wx.heap[w.heap.size]? = some (.cells #[.int .i64 0, .slice none 0 0, .int .i64 0, .string ⟨#[]⟩, .slice none 0 0, .int .i64 0, .int .i64 0, .string ⟨#[]⟩] 32 (0, 0)) ∧ wx.heap[W2.heap.size]? = some (.cells #[.slice ao_v L_v cap_v, .int .i64 st.h.n, .string st.h.r, .slice ao_u L_u cap_u, .int .i64 st.s] 30 (0, 0)) ∧ Own wx (W1.heap.size) (W2.heap.size) 9 (.slice ao_v L_v cap_v) (ss st.l) ∧ Own wx (W1.heap.size) (W2.heap.size) 5 (.slice ao_u L_u cap_u) (bs st.b) ∧ Own wx (W1.heap.size) (W2.heap.size) 9 (.slice ao_a L_a cap_a) (ss all) ∧ Oht wx W1.heap.size W2.heap.size (.slice ao_t t.length cap_t) t)
 case first =>
  refine wp_region_held_drew (S := fun w' => (∀ j, w'.cell? ⟨W2.heap.size, j, none⟩ = #[.slice ao_v L_v cap_v, .int .i64 st.h.n, .string st.h.r, .slice ao_u L_u cap_u, .int .i64 st.s][j]?) ∧ (∀ j, w'.cell? ⟨w.heap.size, j, none⟩ = #[.int .i64 0, .slice none 0 0, .int .i64 0, .string ⟨#[]⟩, .slice none 0 0, .int .i64 0, .int .i64 0, .string ⟨#[]⟩][j]?)) (by kernel_rfl) ⟨c_s3, c_res3⟩ (fun hHeld => ?_)
  obtain ⟨W4, HW4, b4⟩ := Ke.v W3
  have HHW4 := HW4.out
  rw [HHW4] at hHeld ⊢
  clear HHW4
  have z4 := b4.size
  have B4 := Kd.B B3 b4
  have r_res4 := Ke.r r_res3 b4
  have r_s4 := Ke.r r_s3 b4
  have o_v4 := Ke.o o_v3 b4
  have o_u4 := Ke.o o_u3 b4
  have o_a4 := Ke.o o_a3 b4
  clear r_res3 c_res3 r_s3 c_s3 o_v3 o_u3 o_a3
  have f_t4 := Ke.h (Oht.later f_t3.out b4)
  clear f_t3
  have cu4 := Kd.c cu3 b4
  have bw4 := Ke.b bw3 b4
  clear cu3 bw3
  refine Ke.q 0 ?_; try simp only [Act.put, pq]
  refine Ke.q 2 ?_; try simp only [Act.put, pq]
  refine Ke.q 3 ?_; try simp only [Act.put, pq]
  refine Ke.q 4 ?_; try simp only [Act.put, pq]
  refine Ke.q 5 ?_; try simp only [Act.put, pq]
  refine wpAnyH_ready (rs := [1, 7]) (by kernel_rfl) (by simp) ?_
  refine AllReadyH.cons rfl (fun K hK => ?_) (AllReadyH.cons rfl (fun K hK => ?_) AllReadyH.nil)
  ·go_simp
   refine (below_any W0 W4 g _ xs 4 (by omega) (by omega) HSW.out hby hx bw4.out hg cu4.out).mono ?_
   rintro e W5 ⟨y, rfl, hy0, hy4, d5⟩
   refine hK.out _ _ ⟨(Kd.k hHeld.1 d5 (by omega)), (Kd.k hHeld.2 d5 (by omega))⟩ (fun hHeld => ?_)
   clear hK K
   try simp only [Act.put, pq]
   have z5 := d5.apart.size
   have B5 := Kd.D B4 d5
   have cu5 := Kd.e d5
   have bw5 := Kd.f d5
   have r_res5 := Kd.r r_res4 d5
   have r_s5 := Kd.r r_s4 d5
   have o_v5 := Kd.o o_v4 d5
   have o_u5 := Kd.o o_u4 d5
   have o_a5 := Kd.o o_a4 d5
   have f_t5 := Kd.t f_t4 d5
   clear r_res4 r_s4 o_v4 o_u4 o_a4
   clear cu4 bw4 d5 f_t4
   refine Ke.q 6 ?_; try simp only [Act.put, pq]
   refine Ke.z 7 rfl (fun K hK => ?_)
   go_simp
   refine hK.out _ _ ⟨(Ke.k (W := W5) hHeld.1 ((Below.refl _ _).alloc (Nat.le_refl _) _)), (Ke.k (W := W5) hHeld.2 ((Below.refl _ _).alloc (Nat.le_refl _) _))⟩ (fun hHeld => ?_)
   clear hK K
   try simp only [Act.put, pq]
   obtain ⟨W6, HW6, b6, y6, hS6, r_x6⟩ := Ke.l1 W5 #[.int .i64 0, .slice none 0 0, .int .i64 0, .string ⟨#[]⟩, .slice none 0 0, .int .i64 0, .int .i64 0, .string ⟨#[]⟩] 32
   have HHW6 := HW6.out
   rw [HHW6] at hHeld ⊢
   clear HHW6
   have z6 := b6.size
   have B6 := Kd.B B5 b6
   have r_res6 := Ke.r r_res5 b6
   have r_s6 := Ke.r r_s5 b6
   have o_v6 := Ke.o o_v5 b6
   have o_u6 := Ke.o o_u5 b6
   have o_a6 := Ke.o o_a5 b6
   clear r_res5 r_s5 o_v5 o_u5 o_a5
   have f_t6 := Ke.h (Oht.later f_t5.out b6)
   clear f_t5
   have cu6 := Kd.c cu5 b6
   have bw6 := Ke.b bw5 b6
   clear cu5 bw5
   refine Ke.z 8 rfl (fun K hK => ?_)
   rw [if_pos (by rfl)]
   refine wp_partG 32 _ _ rfl (W5.heap.size) 0 (mq y (.slice ao_v L_v cap_v) st.h (.slice ao_u L_u cap_u) st.s st.h) rfl rfl [.int .i64 0, .slice none 0 0, .int .i64 0, .string ⟨#[]⟩, .slice none 0 0, .int .i64 0, .int .i64 0, .string ⟨#[]⟩] 32 r_x6.out (Nat.le_of_ble_eq_true rfl) (sizeQ _ _ _ _ _ _) (oneQ _ _ _ _ rfl rfl) [.int .i64 y, .slice ao_v L_v cap_v, .int .i64 st.h.n, .string st.h.r, .slice ao_u L_u cap_u, .int .i64 st.s, .int .i64 st.h.n, .string st.h.r] rfl ?_
   intro W7 r_x7 g7
   refine hK.out _ _ ⟨(Ke.g hHeld.1 g7 (by show some (W5.heap.size) ≠ some (W2.heap.size); intro h9; injection h9 with h9; omega)), (Ke.g hHeld.2 g7 (by show some (W5.heap.size) ≠ some (w.heap.size); intro h9; injection h9 with h9; omega))⟩ (fun hHeld => ?_)
   clear hK K
   try simp only [Act.put, pq]
   have f_t7 := Ke.h (Oht.gro f_t6.out g7 (fun k9 h9 => by injection h9 with h9; omega))
   have cu7 := Ke.h (cu6.out.gro g7 (fun h9 => by injection h9 with h9; omega))
   have bw7 := Ke.i bw6 g7
   clear cu6 bw6
   have r_x7 : Hid (W7.heap[W5.heap.size]? = some (.cells #[.int .i64 y, .slice ao_v L_v cap_v, .int .i64 st.h.n, .string st.h.r, .slice ao_u L_u cap_u, .int .i64 st.s, .int .i64 st.h.n, .string st.h.r] 32 (0, 0))) := r_x7
   have z7 := g7.size
   have B7 : Hid (Apart g (g + 1) w W7) := Apart.gro B6.out g7 (fun k9 h9 => by injection h9 with h9; have := B6.out.size; omega)
   have r_res7 := Ke.s r_res6 g7
   have r_s7 := Ke.s r_s6 g7
   have o_v7 := Ke.t o_v6 r_x6 g7
   have o_u7 := Ke.t o_u6 r_x6 g7
   have o_a7 := Ke.t o_a6 r_x6 g7
   clear r_res6 r_s6 o_v6 o_u6 o_a6
   clear r_x6
   clear f_t6
   clear g7
   refine wpAnyH_done (by kernel_rfl) ?_ _
   clear hHeld
   go_wp2_with fail
   go_meet
   exact ⟨W5.heap.size, y, rfl, hy0, hy4, B7.out, by omega, by omega, (Array.getElem?_eq_some_iff.1 r_x7.out).1, cu7.out, bw7.out, r_x7.out, r_res7.out, r_s7.out, o_v7.out, o_u7.out, o_a7.out, f_t7.out⟩
  ·go_simp
   refine hK.out _ _ ⟨(Ke.k (W := W4) hHeld.1 ((Below.refl _ _).alloc (Nat.le_refl _) _)), (Ke.k (W := W4) hHeld.2 ((Below.refl _ _).alloc (Nat.le_refl _) _))⟩ (fun hHeld => ?_)
   clear hK K
   try simp only [Act.put, pq]
   obtain ⟨W5, HW5, b5, y5, hS5, r_x5⟩ := Ke.l1 W4 #[.int .i64 0, .slice none 0 0, .int .i64 0, .string ⟨#[]⟩, .slice none 0 0, .int .i64 0, .int .i64 0, .string ⟨#[]⟩] 32
   have HHW5 := HW5.out
   rw [HHW5] at hHeld ⊢
   clear HHW5
   have z5 := b5.size
   have B5 := Kd.B B4 b5
   have r_res5 := Ke.r r_res4 b5
   have r_s5 := Ke.r r_s4 b5
   have o_v5 := Ke.o o_v4 b5
   have o_u5 := Ke.o o_u4 b5
   have o_a5 := Ke.o o_a4 b5
   clear r_res4 r_s4 o_v4 o_u4 o_a4
   have f_t5 := Ke.h (Oht.later f_t4.out b5)
   clear f_t4
   have cu5 := Kd.c cu4 b5
   have bw5 := Ke.b bw4 b5
   clear cu4 bw4
   refine Ke.z 1 rfl (fun K hK => ?_)
   go_simp
   refine (below_any W0 W5 g _ xs 4 (by omega) (by omega) HSW.out hby hx bw5.out hg cu5.out).mono ?_
   rintro e W6 ⟨y, rfl, hy0, hy4, d6⟩
   refine hK.out _ _ ⟨(Kd.k hHeld.1 d6 (by omega)), (Kd.k hHeld.2 d6 (by omega))⟩ (fun hHeld => ?_)
   clear hK K
   try simp only [Act.put, pq]
   have z6 := d6.apart.size
   have B6 := Kd.D B5 d6
   have cu6 := Kd.e d6
   have bw6 := Kd.f d6
   have r_res6 := Kd.r r_res5 d6
   have r_s6 := Kd.r r_s5 d6
   have r_x6 := Kd.r r_x5 d6
   have o_v6 := Kd.o o_v5 d6
   have o_u6 := Kd.o o_u5 d6
   have o_a6 := Kd.o o_a5 d6
   have f_t6 := Kd.t f_t5 d6
   clear r_res5 r_s5 r_x5 o_v5 o_u5 o_a5
   clear cu5 bw5 d6 f_t5
   refine Ke.q 6 ?_; try simp only [Act.put, pq]
   refine Ke.z 8 rfl (fun K hK => ?_)
   rw [if_pos (by rfl)]
   refine wp_partG 32 _ _ rfl (W4.heap.size) 0 (mq y (.slice ao_v L_v cap_v) st.h (.slice ao_u L_u cap_u) st.s st.h) rfl rfl [.int .i64 0, .slice none 0 0, .int .i64 0, .string ⟨#[]⟩, .slice none 0 0, .int .i64 0, .int .i64 0, .string ⟨#[]⟩] 32 r_x6.out (Nat.le_of_ble_eq_true rfl) (sizeQ _ _ _ _ _ _) (oneQ _ _ _ _ rfl rfl) [.int .i64 y, .slice ao_v L_v cap_v, .int .i64 st.h.n, .string st.h.r, .slice ao_u L_u cap_u, .int .i64 st.s, .int .i64 st.h.n, .string st.h.r] rfl ?_
   intro W7 r_x7 g7
   refine hK.out _ _ ⟨(Ke.g hHeld.1 g7 (by show some (W4.heap.size) ≠ some (W2.heap.size); intro h9; injection h9 with h9; omega)), (Ke.g hHeld.2 g7 (by show some (W4.heap.size) ≠ some (w.heap.size); intro h9; injection h9 with h9; omega))⟩ (fun hHeld => ?_)
   clear hK K
   try simp only [Act.put, pq]
   have f_t7 := Ke.h (Oht.gro f_t6.out g7 (fun k9 h9 => by injection h9 with h9; omega))
   have cu7 := Ke.h (cu6.out.gro g7 (fun h9 => by injection h9 with h9; omega))
   have bw7 := Ke.i bw6 g7
   clear cu6 bw6
   have r_x7 : Hid (W7.heap[W4.heap.size]? = some (.cells #[.int .i64 y, .slice ao_v L_v cap_v, .int .i64 st.h.n, .string st.h.r, .slice ao_u L_u cap_u, .int .i64 st.s, .int .i64 st.h.n, .string st.h.r] 32 (0, 0))) := r_x7
   have z7 := g7.size
   have B7 : Hid (Apart g (g + 1) w W7) := Apart.gro B6.out g7 (fun k9 h9 => by injection h9 with h9; have := B6.out.size; omega)
   have r_res7 := Ke.s r_res6 g7
   have r_s7 := Ke.s r_s6 g7
   have o_v7 := Ke.t o_v6 r_x6 g7
   have o_u7 := Ke.t o_u6 r_x6 g7
   have o_a7 := Ke.t o_a6 r_x6 g7
   clear r_res6 r_s6 o_v6 o_u6 o_a6
   clear r_x6
   clear f_t6
   clear g7
   refine wpAnyH_done (by kernel_rfl) ?_ _
   clear hHeld
   go_wp2_with fail
   go_meet
   exact ⟨W4.heap.size, y, rfl, hy0, hy4, B7.out, by omega, by omega, (Array.getElem?_eq_some_iff.1 r_x7.out).1, cu7.out, bw7.out, r_x7.out, r_res7.out, r_s7.out, o_v7.out, o_u7.out, o_a7.out, f_t7.out⟩
 case rest =>
 obtain ⟨g_x, y, rfl, hy0, hy4, B4, z4, hg1_x, hg2_x, cu4, bw4, r_x4, r_res4, r_s4, o_v4, o_u4, o_a4, f_t4⟩ := hcut
 revert B4 z4 hg1_x hg2_x cu4 bw4 r_x4 r_res4 r_s4 o_v4 o_u4 o_a4 f_t4
 generalize wc = W4
 intro B4 z4 hg1_x hg2_x cu4 bw4 r_x4 r_res4 r_s4 o_v4 o_u4 o_a4 f_t4
 have B4 := Ke.h B4
 have cu4 := Ke.h cu4
 have bw4 := Ke.h bw4
 have r_x4 := Ke.h r_x4
 have r_res4 := Ke.h r_res4
 have r_s4 := Ke.h r_s4
 have o_v4 := Ke.h o_v4
 have o_u4 := Ke.h o_u4
 have o_a4 := Ke.h o_a4
 have f_t4 := Ke.h f_t4
 clear r_res3 c_res3 r_s3 c_s3 o_v3 o_u3 o_a3 f_t3 cu3 bw3
 clear r_s4
 go_wp2_with fail
 refine (once10 W0 W4 g _ xs 2 (by omega) (by omega) HSW.out hby hx bw4.out hg cu4.out).mono ?_
 rintro e W5 ⟨bb, rfl, d5⟩
 have z5 := d5.apart.size
 have B5 := Kd.D B4 d5
 have cu5 := Kd.e d5
 have bw5 := Kd.f d5
 have r_res5 := Kd.r r_res4 d5
 have r_x5 := Kd.r r_x4 d5
 have o_v5 := Kd.o o_v4 d5
 have o_u5 := Kd.o o_u4 d5
 have o_a5 := Kd.o o_a4 d5
 have f_t5 := Kd.t f_t4 d5
 clear r_res4 r_x4 o_v4 o_u4 o_a4
 clear cu4 bw4 d5 f_t4
 cases bb
 ·go_wp2_with (first | (refine wpList_load_row rfl 32 _ rfl (g_x) rfl 32 (mq y (.slice ao_v L_v cap_v) st.h (.slice ao_u L_u cap_u) st.s st.h) (0, 0) _ r_x5.out Tryz.underlying32 rfl (sizeQ _ _ _ _ _ _) ?_) | (refine wpl_partG rfl 32 _ _ rfl (w.heap.size) 0 (mq y (.slice ao_v L_v cap_v) st.h (.slice ao_u L_u cap_u) st.s st.h) rfl rfl [.int .i64 0, .slice none 0 0, .int .i64 0, .string ⟨#[]⟩, .slice none 0 0, .int .i64 0, .int .i64 0, .string ⟨#[]⟩] 32 r_res5.out (Nat.le_of_ble_eq_true rfl) (sizeQ _ _ _ _ _ _) (oneQ _ _ _ _ rfl rfl) [.int .i64 y, .slice ao_v L_v cap_v, .int .i64 st.h.n, .string st.h.r, .slice ao_u L_u cap_u, .int .i64 st.s, .int .i64 st.h.n, .string st.h.r] rfl ?_))
  intro W6 r_res6 g6
  have f_t6 := Ke.h (Oht.gro f_t5.out g6 (fun k9 h9 => by injection h9 with h9; omega))
  have cu6 := Ke.h (cu5.out.gro g6 (fun h9 => by injection h9 with h9; omega))
  have bw6 := Ke.i bw5 g6
  clear cu5 bw5
  have r_res6 : Hid (W6.heap[w.heap.size]? = some (.cells #[.int .i64 y, .slice ao_v L_v cap_v, .int .i64 st.h.n, .string st.h.r, .slice ao_u L_u cap_u, .int .i64 st.s, .int .i64 st.h.n, .string st.h.r] 32 (0, 0))) := r_res6
  have z6 := g6.size
  have B6 : Hid (Apart g (g + 1) w W6) := Apart.gro B5.out g6 (fun k9 h9 => by injection h9 with h9; have := B5.out.size; omega)
  have r_x6 := Ke.s r_x5 g6
  have o_v6 := Ke.t o_v5 r_res5 g6
  have o_u6 := Ke.t o_u5 r_res5 g6
  have o_a6 := Ke.t o_a5 r_res5 g6
  clear r_x5 o_v5 o_u5 o_a5
  clear r_res5
  clear f_t5
  go_wp2
  exact bodyPost_ret (res_r2 rfl _ _ (w.heap.size) 32 (mq y (.slice ao_v L_v cap_v) st.h (.slice ao_u L_u cap_u) st.s st.h) (0, 0) _ rfl r_res6.out Tryz.underlying32 rfl (sizeQ _ _ _ _ _ _)) rfl ⟨all, t, ⟨y, st, st.h⟩, .slice ao_v L_v cap_v, .slice ao_u L_u cap_u, .slice ao_t t.length cap_t, .slice ao_a L_a cap_a, rfl, ⟨hy0, hy4, HDD.out, HTAB.out, hA1, hA9, HAZ.out, ht1, .inl rfl⟩, ht9, HTZ.out, Own.mono o_v6.out (by omega) (by omega), Own.mono o_u6.out (by omega) (by omega), Own.mono o_a6.out (by omega) (by omega), Oht.wide f_t6.out (by omega), ⟨cu6.out, B6.out, bw6.out⟩⟩
 ·have q : ∀ W v1, Sh W v1 t → _ := fun W v1 h1 => best_spec W v1 t h1 (by omega)
  obtain ⟨M, hM⟩ : ∃ M, He.best t = M := ⟨_, rfl⟩
  simp only [hM] at q
  have HM : Hid (He.best t = M) := hM
  clear hM
  go_wp2_with fail
  refine (q W5 _ f_t5.out.1.sh).mono ?_
  rintro e W6 ⟨rfl, b6⟩
  have z6 := b6.size
  have B6 := Kd.B B5 b6
  have r_res6 := Ke.r r_res5 b6
  have r_x6 := Ke.r r_x5 b6
  have o_v6 := Ke.o o_v5 b6
  have o_u6 := Ke.o o_u5 b6
  have o_a6 := Ke.o o_a5 b6
  clear r_res5 r_x5 o_v5 o_u5 o_a5
  have f_t6 := Ke.h (Oht.later f_t5.out b6)
  clear f_t5
  have cu6 := Kd.c cu5 b6
  have bw6 := Ke.b bw5 b6
  clear cu5 bw5
  go_wp2_with (refine wpl_partG rfl 26 _ _ rfl (g_x) 6 (hc M) rfl rfl [.int .i64 y, .slice ao_v L_v cap_v, .int .i64 st.h.n, .string st.h.r, .slice ao_u L_u cap_u, .int .i64 st.s, .int .i64 st.h.n, .string st.h.r] 32 r_x6.out (Nat.le_of_ble_eq_true rfl) (sizeH _) (oneH _) [.int .i64 y, .slice ao_v L_v cap_v, .int .i64 st.h.n, .string st.h.r, .slice ao_u L_u cap_u, .int .i64 st.s, .int .i64 M.n, .string M.r] rfl ?_)
  intro W7 r_x7 g7
  have f_t7 := Ke.h (Oht.gro f_t6.out g7 (fun k9 h9 => by injection h9 with h9; omega))
  have cu7 := Ke.h (cu6.out.gro g7 (fun h9 => by injection h9 with h9; omega))
  have bw7 := Ke.i bw6 g7
  clear cu6 bw6
  have r_x7 : Hid (W7.heap[g_x]? = some (.cells #[.int .i64 y, .slice ao_v L_v cap_v, .int .i64 st.h.n, .string st.h.r, .slice ao_u L_u cap_u, .int .i64 st.s, .int .i64 M.n, .string M.r] 32 (0, 0))) := r_x7
  have z7 := g7.size
  have B7 : Hid (Apart g (g + 1) w W7) := Apart.gro B6.out g7 (fun k9 h9 => by injection h9 with h9; have := B6.out.size; omega)
  have r_res7 := Ke.s r_res6 g7
  have o_v7 := Ke.t o_v6 r_x6 g7
  have o_u7 := Ke.t o_u6 r_x6 g7
  have o_a7 := Ke.t o_a6 r_x6 g7
  clear r_res6 o_v6 o_u6 o_a6
  clear r_x6
  clear f_t6
  clear g7
  go_wp2_with (first | (refine wpList_load_row rfl 32 _ rfl (g_x) rfl 32 (mq y (.slice ao_v L_v cap_v) st.h (.slice ao_u L_u cap_u) st.s M) (0, 0) _ r_x7.out Tryz.underlying32 rfl (sizeQ _ _ _ _ _ _) ?_) | (refine wpl_partG rfl 32 _ _ rfl (w.heap.size) 0 (mq y (.slice ao_v L_v cap_v) st.h (.slice ao_u L_u cap_u) st.s M) rfl rfl [.int .i64 0, .slice none 0 0, .int .i64 0, .string ⟨#[]⟩, .slice none 0 0, .int .i64 0, .int .i64 0, .string ⟨#[]⟩] 32 r_res7.out (Nat.le_of_ble_eq_true rfl) (sizeQ _ _ _ _ _ _) (oneQ _ _ _ _ rfl rfl) [.int .i64 y, .slice ao_v L_v cap_v, .int .i64 st.h.n, .string st.h.r, .slice ao_u L_u cap_u, .int .i64 st.s, .int .i64 M.n, .string M.r] rfl ?_))
  intro W8 r_res8 g8
  have f_t8 := Ke.h (Oht.gro f_t7.out g8 (fun k9 h9 => by injection h9 with h9; omega))
  have cu8 := Ke.h (cu7.out.gro g8 (fun h9 => by injection h9 with h9; omega))
  have bw8 := Ke.i bw7 g8
  clear cu7 bw7
  have r_res8 : Hid (W8.heap[w.heap.size]? = some (.cells #[.int .i64 y, .slice ao_v L_v cap_v, .int .i64 st.h.n, .string st.h.r, .slice ao_u L_u cap_u, .int .i64 st.s, .int .i64 M.n, .string M.r] 32 (0, 0))) := r_res8
  have z8 := g8.size
  have B8 : Hid (Apart g (g + 1) w W8) := Apart.gro B7.out g8 (fun k9 h9 => by injection h9 with h9; have := B7.out.size; omega)
  have o_v8 := Ke.t o_v7 r_res7 g8
  have o_u8 := Ke.t o_u7 r_res7 g8
  have o_a8 := Ke.t o_a7 r_res7 g8
  clear r_x7 o_v7 o_u7 o_a7
  clear r_res7
  clear f_t7
  go_wp2
  exact bodyPost_ret (res_r2 rfl _ _ (w.heap.size) 32 (mq y (.slice ao_v L_v cap_v) st.h (.slice ao_u L_u cap_u) st.s M) (0, 0) _ rfl r_res8.out Tryz.underlying32 rfl (sizeQ _ _ _ _ _ _)) rfl ⟨all, t, ⟨y, st, M⟩, .slice ao_v L_v cap_v, .slice ao_u L_u cap_u, .slice ao_t t.length cap_t, .slice ao_a L_a cap_a, rfl, ⟨hy0, hy4, HDD.out, HTAB.out, hA1, hA9, HAZ.out, ht1, .inr HM.out.symm⟩, ht9, HTZ.out, Own.mono o_v8.out (by omega) (by omega), Own.mono o_u8.out (by omega) (by omega), Own.mono o_a8.out (by omega) (by omega), Oht.wide f_t8.out (by omega), ⟨cu8.out, B8.out, bw8.out⟩⟩
structure A14 (m : Mr) : Prop where
 lo : -1 ≤ m.id
 hi : m.id ≤ 21
 st : Ast m.st
 b : m.b.r.size ≤ 32
theorem D14.any {all : List ByteArray} {t : List Hd} {m : Mr} (h : D14 all t m) : A14 m := by
 refine ⟨by have := h.lo; omega, by have := h.hi; omega, Dst.any h.st.toDst h.a9, ?_⟩
 have := (okH_parts13 (ok_split h.ok.1).2.2.1).2.2
 omega
set_option maxRecDepth 1000000 in
theorem any14 (W0 w : World) (g : Nat) (vb : Value) (xs : List Int) (hs : Sl W0 vb (bs xs)) (hby : Byt xs) (hx : xs.length ≤ 140737488355328) (hB : Below W0.heap.size W0 w) (hg : W0.heap.size ≤ g) (hcu : Cur w g vb xs.length) :
  Calls Tryz.prog 38 #[.pointer (some ⟨g, 0, none⟩)] w fun e w' => ∃ (all : List ByteArray) (t : List Hd) (m : Mr) (v u vt va : Value), e = .returned (.tuple #[.agg #[.int .i64 m.id, v, .int .i64 m.st.h.n, .string m.st.h.r, u, .int .i64 m.st.s, .int .i64 m.b.n, .string m.b.r], vt, va]) ∧ A14 m ∧ 1 ≤ all.length ∧ all.length ≤ 9 ∧ (∀ s ∈ all, s.size ≤ 3) ∧ 1 ≤ t.length ∧ t.length ≤ 10 ∧ (∀ x ∈ t, x.r.size ≤ 32) ∧ Own w' w.heap.size w'.heap.size 9 v (ss m.st.l) ∧ Own w' w.heap.size w'.heap.size 5 u (bs m.st.b) ∧ Own w' w.heap.size w'.heap.size 9 va (ss all) ∧ Oh w' w.heap.size w'.heap.size vt t ∧ Drawn W0 w g vb xs w' := by
 have HSW : Hid (Sl W0 vb (bs xs)) := hs
 have hgw := hcu.lt
 clear hs
 have B0 : Hid (Apart g (g + 1) w w) := Apart.refl _ _ _
 have cu0 : Hid (Cur w (g) vb xs.length) := hcu
 have bw0 : Hid (Below W0.heap.size W0 w) := hB
 obtain ⟨W1, HW1, b1, y1, hS1, r_res1⟩ := Ke.l1 w #[.int .i64 0, .slice none 0 0, .int .i64 0, .string ⟨#[]⟩, .slice none 0 0, .int .i64 0, .int .i64 0, .string ⟨#[]⟩] 32
 have z1 := b1.size
 have B1 := Kd.B B0 b1
 have cu1 := Kd.c cu0 b1
 have bw1 := Ke.b bw0 b1
 clear cu0 bw0
 go_enter Tryz.func38, Tryz.ntmps38
 go_wp2_with fail
 rw [HW1.out]
 refine (draw14 W0 W1 g _ xs HSW.out hby hx bw1.out hg cu1.out).mono ?_
 rintro e W2 ⟨all, t, m, v_v, v_u, v_t, v_a, rfl, hD, ht9, htz, o_v2, o_u2, o_a2, o_t2, d2⟩
 have z2 := d2.apart.size
 have B2 := Kd.D B1 d2
 have cu2 := Kd.e d2
 have bw2 := Kd.f d2
 have r_res2 := Kd.r r_res1 d2
 clear r_res1
 clear cu1 bw1 d2
 obtain ⟨ao_v, L_v, cap_v, rfl, _, _⟩ := Mem.Own.form o_v2
 have o_v2 : Hid (Own W2 W1.heap.size W2.heap.size 9 (.slice ao_v L_v cap_v) (ss m.st.l)) := o_v2
 obtain ⟨ao_u, L_u, cap_u, rfl, _, _⟩ := Mem.Own.form o_u2
 have o_u2 : Hid (Own W2 W1.heap.size W2.heap.size 5 (.slice ao_u L_u cap_u) (bs m.st.b)) := o_u2
 obtain ⟨ao_a, L_a, cap_a, rfl, _, _⟩ := Mem.Own.form o_a2
 have o_a2 : Hid (Own W2 W1.heap.size W2.heap.size 9 (.slice ao_a L_a cap_a) (ss all)) := o_a2
 obtain ⟨ao_t, cap_t, rfl, _⟩ := (Oh.sh o_t2).form
 have f_t2 : Hid (Oht W2 W1.heap.size W2.heap.size (.slice ao_t t.length cap_t) t) := ⟨o_t2, Nat.le_refl _⟩
 clear o_t2
 have hA1 := hD.a1
 have hA9 := hD.a9
 have ht1 := hD.t1
 have HAZ : Hid (∀ s ∈ all, s.size ≤ 3) := hD.az
 have HTZ : Hid (∀ x ∈ t, x.r.size ≤ 32) := htz
 have HA : Hid (A14 m) := hD.any
 clear hD htz
 obtain ⟨W3, HW3, b3, y3, hS3, r_x3⟩ := Ke.l1 W2 #[.int .i64 m.id, .slice ao_v L_v cap_v, .int .i64 m.st.h.n, .string m.st.h.r, .slice ao_u L_u cap_u, .int .i64 m.st.s, .int .i64 m.b.n, .string m.b.r] 32
 have z3 := b3.size
 have B3 := Kd.B B2 b3
 have r_res3 := Ke.r r_res2 b3
 have o_v3 := Ke.o o_v2 b3
 have o_u3 := Ke.o o_u2 b3
 have o_a3 := Ke.o o_a2 b3
 clear r_res2 o_v2 o_u2 o_a2
 have f_t3 := Ke.h (Oht.later f_t2.out b3)
 clear f_t2
 have cu3 := Kd.c cu2 b3
 have bw3 := Ke.b bw2 b3
 clear cu2 bw2
 go_wp2_with fail
 rw [HW3.out]
 refine (below_any W0 W3 g _ xs 12 (by omega) (by omega) HSW.out hby hx bw3.out hg cu3.out).mono ?_
 rintro e W4 ⟨y, rfl, hy0, hy12, d4⟩
 have z4 := d4.apart.size
 have B4 := Kd.D B3 d4
 have cu4 := Kd.e d4
 have bw4 := Kd.f d4
 have r_res4 := Kd.r r_res3 d4
 have r_x4 := Kd.r r_x3 d4
 have o_v4 := Kd.o o_v3 d4
 have o_u4 := Kd.o o_u3 d4
 have o_a4 := Kd.o o_a3 d4
 have f_t4 := Kd.t f_t3 d4
 clear r_res3 r_x3 o_v3 o_u3 o_a3
 clear cu3 bw3 d4 f_t3
 by_cases hy0a : y = 0
 ·subst hy0a
  obtain ⟨W5, HW5, b5, y5, hS5, r_li5⟩ := Ke.l1 W4 #[.int .i64 (-1), .int .i64 21, .int .i64 20] 3
  have z5 := b5.size
  have B5 := Kd.B B4 b5
  have r_res5 := Ke.r r_res4 b5
  have r_x5 := Ke.r r_x4 b5
  have o_v5 := Ke.o o_v4 b5
  have o_u5 := Ke.o o_u4 b5
  have o_a5 := Ke.o o_a4 b5
  clear r_res4 r_x4 o_v4 o_u4 o_a4
  have f_t5 := Ke.h (Oht.later f_t4.out b5)
  clear f_t4
  have cu5 := Kd.c cu4 b5
  have bw5 := Ke.b bw4 b5
  clear cu4 bw4
  go_wp2_with fail
  rw [HW5.out]
  refine (int_any W0 W5 g _ xs (W4.heap.size) [-1, 21, 20] r_li5.out (by omega) (by simp) (by simp) HSW.out hby hx bw5.out hg cu5.out).mono ?_
  rintro e W6 ⟨i, rfl, him, d6⟩
  have z6 := d6.apart.size
  have B6 := Kd.D B5 d6
  have cu6 := Kd.e d6
  have bw6 := Kd.f d6
  have r_res6 := Kd.r r_res5 d6
  have r_x6 := Kd.r r_x5 d6
  have o_v6 := Kd.o o_v5 d6
  have o_u6 := Kd.o o_u5 d6
  have o_a6 := Kd.o o_a5 d6
  have f_t6 := Kd.t f_t5 d6
  clear r_res5 r_x5 r_li5 o_v5 o_u5 o_a5
  clear cu5 bw5 d6 f_t5
  have hib : -1 ≤ i ∧ i ≤ 21 := by simp at him; omega
  clear him
  go_wp2_with (refine wpl_oneG rfl 3 _ _ rfl (W2.heap.size) 0 (.int .i64 i) rfl rfl [.int .i64 m.id, .slice ao_v L_v cap_v, .int .i64 m.st.h.n, .string m.st.h.r, .slice ao_u L_u cap_u, .int .i64 m.st.s, .int .i64 m.b.n, .string m.b.r] 32 r_x6.out (Nat.le_of_ble_eq_true rfl) (by kernel_rfl) rfl [.int .i64 i, .slice ao_v L_v cap_v, .int .i64 m.st.h.n, .string m.st.h.r, .slice ao_u L_u cap_u, .int .i64 m.st.s, .int .i64 m.b.n, .string m.b.r] rfl ?_)
  intro W7 r_x7 g7
  have f_t7 := Ke.h (Oht.gro f_t6.out g7 (fun k9 h9 => by injection h9 with h9; omega))
  have cu7 := Ke.h (cu6.out.gro g7 (fun h9 => by injection h9 with h9; omega))
  have bw7 := Ke.i bw6 g7
  clear cu6 bw6
  have r_x7 : Hid (W7.heap[W2.heap.size]? = some (.cells #[.int .i64 i, .slice ao_v L_v cap_v, .int .i64 m.st.h.n, .string m.st.h.r, .slice ao_u L_u cap_u, .int .i64 m.st.s, .int .i64 m.b.n, .string m.b.r] 32 (0, 0))) := r_x7
  have z7 := g7.size
  have B7 : Hid (Apart g (g + 1) w W7) := Apart.gro B6.out g7 (fun k9 h9 => by injection h9 with h9; have := B6.out.size; omega)
  have r_res7 := Ke.s r_res6 g7
  have o_v7 := Ke.t o_v6 r_x6 g7
  have o_u7 := Ke.t o_u6 r_x6 g7
  have o_a7 := Ke.t o_a6 r_x6 g7
  clear r_res6 o_v6 o_u6 o_a6
  clear r_x6
  clear f_t6
  clear g7
  go_wp2_with (first | (refine wpList_load_row rfl 32 _ rfl (W2.heap.size) rfl 32 (mq i (.slice ao_v L_v cap_v) (m.st).h (.slice ao_u L_u cap_u) (m.st).s m.b) (0, 0) _ r_x7.out Tryz.underlying32 rfl (sizeQ _ _ _ _ _ _) ?_) | (refine wpl_partG rfl 32 _ _ rfl (w.heap.size) 0 (mq i (.slice ao_v L_v cap_v) (m.st).h (.slice ao_u L_u cap_u) (m.st).s m.b) rfl rfl [.int .i64 0, .slice none 0 0, .int .i64 0, .string ⟨#[]⟩, .slice none 0 0, .int .i64 0, .int .i64 0, .string ⟨#[]⟩] 32 r_res7.out (Nat.le_of_ble_eq_true rfl) (sizeQ _ _ _ _ _ _) (oneQ _ _ _ _ rfl rfl) [.int .i64 i, .slice ao_v L_v cap_v, .int .i64 m.st.h.n, .string m.st.h.r, .slice ao_u L_u cap_u, .int .i64 m.st.s, .int .i64 m.b.n, .string m.b.r] rfl ?_))
  intro W8 r_res8 g8
  have f_t8 := Ke.h (Oht.gro f_t7.out g8 (fun k9 h9 => by injection h9 with h9; omega))
  have cu8 := Ke.h (cu7.out.gro g8 (fun h9 => by injection h9 with h9; omega))
  have bw8 := Ke.i bw7 g8
  clear cu7 bw7
  have r_res8 : Hid (W8.heap[w.heap.size]? = some (.cells #[.int .i64 i, .slice ao_v L_v cap_v, .int .i64 m.st.h.n, .string m.st.h.r, .slice ao_u L_u cap_u, .int .i64 m.st.s, .int .i64 m.b.n, .string m.b.r] 32 (0, 0))) := r_res8
  have z8 := g8.size
  have B8 : Hid (Apart g (g + 1) w W8) := Apart.gro B7.out g8 (fun k9 h9 => by injection h9 with h9; have := B7.out.size; omega)
  have o_v8 := Ke.t o_v7 r_res7 g8
  have o_u8 := Ke.t o_u7 r_res7 g8
  have o_a8 := Ke.t o_a7 r_res7 g8
  clear r_x7 o_v7 o_u7 o_a7
  clear r_res7
  clear f_t7
  go_wp2
  exact bodyPost_ret (res_r2 rfl _ _ (w.heap.size) 32 (mq i (.slice ao_v L_v cap_v) (m.st).h (.slice ao_u L_u cap_u) (m.st).s m.b) (0, 0) _ rfl r_res8.out Tryz.underlying32 rfl (sizeQ _ _ _ _ _ _)) rfl ⟨all, t, ⟨i, m.st, m.b⟩, .slice ao_v L_v cap_v, .slice ao_u L_u cap_u, .slice ao_t t.length cap_t, .slice ao_a L_a cap_a, rfl, ⟨hib.1, hib.2, HA.out.st, HA.out.b⟩, hA1, hA9, HAZ.out, ht1, ht9, HTZ.out, Own.mono o_v8.out (by omega) (by omega), Own.mono o_u8.out (by omega) (by omega), Own.mono o_a8.out (by omega) (by omega), Oht.wide f_t8.out (by omega), ⟨cu8.out, B8.out, bw8.out⟩⟩
 ·have hy0b : (y == 0) = false := by rw [beq_eq_false_iff_ne]; exact hy0a
  by_cases hy1a : y = 1
  ·subst hy1a
   go_wp2_with fail
   refine (any10 W0 W4 g _ xs HSW.out hby hx bw4.out hg cu4.out).mono ?_
   rintro e W5 ⟨v_n, t2, rfl, hn1, hn2, hnz, o_n5, d5⟩
   have z5 := d5.apart.size
   have B5 := Kd.D B4 d5
   have cu5 := Kd.e d5
   have bw5 := Kd.f d5
   have r_res5 := Kd.r r_res4 d5
   have r_x5 := Kd.r r_x4 d5
   have o_v5 := Kd.o o_v4 d5
   have o_u5 := Kd.o o_u4 d5
   have o_a5 := Kd.o o_a4 d5
   have f_t5 := Kd.t f_t4 d5
   clear r_res4 r_x4 o_v4 o_u4 o_a4
   clear cu4 bw4 d5 f_t4
   obtain ⟨q, t3, rfl⟩ : ∃ q t3, t2 = q :: t3 := by { cases t2 with | nil => simp at hn1 | cons a b => exact ⟨a, b, rfl⟩ }
   obtain ⟨gq, oq, cq, rfl, _, m0, m1⟩ := Sh.at (Oh.sh o_n5) (k := 0) (q := q) rfl
   have hqz : q.r.size ≤ 32 := hnz q (List.mem_cons_self ..)
   clear o_n5 hnz
   rw [show oq + 0 * 2 = oq by omega] at m0 m1
   have hql : 0 < (q :: t3).length := by simp
   obtain ⟨TL, hTL⟩ : ∃ TL, (q :: t3).length = TL := ⟨_, rfl⟩
   simp only [hTL] at *
   clear hTL
   go_wp2_with (refine wpl_partG rfl 26 _ _ rfl (W2.heap.size) 6 (hc q) rfl rfl [.int .i64 m.id, .slice ao_v L_v cap_v, .int .i64 m.st.h.n, .string m.st.h.r, .slice ao_u L_u cap_u, .int .i64 m.st.s, .int .i64 m.b.n, .string m.b.r] 32 r_x5.out (Nat.le_of_ble_eq_true rfl) (sizeH _) (oneH _) [.int .i64 m.id, .slice ao_v L_v cap_v, .int .i64 m.st.h.n, .string m.st.h.r, .slice ao_u L_u cap_u, .int .i64 m.st.s, .int .i64 q.n, .string q.r] rfl ?_)
   intro W6 r_x6 g6
   have f_t6 := Ke.h (Oht.gro f_t5.out g6 (fun k9 h9 => by injection h9 with h9; omega))
   have cu6 := Ke.h (cu5.out.gro g6 (fun h9 => by injection h9 with h9; omega))
   have bw6 := Ke.i bw5 g6
   clear cu5 bw5
   have r_x6 : Hid (W6.heap[W2.heap.size]? = some (.cells #[.int .i64 m.id, .slice ao_v L_v cap_v, .int .i64 m.st.h.n, .string m.st.h.r, .slice ao_u L_u cap_u, .int .i64 m.st.s, .int .i64 q.n, .string q.r] 32 (0, 0))) := r_x6
   have z6 := g6.size
   have B6 : Hid (Apart g (g + 1) w W6) := Apart.gro B5.out g6 (fun k9 h9 => by injection h9 with h9; have := B5.out.size; omega)
   have r_res6 := Ke.s r_res5 g6
   have o_v6 := Ke.t o_v5 r_x5 g6
   have o_u6 := Ke.t o_u5 r_x5 g6
   have o_a6 := Ke.t o_a5 r_x5 g6
   clear r_res5 o_v5 o_u5 o_a5
   clear r_x5
   clear f_t5
   clear g6
   go_wp2_with (first | (refine wpList_load_row rfl 32 _ rfl (W2.heap.size) rfl 32 (mq m.id (.slice ao_v L_v cap_v) (m.st).h (.slice ao_u L_u cap_u) (m.st).s q) (0, 0) _ r_x6.out Tryz.underlying32 rfl (sizeQ _ _ _ _ _ _) ?_) | (refine wpl_partG rfl 32 _ _ rfl (w.heap.size) 0 (mq m.id (.slice ao_v L_v cap_v) (m.st).h (.slice ao_u L_u cap_u) (m.st).s q) rfl rfl [.int .i64 0, .slice none 0 0, .int .i64 0, .string ⟨#[]⟩, .slice none 0 0, .int .i64 0, .int .i64 0, .string ⟨#[]⟩] 32 r_res6.out (Nat.le_of_ble_eq_true rfl) (sizeQ _ _ _ _ _ _) (oneQ _ _ _ _ rfl rfl) [.int .i64 m.id, .slice ao_v L_v cap_v, .int .i64 m.st.h.n, .string m.st.h.r, .slice ao_u L_u cap_u, .int .i64 m.st.s, .int .i64 q.n, .string q.r] rfl ?_))
   intro W7 r_res7 g7
   have f_t7 := Ke.h (Oht.gro f_t6.out g7 (fun k9 h9 => by injection h9 with h9; omega))
   have cu7 := Ke.h (cu6.out.gro g7 (fun h9 => by injection h9 with h9; omega))
   have bw7 := Ke.i bw6 g7
   clear cu6 bw6
   have r_res7 : Hid (W7.heap[w.heap.size]? = some (.cells #[.int .i64 m.id, .slice ao_v L_v cap_v, .int .i64 m.st.h.n, .string m.st.h.r, .slice ao_u L_u cap_u, .int .i64 m.st.s, .int .i64 q.n, .string q.r] 32 (0, 0))) := r_res7
   have z7 := g7.size
   have B7 : Hid (Apart g (g + 1) w W7) := Apart.gro B6.out g7 (fun k9 h9 => by injection h9 with h9; have := B6.out.size; omega)
   have r_x7 := Ke.s r_x6 g7
   have o_v7 := Ke.t o_v6 r_res6 g7
   have o_u7 := Ke.t o_u6 r_res6 g7
   have o_a7 := Ke.t o_a6 r_res6 g7
   clear r_x6 o_v6 o_u6 o_a6
   clear r_res6
   clear f_t6
   go_wp2
   exact bodyPost_ret (res_r2 rfl _ _ (w.heap.size) 32 (mq m.id (.slice ao_v L_v cap_v) (m.st).h (.slice ao_u L_u cap_u) (m.st).s q) (0, 0) _ rfl r_res7.out Tryz.underlying32 rfl (sizeQ _ _ _ _ _ _)) rfl ⟨all, t, ⟨m.id, m.st, q⟩, .slice ao_v L_v cap_v, .slice ao_u L_u cap_u, .slice ao_t t.length cap_t, .slice ao_a L_a cap_a, rfl, ⟨HA.out.lo, HA.out.hi, HA.out.st, hqz⟩, hA1, hA9, HAZ.out, ht1, ht9, HTZ.out, Own.mono o_v7.out (by omega) (by omega), Own.mono o_u7.out (by omega) (by omega), Own.mono o_a7.out (by omega) (by omega), Oht.wide f_t7.out (by omega), ⟨cu7.out, B7.out, bw7.out⟩⟩
  ·have hy1b : (y == 1) = false := by rw [beq_eq_false_iff_ne]; exact hy1a
   by_cases hy2a : y = 2
   ·subst hy2a
    go_wp2_with fail
    refine (any12 W0 W4 g _ xs HSW.out hby hx bw4.out hg cu4.out).mono ?_
    rintro e W5 ⟨st3, v_n, v_p, rfl, hA3, o_n5, o_p5, d5⟩
    have z5 := d5.apart.size
    have B5 := Kd.D B4 d5
    have cu5 := Kd.e d5
    have bw5 := Kd.f d5
    have r_res5 := Kd.r r_res4 d5
    have r_x5 := Kd.r r_x4 d5
    have o_v5 := Kd.o o_v4 d5
    have o_u5 := Kd.o o_u4 d5
    have o_a5 := Kd.o o_a4 d5
    have f_t5 := Kd.t f_t4 d5
    clear r_res4 r_x4 o_v4 o_u4 o_a4
    clear cu4 bw4 d5 f_t4
    obtain ⟨ao_n, L_n, cap_n, rfl, _, _⟩ := Mem.Own.form o_n5
    have o_n5 : Hid (Own W5 W4.heap.size W5.heap.size 9 (.slice ao_n L_n cap_n) (ss st3.l)) := o_n5
    obtain ⟨ao_p, L_p, cap_p, rfl, _, _⟩ := Mem.Own.form o_p5
    have o_p5 : Hid (Own W5 W4.heap.size W5.heap.size 5 (.slice ao_p L_p cap_p) (bs st3.b)) := o_p5
    go_wp2_with (refine wpl_partG rfl 30 _ _ rfl (W2.heap.size) 1 (sc (.slice ao_n L_n cap_n) st3.h (.slice ao_p L_p cap_p) st3.s) rfl rfl [.int .i64 m.id, .slice ao_v L_v cap_v, .int .i64 m.st.h.n, .string m.st.h.r, .slice ao_u L_u cap_u, .int .i64 m.st.s, .int .i64 m.b.n, .string m.b.r] 32 r_x5.out (Nat.le_of_ble_eq_true rfl) (sizeS _ _ _ _) (oneS _ _ rfl rfl) [.int .i64 m.id, .slice ao_n L_n cap_n, .int .i64 st3.h.n, .string st3.h.r, .slice ao_p L_p cap_p, .int .i64 st3.s, .int .i64 m.b.n, .string m.b.r] rfl ?_)
    intro W6 r_x6 g6
    have f_t6 := Ke.h (Oht.gro f_t5.out g6 (fun k9 h9 => by injection h9 with h9; omega))
    have cu6 := Ke.h (cu5.out.gro g6 (fun h9 => by injection h9 with h9; omega))
    have bw6 := Ke.i bw5 g6
    clear cu5 bw5
    have r_x6 : Hid (W6.heap[W2.heap.size]? = some (.cells #[.int .i64 m.id, .slice ao_n L_n cap_n, .int .i64 st3.h.n, .string st3.h.r, .slice ao_p L_p cap_p, .int .i64 st3.s, .int .i64 m.b.n, .string m.b.r] 32 (0, 0))) := r_x6
    have z6 := g6.size
    have B6 : Hid (Apart g (g + 1) w W6) := Apart.gro B5.out g6 (fun k9 h9 => by injection h9 with h9; have := B5.out.size; omega)
    have r_res6 := Ke.s r_res5 g6
    have o_v6 := Ke.t o_v5 r_x5 g6
    have o_u6 := Ke.t o_u5 r_x5 g6
    have o_a6 := Ke.t o_a5 r_x5 g6
    have o_n6 := Ke.t o_n5 r_x5 g6
    have o_p6 := Ke.t o_p5 r_x5 g6
    clear r_res5 o_v5 o_u5 o_a5 o_n5 o_p5
    clear r_x5
    clear f_t5
    clear g6
    go_wp2_with (first | (refine wpList_load_row rfl 32 _ rfl (W2.heap.size) rfl 32 (mq m.id (.slice ao_n L_n cap_n) (st3).h (.slice ao_p L_p cap_p) (st3).s m.b) (0, 0) _ r_x6.out Tryz.underlying32 rfl (sizeQ _ _ _ _ _ _) ?_) | (refine wpl_partG rfl 32 _ _ rfl (w.heap.size) 0 (mq m.id (.slice ao_n L_n cap_n) (st3).h (.slice ao_p L_p cap_p) (st3).s m.b) rfl rfl [.int .i64 0, .slice none 0 0, .int .i64 0, .string ⟨#[]⟩, .slice none 0 0, .int .i64 0, .int .i64 0, .string ⟨#[]⟩] 32 r_res6.out (Nat.le_of_ble_eq_true rfl) (sizeQ _ _ _ _ _ _) (oneQ _ _ _ _ rfl rfl) [.int .i64 m.id, .slice ao_n L_n cap_n, .int .i64 st3.h.n, .string st3.h.r, .slice ao_p L_p cap_p, .int .i64 st3.s, .int .i64 m.b.n, .string m.b.r] rfl ?_))
    intro W7 r_res7 g7
    have f_t7 := Ke.h (Oht.gro f_t6.out g7 (fun k9 h9 => by injection h9 with h9; omega))
    have cu7 := Ke.h (cu6.out.gro g7 (fun h9 => by injection h9 with h9; omega))
    have bw7 := Ke.i bw6 g7
    clear cu6 bw6
    have r_res7 : Hid (W7.heap[w.heap.size]? = some (.cells #[.int .i64 m.id, .slice ao_n L_n cap_n, .int .i64 st3.h.n, .string st3.h.r, .slice ao_p L_p cap_p, .int .i64 st3.s, .int .i64 m.b.n, .string m.b.r] 32 (0, 0))) := r_res7
    have z7 := g7.size
    have B7 : Hid (Apart g (g + 1) w W7) := Apart.gro B6.out g7 (fun k9 h9 => by injection h9 with h9; have := B6.out.size; omega)
    have r_x7 := Ke.s r_x6 g7
    have o_v7 := Ke.t o_v6 r_res6 g7
    have o_u7 := Ke.t o_u6 r_res6 g7
    have o_a7 := Ke.t o_a6 r_res6 g7
    have o_n7 := Ke.t o_n6 r_res6 g7
    have o_p7 := Ke.t o_p6 r_res6 g7
    clear r_x6 o_v6 o_u6 o_a6 o_n6 o_p6
    clear r_res6
    clear f_t6
    go_wp2
    exact bodyPost_ret (res_r2 rfl _ _ (w.heap.size) 32 (mq m.id (.slice ao_n L_n cap_n) (st3).h (.slice ao_p L_p cap_p) (st3).s m.b) (0, 0) _ rfl r_res7.out Tryz.underlying32 rfl (sizeQ _ _ _ _ _ _)) rfl ⟨all, t, ⟨m.id, st3, m.b⟩, .slice ao_n L_n cap_n, .slice ao_p L_p cap_p, .slice ao_t t.length cap_t, .slice ao_a L_a cap_a, rfl, ⟨HA.out.lo, HA.out.hi, hA3, HA.out.b⟩, hA1, hA9, HAZ.out, ht1, ht9, HTZ.out, Own.mono o_n7.out (by omega) (by omega), Own.mono o_p7.out (by omega) (by omega), Own.mono o_a7.out (by omega) (by omega), Oht.wide f_t7.out (by omega), ⟨cu7.out, B7.out, bw7.out⟩⟩
   ·have hy2b : (y == 2) = false := by rw [beq_eq_false_iff_ne]; exact hy2a
    go_wp2_with (first | (refine wpList_load_row rfl 32 _ rfl (W2.heap.size) rfl 32 (mq m.id (.slice ao_v L_v cap_v) (m.st).h (.slice ao_u L_u cap_u) (m.st).s m.b) (0, 0) _ r_x4.out Tryz.underlying32 rfl (sizeQ _ _ _ _ _ _) ?_) | (refine wpl_partG rfl 32 _ _ rfl (w.heap.size) 0 (mq m.id (.slice ao_v L_v cap_v) (m.st).h (.slice ao_u L_u cap_u) (m.st).s m.b) rfl rfl [.int .i64 0, .slice none 0 0, .int .i64 0, .string ⟨#[]⟩, .slice none 0 0, .int .i64 0, .int .i64 0, .string ⟨#[]⟩] 32 r_res4.out (Nat.le_of_ble_eq_true rfl) (sizeQ _ _ _ _ _ _) (oneQ _ _ _ _ rfl rfl) [.int .i64 m.id, .slice ao_v L_v cap_v, .int .i64 m.st.h.n, .string m.st.h.r, .slice ao_u L_u cap_u, .int .i64 m.st.s, .int .i64 m.b.n, .string m.b.r] rfl ?_))
    intro W5 r_res5 g5
    have f_t5 := Ke.h (Oht.gro f_t4.out g5 (fun k9 h9 => by injection h9 with h9; omega))
    have cu5 := Ke.h (cu4.out.gro g5 (fun h9 => by injection h9 with h9; omega))
    have bw5 := Ke.i bw4 g5
    clear cu4 bw4
    have r_res5 : Hid (W5.heap[w.heap.size]? = some (.cells #[.int .i64 m.id, .slice ao_v L_v cap_v, .int .i64 m.st.h.n, .string m.st.h.r, .slice ao_u L_u cap_u, .int .i64 m.st.s, .int .i64 m.b.n, .string m.b.r] 32 (0, 0))) := r_res5
    have z5 := g5.size
    have B5 : Hid (Apart g (g + 1) w W5) := Apart.gro B4.out g5 (fun k9 h9 => by injection h9 with h9; have := B4.out.size; omega)
    have r_x5 := Ke.s r_x4 g5
    have o_v5 := Ke.t o_v4 r_res4 g5
    have o_u5 := Ke.t o_u4 r_res4 g5
    have o_a5 := Ke.t o_a4 r_res4 g5
    clear r_x4 o_v4 o_u4 o_a4
    clear r_res4
    clear f_t4
    go_wp2
    exact bodyPost_ret (res_r2 rfl _ _ (w.heap.size) 32 (mq m.id (.slice ao_v L_v cap_v) (m.st).h (.slice ao_u L_u cap_u) (m.st).s m.b) (0, 0) _ rfl r_res5.out Tryz.underlying32 rfl (sizeQ _ _ _ _ _ _)) rfl ⟨all, t, ⟨m.id, m.st, m.b⟩, .slice ao_v L_v cap_v, .slice ao_u L_u cap_u, .slice ao_t t.length cap_t, .slice ao_a L_a cap_a, rfl, HA.out, hA1, hA9, HAZ.out, ht1, ht9, HTZ.out, Own.mono o_v5.out (by omega) (by omega), Own.mono o_u5.out (by omega) (by omega), Own.mono o_a5.out (by omega) (by omega), Oht.wide f_t5.out (by omega), ⟨cu5.out, B5.out, bw5.out⟩⟩
end Go.Proofs.YtchonoonclllbaaGreatDoor.Mi
