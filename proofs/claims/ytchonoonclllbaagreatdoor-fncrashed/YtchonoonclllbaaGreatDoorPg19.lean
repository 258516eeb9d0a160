/- Texts in one: MiE. -/
import Derived.Test.YtchonoonclllbaaGreatDoorPg14
import Derived.Test.YtchonoonclllbaaGreatDoorPg18
namespace Go.Proofs.YtchonoonclllbaaGreatDoor.Mi
open Go.RowKit Go.Proofs.YtchonoonclllbaaGreatDoor.Mem Go.Proofs.YtchonoonclllbaaGreatDoor.Laws Go.Proofs.YtchonoonclllbaaGreatDoor.Bytes Go.Proofs.YtchonoonclllbaaGreatDoor.Sha Go.Proofs.YtchonoonclllbaaGreatDoor.Tr Go.Proofs.YtchonoonclllbaaGreatDoor.Draw Go.Proofs.YtchonoonclllbaaGreatDoor.He Go.Proofs.YtchonoonclllbaaGreatDoor.Lg Go.Proofs.YtchonoonclllbaaGreatDoor.Sr Go.Proofs.YtchonoonclllbaaGreatDoor.Mg
set_option linter.unusedVariables false
set_option linter.unusedSimpArgs false
set_option maxRecDepth 1000000 in
set_option maxHeartbeats 16000000 in
theorem drawGossip_any (w : World) (vb : Value) (xs : List Int) (hs : Sl w vb (bs xs)) (hby : Byt xs) (hx : xs.length ≤ 140737488355328) :
  Calls Tryz.prog 27 #[vb] w fun e w' => ∃ (m : Mr) (t : List Hd) (tq : Int) (v u vt : Value), e = .returned (.tuple #[.agg #[.int .i64 m.id, v, .int .i64 m.st.h.n, .string m.st.h.r, u, .int .i64 m.st.s, .int .i64 m.b.n, .string m.b.r], vt, .int .i64 tq]) ∧ A14 m ∧ 1 ≤ t.length ∧ t.length ≤ 10 ∧ (∀ x ∈ t, x.r.size ≤ 32) ∧ -1 ≤ tq ∧ tq ≤ 21 ∧ Sl w' v (ss m.st.l) ∧ Sl w' u (bs m.st.b) ∧ Sh w' vt t ∧ Below w.heap.size w w' := by
 have HS : Hid (Sl w vb (bs xs)) := hs
 obtain ⟨aob, capb, rfl, hcb⟩ := hs.form
 clear hs
 have B0 : Hid (Below w.heap.size w w) := Below.refl _ _
 obtain ⟨i9, hi9, hz9a, hz9b, hz9c⟩ := info_parts info9t
 obtain ⟨W1, HW1, b1, y1, hS1, r_res1⟩ := Ke.l1 w #[.int .i64 0, .slice none 0 0, .int .i64 0, .string ⟨#[]⟩, .slice none 0 0, .int .i64 0, .int .i64 0, .string ⟨#[]⟩] 32
 have z1 := b1.size
 have B1 := Ke.b B0 b1
 have c_res1 := Ke.c r_res1
 go_enter Tryz.func27, Tryz.ntmps27
 go_wp2_with fail
 rw [HW1.out]
 refine (new_any W1 _ xs (HS.out.later B1.out) hby hx).mono ?_
 rintro e W2 ⟨rfl, d2⟩
 have hcg : W1.heap.size < W2.heap.size := d2.cur.lt
 have HSW : Hid (Sl W1 (.slice aob (bs xs).length capb) (bs xs)) := (HS.out.later B1.out)
 have cu1 : Hid True := trivial
 have bw1 : Hid True := trivial
 have z2 := d2.apart.size
 have B2 : Hid (Below w.heap.size w W2) := B1.out.trans (d2.below.mono B1.out.size)
 have cu2 := Kd.e d2
 have bw2 := Kd.f d2
 have r_res2 := Kd.r r_res1 d2
 have c_res2 := Ke.c r_res2
 clear r_res1 c_res1
 clear cu1 bw1 d2
 go_wp2_with fail
 refine (any14 W1 W2 (W1.heap.size) _ xs HSW.out hby hx bw2.out (Nat.le_refl _) cu2.out).mono ?_
 rintro e W3 ⟨all, t, m, v_v, v_u, v_t, v_a, rfl, hA, hA1, hA9, hAz, ht1, ht9, htz, o_v3, o_u3, o_a3, o_t3, d3⟩
 have z3 := d3.apart.size
 have B3 : Hid (Below w.heap.size w W3) := B1.out.trans (d3.below.mono B1.out.size)
 have cu3 := Kd.e d3
 have bw3 := Kd.f d3
 have r_res3 := Kd.r r_res2 d3
 have c_res3 := Ke.c r_res3
 clear r_res2 c_res2
 clear cu2 bw2 d3
 obtain ⟨ao_v, L_v, cap_v, rfl, _, _⟩ := Mem.Own.form o_v3
 have o_v3 : Hid (Own W3 W2.heap.size W3.heap.size 9 (.slice ao_v L_v cap_v) (ss m.st.l)) := o_v3
 obtain ⟨ao_u, L_u, cap_u, rfl, _, _⟩ := Mem.Own.form o_u3
 have o_u3 : Hid (Own W3 W2.heap.size W3.heap.size 5 (.slice ao_u L_u cap_u) (bs m.st.b)) := o_u3
 obtain ⟨ao_t, cap_t, rfl, _⟩ := (Oh.sh o_t3).form
 have f_t3 : Hid (Oht W3 W2.heap.size W3.heap.size (.slice ao_t t.length cap_t) t) := ⟨o_t3, Nat.le_refl _⟩
 clear o_t3
 obtain ⟨ao_a, L_a, cap_a, rfl, _, _⟩ := Mem.Own.form o_a3
 clear o_a3
 have HA : Hid (A14 m) := hA
 have HTZ : Hid (∀ x ∈ t, x.r.size ≤ 32) := htz
 have HAZ : Hid (∀ s ∈ all, s.size ≤ 3) := hAz
 clear hA htz hAz
 have a_res3 := Ke.a r_res3
 obtain ⟨W4, HW4, b4, y4, hS4, r_x4⟩ := Ke.l1 W3 #[.int .i64 m.id, .slice ao_v L_v cap_v, .int .i64 m.st.h.n, .string m.st.h.r, .slice ao_u L_u cap_u, .int .i64 m.st.s, .int .i64 m.b.n, .string m.b.r] 32
 have z4 := b4.size
 have B4 := Ke.b B3 b4
 have r_res4 := Ke.r r_res3 b4
 have o_v4 := Ke.o o_v3 b4
 have o_u4 := Ke.o o_u3 b4
 have c_res4 := Ke.c r_res4
 have c_x4 := Ke.c r_x4
 clear r_res3 c_res3 o_v3 o_u3
 have f_t4 := Ke.h (Oht.later f_t3.out b4)
 clear f_t3
 have cu4 := Kd.c cu3 b4
 have bw4 := Ke.b bw3 b4
 clear cu3 bw3
 go_wp2_with fail
 rw [HW4.out]
 clear a_res3
 refine wp_region_held_drew (S := fun w' => (∀ j, w'.cell? ⟨W3.heap.size, j, none⟩ = #[.int .i64 m.id, .slice ao_v L_v cap_v, .int .i64 m.st.h.n, .string m.st.h.r, .slice ao_u L_u cap_u, .int .i64 m.st.s, .int .i64 m.b.n, .string m.b.r][j]?)) (by kernel_rfl) c_x4 (fun hHeld => ?_)
 obtain ⟨W5, HW5, b5⟩ : ∃ X, Hid (W4.drew = X) ∧ Below W4.heap.size W4 X := ⟨_, rfl, Below.drew (Below.refl _ _)⟩
 have HHW5 := HW5.out
 rw [HHW5] at hHeld ⊢
 clear HHW5
 have z5 := b5.size
 have B5 := Ke.b B4 b5
 have r_res5 := Ke.r r_res4 b5
 have r_x5 := Ke.r r_x4 b5
 have o_v5 := Ke.o o_v4 b5
 have o_u5 := Ke.o o_u4 b5
 have c_res5 := Ke.c r_res5
 have c_x5 := Ke.c r_x5
 clear r_res4 c_res4 r_x4 c_x4 o_v4 o_u4
 have f_t5 := Ke.h (Oht.later f_t4.out b5)
 clear f_t4
 have cu5 := Kd.c cu4 b5
 have bw5 := Ke.b bw4 b5
 clear cu4 bw4
 refine Ke.y 0 rfl (fun _ _ _ h => h) ?_
 try simp only [Act.put, pu1, pu2, pu3, pu4, pu5, pu6]
 refine Ke.y 1 rfl (fun _ _ _ h => h) ?_
 try simp only [Act.put, pu1, pu2, pu3, pu4, pu5, pu6]
 refine Ke.y 2 rfl (fun _ _ _ h => h) ?_
 try simp only [Act.put, pu1, pu2, pu3, pu4, pu5, pu6]
 refine Ke.y 3 rfl (fun _ _ _ h => h) ?_
 try simp only [Act.put, pu1, pu2, pu3, pu4, pu5, pu6]
 refine Ke.y 4 rfl (fun _ _ _ h => h) ?_
 try simp only [Act.put, pu1, pu2, pu3, pu4, pu5, pu6]
 refine Ke.z 5 rfl (fun K hK => ?_)
 go_simp
 refine hK.out _ _ (Ke.k (W := W5) hHeld ((Below.refl _ _).alloc (Nat.le_refl _) _)) (fun hHeld => ?_)
 clear hK K
 try simp only [Act.put, pu1, pu2, pu3, pu4, pu5, pu6]
 obtain ⟨W6, HW6, b6, y6, hS6, r_li6⟩ := Ke.l1 W5 #[.int .i64 m.id, .int .i64 4, .int .i64 5, .int .i64 20, .int .i64 21, .int .i64 (-1)] 3
 have HHW6 := HW6.out
 rw [HHW6] at hHeld ⊢
 clear HHW6
 have z6 := b6.size
 have B6 := Ke.b B5 b6
 have r_res6 := Ke.r r_res5 b6
 have r_x6 := Ke.r r_x5 b6
 have o_v6 := Ke.o o_v5 b6
 have o_u6 := Ke.o o_u5 b6
 have c_res6 := Ke.c r_res6
 have c_x6 := Ke.c r_x6
 have c_li6 := Ke.c r_li6
 clear r_res5 c_res5 r_x5 c_x5 o_v5 o_u5
 have f_t6 := Ke.h (Oht.later f_t5.out b6)
 clear f_t5
 have cu6 := Kd.c cu5 b6
 have bw6 := Ke.b bw5 b6
 clear cu5 bw5
 refine Ke.z 6 rfl (fun K hK => ?_)
 go_simp
 refine (int_any W1 W6 (W1.heap.size) _ xs (W5.heap.size) [m.id, 4, 5, 20, 21, -1] r_li6.out (by omega) (by simp) (by simp) HSW.out hby hx bw6.out (Nat.le_refl _) cu6.out).mono ?_
 rintro e W7 ⟨tq, rfl, him, d7⟩
 refine hK.out _ _ (Kd.k hHeld d7 (by omega)) (fun hHeld => ?_)
 clear hK K
 try simp only [Act.put, pu1, pu2, pu3, pu4, pu5, pu6]
 have z7 := d7.apart.size
 have B7 : Hid (Below w.heap.size w W7) := B1.out.trans (d7.below.mono B1.out.size)
 have cu7 := Kd.e d7
 have bw7 := Kd.f d7
 have r_res7 := Kd.r r_res6 d7
 have r_x7 := Kd.r r_x6 d7
 have r_li7 := Kd.r r_li6 d7
 have o_v7 := Kd.o o_v6 d7
 have o_u7 := Kd.o o_u6 d7
 have f_t7 := Kd.t f_t6 d7
 have c_res7 := Ke.c r_res7
 have c_x7 := Ke.c r_x7
 have c_li7 := Ke.c r_li7
 clear r_res6 c_res6 r_x6 c_x6 r_li6 c_li6 o_v6 o_u6
 clear cu6 bw6 d7 f_t6
 have hto : -1 ≤ tq ∧ tq ≤ 21 := by have h8 := HA.out.lo; have h9 := HA.out.hi; simp at him; omega
 clear him
 clear r_li7 c_li7
 clear cu7 bw7
 refine Ke.z 7 rfl (fun K hK => ?_)
 rw [if_pos (by rfl)]
 refine wp_partG 32 _ _ rfl (w.heap.size) 0 (mq m.id (.slice ao_v L_v cap_v) m.st.h (.slice ao_u L_u cap_u) m.st.s m.b) rfl rfl [.int .i64 0, .slice none 0 0, .int .i64 0, .string ⟨#[]⟩, .slice none 0 0, .int .i64 0, .int .i64 0, .string ⟨#[]⟩] 32 r_res7.out (Nat.le_of_ble_eq_true rfl) (sizeQ _ _ _ _ _ _) (oneQ _ _ _ _ rfl rfl) [.int .i64 m.id, .slice ao_v L_v cap_v, .int .i64 m.st.h.n, .string m.st.h.r, .slice ao_u L_u cap_u, .int .i64 m.st.s, .int .i64 m.b.n, .string m.b.r] rfl ?_
 intro W8 r_res8 g8
 refine hK.out _ _ (Ke.g hHeld g8 (by show some (w.heap.size) ≠ some (W3.heap.size); intro h9; injection h9 with h9; omega)) (fun hHeld => ?_)
 clear hK K
 try simp only [Act.put, pu1, pu2, pu3, pu4, pu5, pu6]
 have f_t8 : Hid (Oht W8 W2.heap.size W3.heap.size (.slice ao_t t.length cap_t) t) := Oht.gro f_t7.out g8 (fun k9 h9 => by injection h9 with h9; omega)
 have r_res8 : Hid (W8.heap[w.heap.size]? = some (.cells #[.int .i64 m.id, .slice ao_v L_v cap_v, .int .i64 m.st.h.n, .string m.st.h.r, .slice ao_u L_u cap_u, .int .i64 m.st.s, .int .i64 m.b.n, .string m.b.r] 32 (0, 0))) := r_res8
 have z8 := g8.size
 have B8 : Hid (Below w.heap.size w W8) := belowGro B7.out g8 B7.out.size (fun k9 h9 => by injection h9 with h9; have := B7.out.size; omega)
 have r_x8 := Ke.s r_x7 g8
 have o_v8 := Ke.t o_v7 r_res7 g8
 have o_u8 := Ke.t o_u7 r_res7 g8
 have c_res8 := Ke.c r_res8
 have c_x8 := Ke.c r_x8
 clear r_x7 c_x7 o_v7 o_u7
 clear r_res7 c_res7
 clear f_t7
 clear g8
 refine Ke.y 8 rfl (fun _ _ _ h => h) ?_
 try simp only [Act.put, pu1, pu2, pu3, pu4, pu5, pu6]
 refine Ke.y 9 rfl (fun _ _ _ h => h) ?_
 try simp only [Act.put, pu1, pu2, pu3, pu4, pu5, pu6]
 refine wpAnyH_done (by kernel_rfl) ?_ _
 clear hHeld
 go_wp2
 exact bodyPost_ret (res_r2 rfl _ _ (w.heap.size) 32 (mq m.id (.slice ao_v L_v cap_v) m.st.h (.slice ao_u L_u cap_u) m.st.s m.b) (0, 0) _ rfl r_res8.out Tryz.underlying32 rfl (sizeQ _ _ _ _ _ _)) rfl ⟨m, t, tq, .slice ao_v L_v cap_v, .slice ao_u L_u cap_u, .slice ao_t t.length cap_t, rfl, HA.out, ht1, ht9, HTZ.out, hto.1, hto.2, o_v8.out.sl, o_u8.out.sl, f_t8.out.1.sh, B8.out⟩
set_option maxRecDepth 1000000 in
set_option maxHeartbeats 16000000 in
theorem drawCrashMirror_any (w : World) (vb : Value) (xs : List Int) (hs : Sl w vb (bs xs)) (hby : Byt xs) (hx : xs.length ≤ 140737488355328) :
  Calls Tryz.prog 22 #[vb] w fun e w' => ∃ (m : Mr) (t : List Hd) (tq : Int) (v u vt : Value), e = .returned (.tuple #[.agg #[.int .i64 m.id, v, .int .i64 m.st.h.n, .string m.st.h.r, u, .int .i64 m.st.s, .int .i64 m.b.n, .string m.b.r], vt, .int .i64 tq]) ∧ A14 m ∧ 1 ≤ t.length ∧ t.length ≤ 10 ∧ (∀ x ∈ t, x.r.size ≤ 32) ∧ -1 ≤ tq ∧ tq ≤ 1000 ∧ Sl w' v (ss m.st.l) ∧ Sl w' u (bs m.st.b) ∧ Sh w' vt t ∧ Below w.heap.size w w' := by
 have HS : Hid (Sl w vb (bs xs)) := hs
 obtain ⟨aob, capb, rfl, hcb⟩ := hs.form
 clear hs
 have B0 : Hid (Below w.heap.size w w) := Below.refl _ _
 obtain ⟨i9, hi9, hz9a, hz9b, hz9c⟩ := info_parts info9t
 obtain ⟨W1, HW1, b1, y1, hS1, r_res1⟩ := Ke.l1 w #[.int .i64 0, .slice none 0 0, .int .i64 0, .string ⟨#[]⟩, .slice none 0 0, .int .i64 0, .int .i64 0, .string ⟨#[]⟩] 32
 have z1 := b1.size
 have B1 := Ke.b B0 b1
 have c_res1 := Ke.c r_res1
 go_enter Tryz.func22, Tryz.ntmps22
 go_wp2_with fail
 rw [HW1.out]
 refine (new_any W1 _ xs (HS.out.later B1.out) hby hx).mono ?_
 rintro e W2 ⟨rfl, d2⟩
 have hcg : W1.heap.size < W2.heap.size := d2.cur.lt
 have HSW : Hid (Sl W1 (.slice aob (bs xs).length capb) (bs xs)) := (HS.out.later B1.out)
 have cu1 : Hid True := trivial
 have bw1 : Hid True := trivial
 have z2 := d2.apart.size
 have B2 : Hid (Below w.heap.size w W2) := B1.out.trans (d2.below.mono B1.out.size)
 have cu2 := Kd.e d2
 have bw2 := Kd.f d2
 have r_res2 := Kd.r r_res1 d2
 have c_res2 := Ke.c r_res2
 clear r_res1 c_res1
 clear cu1 bw1 d2
 go_wp2_with fail
 refine (any14 W1 W2 (W1.heap.size) _ xs HSW.out hby hx bw2.out (Nat.le_refl _) cu2.out).mono ?_
 rintro e W3 ⟨all, t, m, v_v, v_u, v_t, v_a, rfl, hA, hA1, hA9, hAz, ht1, ht9, htz, o_v3, o_u3, o_a3, o_t3, d3⟩
 have z3 := d3.apart.size
 have B3 : Hid (Below w.heap.size w W3) := B1.out.trans (d3.below.mono B1.out.size)
 have cu3 := Kd.e d3
 have bw3 := Kd.f d3
 have r_res3 := Kd.r r_res2 d3
 have c_res3 := Ke.c r_res3
 clear r_res2 c_res2
 clear cu2 bw2 d3
 obtain ⟨ao_v, L_v, cap_v, rfl, _, _⟩ := Mem.Own.form o_v3
 have o_v3 : Hid (Own W3 W2.heap.size W3.heap.size 9 (.slice ao_v L_v cap_v) (ss m.st.l)) := o_v3
 obtain ⟨ao_u, L_u, cap_u, rfl, _, _⟩ := Mem.Own.form o_u3
 have o_u3 : Hid (Own W3 W2.heap.size W3.heap.size 5 (.slice ao_u L_u cap_u) (bs m.st.b)) := o_u3
 obtain ⟨ao_t, cap_t, rfl, _⟩ := (Oh.sh o_t3).form
 have f_t3 : Hid (Oht W3 W2.heap.size W3.heap.size (.slice ao_t t.length cap_t) t) := ⟨o_t3, Nat.le_refl _⟩
 clear o_t3
 obtain ⟨ao_a, L_a, cap_a, rfl, _, _⟩ := Mem.Own.form o_a3
 clear o_a3
 have HA : Hid (A14 m) := hA
 have HTZ : Hid (∀ x ∈ t, x.r.size ≤ 32) := htz
 have HAZ : Hid (∀ s ∈ all, s.size ≤ 3) := hAz
 clear hA htz hAz
 have a_res3 := Ke.a r_res3
 obtain ⟨W4, HW4, b4, y4, hS4, r_x4⟩ := Ke.l1 W3 #[.int .i64 m.id, .slice ao_v L_v cap_v, .int .i64 m.st.h.n, .string m.st.h.r, .slice ao_u L_u cap_u, .int .i64 m.st.s, .int .i64 m.b.n, .string m.b.r] 32
 have z4 := b4.size
 have B4 := Ke.b B3 b4
 have r_res4 := Ke.r r_res3 b4
 have o_v4 := Ke.o o_v3 b4
 have o_u4 := Ke.o o_u3 b4
 have c_res4 := Ke.c r_res4
 have c_x4 := Ke.c r_x4
 clear r_res3 c_res3 o_v3 o_u3
 have f_t4 := Ke.h (Oht.later f_t3.out b4)
 clear f_t3
 have cu4 := Kd.c cu3 b4
 have bw4 := Ke.b bw3 b4
 clear cu3 bw3
 go_wp2_with fail
 rw [HW4.out]
 clear a_res3
 refine wp_region_held_drew (S := fun w' => (∀ j, w'.cell? ⟨W3.heap.size, j, none⟩ = #[.int .i64 m.id, .slice ao_v L_v cap_v, .int .i64 m.st.h.n, .string m.st.h.r, .slice ao_u L_u cap_u, .int .i64 m.st.s, .int .i64 m.b.n, .string m.b.r][j]?)) (by kernel_rfl) c_x4 (fun hHeld => ?_)
 obtain ⟨W5, HW5, b5⟩ : ∃ X, Hid (W4.drew = X) ∧ Below W4.heap.size W4 X := ⟨_, rfl, Below.drew (Below.refl _ _)⟩
 have HHW5 := HW5.out
 rw [HHW5] at hHeld ⊢
 clear HHW5
 have z5 := b5.size
 have B5 := Ke.b B4 b5
 have r_res5 := Ke.r r_res4 b5
 have r_x5 := Ke.r r_x4 b5
 have o_v5 := Ke.o o_v4 b5
 have o_u5 := Ke.o o_u4 b5
 have c_res5 := Ke.c r_res5
 have c_x5 := Ke.c r_x5
 clear r_res4 c_res4 r_x4 c_x4 o_v4 o_u4
 have f_t5 := Ke.h (Oht.later f_t4.out b5)
 clear f_t4
 have cu5 := Kd.c cu4 b5
 have bw5 := Ke.b bw4 b5
 clear cu4 bw4
 refine Ke.y 0 rfl (fun _ _ _ h => h) ?_
 try simp only [Act.put, pu1, pu2, pu3, pu4, pu5, pu6]
 refine Ke.y 1 rfl (fun _ _ _ h => h) ?_
 try simp only [Act.put, pu1, pu2, pu3, pu4, pu5, pu6]
 refine Ke.y 2 rfl (fun _ _ _ h => h) ?_
 try simp only [Act.put, pu1, pu2, pu3, pu4, pu5, pu6]
 refine Ke.z 3 rfl (fun K hK => ?_)
 go_simp
 refine hK.out _ _ (Ke.k (W := W5) hHeld ((Below.refl _ _).alloc (Nat.le_refl _) _)) (fun hHeld => ?_)
 clear hK K
 try simp only [Act.put, pu1, pu2, pu3, pu4, pu5, pu6]
 obtain ⟨W6, HW6, b6, y6, hS6, r_li6⟩ := Ke.l1 W5 #[.int .i64 0, .int .i64 1, .int .i64 60, .int .i64 1000, .int .i64 (-1)] 3
 have HHW6 := HW6.out
 rw [HHW6] at hHeld ⊢
 clear HHW6
 have z6 := b6.size
 have B6 := Ke.b B5 b6
 have r_res6 := Ke.r r_res5 b6
 have r_x6 := Ke.r r_x5 b6
 have o_v6 := Ke.o o_v5 b6
 have o_u6 := Ke.o o_u5 b6
 have c_res6 := Ke.c r_res6
 have c_x6 := Ke.c r_x6
 have c_li6 := Ke.c r_li6
 clear r_res5 c_res5 r_x5 c_x5 o_v5 o_u5
 have f_t6 := Ke.h (Oht.later f_t5.out b6)
 clear f_t5
 have cu6 := Kd.c cu5 b6
 have bw6 := Ke.b bw5 b6
 clear cu5 bw5
 refine Ke.z 4 rfl (fun K hK => ?_)
 go_simp
 refine (int_any W1 W6 (W1.heap.size) _ xs (W5.heap.size) [0, 1, 60, 1000, -1] r_li6.out (by omega) (by simp) (by simp) HSW.out hby hx bw6.out (Nat.le_refl _) cu6.out).mono ?_
 rintro e W7 ⟨tq, rfl, him, d7⟩
 refine hK.out _ _ (Kd.k hHeld d7 (by omega)) (fun hHeld => ?_)
 clear hK K
 try simp only [Act.put, pu1, pu2, pu3, pu4, pu5, pu6]
 have z7 := d7.apart.size
 have B7 : Hid (Below w.heap.size w W7) := B1.out.trans (d7.below.mono B1.out.size)
 have cu7 := Kd.e d7
 have bw7 := Kd.f d7
 have r_res7 := Kd.r r_res6 d7
 have r_x7 := Kd.r r_x6 d7
 have r_li7 := Kd.r r_li6 d7
 have o_v7 := Kd.o o_v6 d7
 have o_u7 := Kd.o o_u6 d7
 have f_t7 := Kd.t f_t6 d7
 have c_res7 := Ke.c r_res7
 have c_x7 := Ke.c r_x7
 have c_li7 := Ke.c r_li7
 clear r_res6 c_res6 r_x6 c_x6 r_li6 c_li6 o_v6 o_u6
 clear cu6 bw6 d7 f_t6
 have hto : -1 ≤ tq ∧ tq ≤ 1000 := by have h8 := HA.out.lo; have h9 := HA.out.hi; simp at him; omega
 clear him
 clear r_li7 c_li7
 clear cu7 bw7
 refine Ke.z 5 rfl (fun K hK => ?_)
 rw [if_pos (by rfl)]
 refine wp_partG 32 _ _ rfl (w.heap.size) 0 (mq m.id (.slice ao_v L_v cap_v) m.st.h (.slice ao_u L_u cap_u) m.st.s m.b) rfl rfl [.int .i64 0, .slice none 0 0, .int .i64 0, .string ⟨#[]⟩, .slice none 0 0, .int .i64 0, .int .i64 0, .string ⟨#[]⟩] 32 r_res7.out (Nat.le_of_ble_eq_true rfl) (sizeQ _ _ _ _ _ _) (oneQ _ _ _ _ rfl rfl) [.int .i64 m.id, .slice ao_v L_v cap_v, .int .i64 m.st.h.n, .string m.st.h.r, .slice ao_u L_u cap_u, .int .i64 m.st.s, .int .i64 m.b.n, .string m.b.r] rfl ?_
 intro W8 r_res8 g8
 refine hK.out _ _ (Ke.g hHeld g8 (by show some (w.heap.size) ≠ some (W3.heap.size); intro h9; injection h9 with h9; omega)) (fun hHeld => ?_)
 clear hK K
 try simp only [Act.put, pu1, pu2, pu3, pu4, pu5, pu6]
 have f_t8 : Hid (Oht W8 W2.heap.size W3.heap.size (.slice ao_t t.length cap_t) t) := Oht.gro f_t7.out g8 (fun k9 h9 => by injection h9 with h9; omega)
 have r_res8 : Hid (W8.heap[w.heap.size]? = some (.cells #[.int .i64 m.id, .slice ao_v L_v cap_v, .int .i64 m.st.h.n, .string m.st.h.r, .slice ao_u L_u cap_u, .int .i64 m.st.s, .int .i64 m.b.n, .string m.b.r] 32 (0, 0))) := r_res8
 have z8 := g8.size
 have B8 : Hid (Below w.heap.size w W8) := belowGro B7.out g8 B7.out.size (fun k9 h9 => by injection h9 with h9; have := B7.out.size; omega)
 have r_x8 := Ke.s r_x7 g8
 have o_v8 := Ke.t o_v7 r_res7 g8
 have o_u8 := Ke.t o_u7 r_res7 g8
 have c_res8 := Ke.c r_res8
 have c_x8 := Ke.c r_x8
 clear r_x7 c_x7 o_v7 o_u7
 clear r_res7 c_res7
 clear f_t7
 clear g8
 refine Ke.y 6 rfl (fun _ _ _ h => h) ?_
 try simp only [Act.put, pu1, pu2, pu3, pu4, pu5, pu6]
 refine Ke.y 7 rfl (fun _ _ _ h => h) ?_
 try simp only [Act.put, pu1, pu2, pu3, pu4, pu5, pu6]
 refine wpAnyH_done (by kernel_rfl) ?_ _
 clear hHeld
 go_wp2
 exact bodyPost_ret (res_r2 rfl _ _ (w.heap.size) 32 (mq m.id (.slice ao_v L_v cap_v) m.st.h (.slice ao_u L_u cap_u) m.st.s m.b) (0, 0) _ rfl r_res8.out Tryz.underlying32 rfl (sizeQ _ _ _ _ _ _)) rfl ⟨m, t, tq, .slice ao_v L_v cap_v, .slice ao_u L_u cap_u, .slice ao_t t.length cap_t, rfl, HA.out, ht1, ht9, HTZ.out, hto.1, hto.2, o_v8.out.sl, o_u8.out.sl, f_t8.out.1.sh, B8.out⟩
end Go.Proofs.YtchonoonclllbaaGreatDoor.Mi
