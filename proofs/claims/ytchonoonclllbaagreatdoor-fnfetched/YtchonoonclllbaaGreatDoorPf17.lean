/- Texts in one: SrR, MiD, MiE, MiI0. -/
import Derived.Test.YtchonoonclllbaaGreatDoorPf16
import Derived.Test.YtchonoonclllbaaGreatDoorPf15
import Derived.Deep.DeepCutAuto
namespace Go.Proofs.YtchonoonclllbaaGreatDoor.Sr
open Go.RowKit Go.Proofs.YtchonoonclllbaaGreatDoor.Mem Go.Proofs.YtchonoonclllbaaGreatDoor.Laws Go.Proofs.YtchonoonclllbaaGreatDoor.Bytes Go.Proofs.YtchonoonclllbaaGreatDoor.Sha Go.Proofs.YtchonoonclllbaaGreatDoor.Tr Go.Proofs.YtchonoonclllbaaGreatDoor.Draw Go.Proofs.YtchonoonclllbaaGreatDoor.He Go.Proofs.YtchonoonclllbaaGreatDoor.Lg
set_option linter.unusedVariables false
set_option linter.unusedSimpArgs false
structure Ast (st : Sto) : Prop where
 byt : Byt st.b
 len : st.l.length ≤ 10
 sz : ∀ s ∈ st.l, s.size ≤ 3
 hd : st.h.r.size ≤ 32
 bl : st.b.length ≤ 30028
 lo : -1 ≤ st.s
 hi : st.s ≤ 30029
theorem Dst.any {t : List Hd} {A : Nat} {st : Sto} (h : Dst t A 0 st) (hA : A ≤ 9) : Ast st := ⟨h.made.1.2.2, by have := h.len; omega, h.sz, h.head, by have := h.bl; omega, by have := h.lo; omega, by have := h.hi; have := h.bl; omega⟩
end Go.Proofs.YtchonoonclllbaaGreatDoor.Sr
namespace Go.Proofs.YtchonoonclllbaaGreatDoor.Mi
open Go.RowKit Go.Proofs.YtchonoonclllbaaGreatDoor.Mem Go.Proofs.YtchonoonclllbaaGreatDoor.Laws Go.Proofs.YtchonoonclllbaaGreatDoor.Bytes Go.Proofs.YtchonoonclllbaaGreatDoor.Sha Go.Proofs.YtchonoonclllbaaGreatDoor.Tr Go.Proofs.YtchonoonclllbaaGreatDoor.Draw Go.Proofs.YtchonoonclllbaaGreatDoor.He Go.Proofs.YtchonoonclllbaaGreatDoor.Lg Go.Proofs.YtchonoonclllbaaGreatDoor.Sr Go.Proofs.YtchonoonclllbaaGreatDoor.Mg
set_option linter.unusedVariables false
set_option linter.unusedSimpArgs false
set_option maxRecDepth 1000000 in
set_option maxHeartbeats 16000000 in
theorem draw14 (W0 w : World) (g : Nat) (vb : Value) (xs : List Int) (hs : Sl W0 vb (bs xs)) (hby : Byt xs) (hx : xs.length ≤ 140737488355328) (hB : Below W0.heap.size W0 w) (hg : W0.heap.size ≤ g) (hcu : Cur w g vb xs.length) :
  Calls Tryz.prog 57 #[.pointer (some ⟨g, 0, none⟩)] w fun e w' => ∃ (all : List ByteArray) (t : List Hd) (m : Mr) (v u vt va : Value), e = .returned (.tuple #[.agg #[.int .i64 m.id, v, .int .i64 m.st.h.n, .string m.st.h.r, u, .int .i64 m.st.s, .int .i64 m.b.n, .string m.b.r], vt, va]) ∧ D14 all t m ∧ t.length ≤ 10 ∧ (∀ x ∈ t, x.r.size ≤ 32) ∧ Own w' w.heap.size w'.heap.size 9 v (ss m.st.l) ∧ Own w' w.heap.size w'.heap.size 5 u (bs m.st.b) ∧ Own w' w.heap.size w'.heap.size 9 va (ss all) ∧ Oh w' w.heap.size w'.heap.size vt t ∧ Drawn W0 w g vb xs w' := by
 have HSW : Hid (Sl W0 vb (bs xs)) := hs
 have hgw := hcu.lt
 clear hs
 have B0 : Hid (Apart g (g + 1) w w) := Apart.refl _ _ _
 have cu0 : Hid (Cur w (g) vb xs.length) := hcu
 have bw0 : Hid (Below W0.heap.size W0 w) := hB
 obtain ⟨W1, HW1, b1, y1, hS1, r_res1⟩ := Ke.l1 w #[.int .i64 0, .slice none 0 0, .int .i64 0, .string ⟨#[]⟩, .slice none 0 0, .int .i64 0, .int .i64 0, .string ⟨#[]⟩] 32
 have z1 := b1.size
 have B1 := Kd.B B0 b1
 have c_res1 := Ke.c r_res1
 have cu1 := Kd.c cu0 b1
 have bw1 := Ke.b bw0 b1
 clear cu0 bw0
 go_enter Tryz.func57, Tryz.ntmps57
 go_wp2_with fail
 rw [HW1.out]
 refine (draw12t W0 W1 g _ xs HSW.out hby hx bw1.out hg cu1.out).mono ?_
 rintro e W2 ⟨st, all, t, v_v, v_u, v_a, v_t, rfl, hD, htab, hA1, hA9, hAz, ht1, ht9, htz, o_v2, o_u2, o_a2, o_t2, d2⟩
 have z2 := d2.apart.size
 have B2 := Kd.D B1 d2
 have cu2 := Kd.e d2
 have bw2 := Kd.f d2
 have r_res2 := Kd.r r_res1 d2
 have c_res2 := Ke.c r_res2
 clear r_res1 c_res1
 clear cu1 bw1 d2
 obtain ⟨ao_v, L_v, cap_v, rfl, _, _⟩ := Mem.Own.form o_v2
 have o_v2 : Hid (Own W2 W1.heap.size W2.heap.size 9 (.slice ao_v L_v cap_v) (ss st.l)) := o_v2
 obtain ⟨ao_u, L_u, cap_u, rfl, _, _⟩ := Mem.Own.form o_u2
 have o_u2 : Hid (Own W2 W1.heap.size W2.heap.size 5 (.slice ao_u L_u cap_u) (bs st.b)) := o_u2
 obtain ⟨ao_a, L_a, cap_a, rfl, _, _⟩ := Mem.Own.form o_a2
 have o_a2 : Hid (Own W2 W1.heap.size W2.heap.size 9 (.slice ao_a L_a cap_a) (ss all)) := o_a2
 obtain ⟨ao_t, cap_t, rfl, _⟩ := (Oh.sh o_t2).form
 have f_t2 : Hid (Oht W2 W1.heap.size W2.heap.size (.slice ao_t t.length cap_t) t) := ⟨o_t2, Nat.le_refl _⟩
 clear o_t2
 have HDD : Hid (Dsq all t 0 st) := hD
 have HTAB : Hid (Tab all t) := htab
 have HAZ : Hid (∀ s ∈ all, s.size ≤ 3) := hAz
 have HTZ : Hid (∀ x ∈ t, x.r.size ≤ 32) := htz
 clear hD htab hAz htz
 have a_res2 := Ke.a r_res2
 obtain ⟨W3, HW3, b3, y3, hS3, r_s3⟩ := Ke.l1 W2 #[.slice ao_v L_v cap_v, .int .i64 st.h.n, .string st.h.r, .slice ao_u L_u cap_u, .int .i64 st.s] 30
 have z3 := b3.size
 have B3 := Kd.B B2 b3
 have r_res3 := Ke.r r_res2 b3
 have o_v3 := Ke.o o_v2 b3
 have o_u3 := Ke.o o_u2 b3
 have o_a3 := Ke.o o_a2 b3
 have c_res3 := Ke.c r_res3
 have c_s3 := Ke.c r_s3
 clear r_res2 c_res2 o_v2 o_u2 o_a2
 have f_t3 := Ke.h (Oht.later f_t2.out b3)
 clear f_t2
 have cu3 := Kd.c cu2 b3
 have bw3 := Ke.b bw2 b3
 clear cu2 bw2
 go_upto_region 2 with fail
 rw [HW3.out]
 clear a_res2
 go_cut [8] (fun s8 wx => ∃ (g_x : Nat) (y : Int), s8 = (.pointer (some ⟨g_x, 0, none⟩)) ∧ 0 ≤ y ∧ y < 4 ∧ Apart g (g + 1) w wx ∧ W3.heap.size ≤ wx.heap.size ∧ W3.heap.size ≤ g_x ∧ g_x < wx.heap.size ∧ Cur wx (g) vb xs.length ∧ Below W0.heap.size W0 wx ∧ wx.heap[g_x]? = some (.cells #[.int .i64 y, .slice ao_v L_v cap_v, .int .i64 st.h.n, .string st.h.r, .slice ao_u L_u cap_u, .int .i64 st.s, .int .i64 st.h.n, .string st.h.r] 32 (0, 0)) ∧ wx.heap[w.heap.size]? = some (.cells #[.int .i64 0, .slice none 0 0, .int .i64 0, .string ⟨#[]⟩, .slice none 0 0, .int .i64 0, .int .i64 0, .string ⟨#[]⟩] 32 (0, 0)) ∧ wx.heap[W2.heap.size]? = some (.cells #[.slice ao_v L_v cap_v, .int .i64 st.h.n, .string st.h.r, .slice ao_u L_u cap_u, .int .i64 st.s] 30 (0, 0)) ∧ Own wx (W1.heap.size) (W2.heap.size) 9 (.slice ao_v L_v cap_v) (ss st.l) ∧ Own wx (W1.heap.size) (W2.heap.size) 5 (.slice ao_u L_u cap_u) (bs st.b) ∧ Own wx (W1.heap.size) (W2.heap.size) 9 (.slice ao_a L_a cap_a) (ss all) ∧ Oht wx W1.heap.size W2.heap.size (.slice ao_t t.length cap_t) t)
 case first =>
  refine wp_region_held_drew (S := fun w' => (∀ j, w'.cell? ⟨W2.heap.size, j, none⟩ = #[.slice ao_v L_v cap_v, .int .i64 st.h.n, .string st.h.r, .slice ao_u L_u cap_u, .int .i64 st.s][j]?) ∧ (∀ j, w'.cell? ⟨w.heap.size, j, none⟩ = #[.int .i64 0, .slice none 0 0, .int .i64 0, .string ⟨#[]⟩, .slice none 0 0, .int .i64 0, .int .i64 0, .string ⟨#[]⟩][j]?)) (by kernel_rfl) ⟨c_s3, c_res3⟩ (fun hHeld => ?_)
  obtain ⟨W4, HW4, b4⟩ : ∃ X, Hid (W3.drew = X) ∧ Below W3.heap.size W3 X := ⟨_, rfl, Below.drew (Below.refl _ _)⟩
  have HHW4 := HW4.out
  rw [HHW4] at hHeld ⊢
  clear HHW4
  have z4 := b4.size
  have B4 := Kd.B B3 b4
  have r_res4 := Ke.r r_res3 b4
  have r_s4 := Ke.r r_s3 b4
  have o_v4 := Ke.o o_v3 b4
  have o_u4 := Ke.o o_u3 b4
  have o_a4 := Ke.o o_a3 b4
  have c_res4 := Ke.c r_res4
  have c_s4 := Ke.c r_s4
  clear r_res3 c_res3 r_s3 c_s3 o_v3 o_u3 o_a3
  have f_t4 := Ke.h (Oht.later f_t3.out b4)
  clear f_t3
  have cu4 := Kd.c cu3 b4
  have bw4 := Ke.b bw3 b4
  clear cu3 bw3
  refine Ke.y 0 rfl (fun _ _ _ h => h) ?_
  try simp only [Act.put, pu1, pu2, pu3, pu4, pu5, pu6]
  refine Ke.y 2 rfl (fun _ _ _ h => h) ?_
  try simp only [Act.put, pu1, pu2, pu3, pu4, pu5, pu6]
  refine Ke.y 3 rfl (fun _ _ _ h => h) ?_
  try simp only [Act.put, pu1, pu2, pu3, pu4, pu5, pu6]
  refine Ke.y 4 rfl (fun _ _ _ h => h) ?_
  try simp only [Act.put, pu1, pu2, pu3, pu4, pu5, pu6]
  refine Ke.y 5 rfl (fun _ _ _ h => h) ?_
  try simp only [Act.put, pu1, pu2, pu3, pu4, pu5, pu6]
  refine wpAnyH_ready (rs := [1, 7]) (by kernel_rfl) (by simp) ?_
  refine AllReadyH.cons rfl (fun K hK => ?_) (AllReadyH.cons rfl (fun K hK => ?_) AllReadyH.nil)
  ·
   go_simp
   refine (below_any W0 W4 g _ xs 4 (by omega) (by omega) HSW.out hby hx bw4.out hg cu4.out).mono ?_
   rintro e W5 ⟨y, rfl, hy0, hy4, d5⟩
   refine hK.out _ _ ⟨(Kd.k hHeld.1 d5 (by omega)), (Kd.k hHeld.2 d5 (by omega))⟩ (fun hHeld => ?_)
   clear hK K
   try simp only [Act.put, pu1, pu2, pu3, pu4, pu5, pu6]
   have z5 := d5.apart.size
   have B5 := Kd.D B4 d5
   have cu5 := Kd.e d5
   have bw5 := Kd.f d5
   have r_res5 := Kd.r r_res4 d5
   have r_s5 := Kd.r r_s4 d5
   have o_v5 := Kd.o o_v4 d5
   have o_u5 := Kd.o o_u4 d5
   have o_a5 := Kd.o o_a4 d5
   have f_t5 := Kd.t f_t4 d5
   have c_res5 := Ke.c r_res5
   have c_s5 := Ke.c r_s5
   clear r_res4 c_res4 r_s4 c_s4 o_v4 o_u4 o_a4
   clear cu4 bw4 d5 f_t4
   refine Ke.y 6 rfl (fun _ _ _ h => h) ?_
   try simp only [Act.put, pu1, pu2, pu3, pu4, pu5, pu6]
   refine Ke.z 7 rfl (fun K hK => ?_)
   go_simp
   refine hK.out _ _ ⟨(Ke.k (W := W5) hHeld.1 ((Below.refl _ _).alloc (Nat.le_refl _) _)), (Ke.k (W := W5) hHeld.2 ((Below.refl _ _).alloc (Nat.le_refl _) _))⟩ (fun hHeld => ?_)
   clear hK K
   try simp only [Act.put, pu1, pu2, pu3, pu4, pu5, pu6]
   obtain ⟨W6, HW6, b6, y6, hS6, r_x6⟩ := Ke.l1 W5 #[.int .i64 0, .slice none 0 0, .int .i64 0, .string ⟨#[]⟩, .slice none 0 0, .int .i64 0, .int .i64 0, .string ⟨#[]⟩] 32
   have HHW6 := HW6.out
   rw [HHW6] at hHeld ⊢
   clear HHW6
   have z6 := b6.size
   have B6 := Kd.B B5 b6
   have r_res6 := Ke.r r_res5 b6
   have r_s6 := Ke.r r_s5 b6
   have o_v6 := Ke.o o_v5 b6
   have o_u6 := Ke.o o_u5 b6
   have o_a6 := Ke.o o_a5 b6
   have c_res6 := Ke.c r_res6
   have c_s6 := Ke.c r_s6
   have c_x6 := Ke.c r_x6
   clear r_res5 c_res5 r_s5 c_s5 o_v5 o_u5 o_a5
   have f_t6 := Ke.h (Oht.later f_t5.out b6)
   clear f_t5
   have cu6 := Kd.c cu5 b6
   have bw6 := Ke.b bw5 b6
   clear cu5 bw5
   refine Ke.z 8 rfl (fun K hK => ?_)
   rw [if_pos (by rfl)]
   refine wp_partG 32 _ _ rfl (W5.heap.size) 0 (mq y (.slice ao_v L_v cap_v) st.h (.slice ao_u L_u cap_u) st.s st.h) rfl rfl [.int .i64 0, .slice none 0 0, .int .i64 0, .string ⟨#[]⟩, .slice none 0 0, .int .i64 0, .int .i64 0, .string ⟨#[]⟩] 32 r_x6.out (Nat.le_of_ble_eq_true rfl) (sizeQ _ _ _ _ _ _) (oneQ _ _ _ _ rfl rfl) [.int .i64 y, .slice ao_v L_v cap_v, .int .i64 st.h.n, .string st.h.r, .slice ao_u L_u cap_u, .int .i64 st.s, .int .i64 st.h.n, .string st.h.r] rfl ?_
   intro W7 r_x7 g7
   refine hK.out _ _ ⟨(Ke.g hHeld.1 g7 (by show some (W5.heap.size) ≠ some (W2.heap.size); intro h9; injection h9 with h9; omega)), (Ke.g hHeld.2 g7 (by show some (W5.heap.size) ≠ some (w.heap.size); intro h9; injection h9 with h9; omega))⟩ (fun hHeld => ?_)
   clear hK K
   try simp only [Act.put, pu1, pu2, pu3, pu4, pu5, pu6]
   have f_t7 : Hid (Oht W7 W1.heap.size W2.heap.size (.slice ao_t t.length cap_t) t) := Oht.gro f_t6.out g7 (fun k9 h9 => by injection h9 with h9; omega)
   have cu7 : Hid (Cur W7 (g) vb xs.length) := cu6.out.gro g7 (fun h9 => by injection h9 with h9; omega)
   have bw7 : Hid (Below W0.heap.size W0 W7) := belowGro bw6.out g7 bw6.out.size (fun k9 h9 => by injection h9 with h9; omega)
   clear cu6 bw6
   have r_x7 : Hid (W7.heap[W5.heap.size]? = some (.cells #[.int .i64 y, .slice ao_v L_v cap_v, .int .i64 st.h.n, .string st.h.r, .slice ao_u L_u cap_u, .int .i64 st.s, .int .i64 st.h.n, .string st.h.r] 32 (0, 0))) := r_x7
   have z7 := g7.size
   have B7 : Hid (Apart g (g + 1) w W7) := Apart.gro B6.out g7 (fun k9 h9 => by injection h9 with h9; have := B6.out.size; omega)
   have r_res7 := Ke.s r_res6 g7
   have r_s7 := Ke.s r_s6 g7
   have o_v7 := Ke.t o_v6 r_x6 g7
   have o_u7 := Ke.t o_u6 r_x6 g7
   have o_a7 := Ke.t o_a6 r_x6 g7
   have c_res7 := Ke.c r_res7
   have c_s7 := Ke.c r_s7
   have c_x7 := Ke.c r_x7
   clear r_res6 c_res6 r_s6 c_s6 o_v6 o_u6 o_a6
   clear r_x6 c_x6
   clear f_t6
   clear g7
   refine wpAnyH_done (by kernel_rfl) ?_ _
   clear hHeld
   go_wp2_with fail
   go_meet
   exact ⟨W5.heap.size, y, rfl, hy0, hy4, B7.out, by omega, by omega, (Array.getElem?_eq_some_iff.1 r_x7.out).1, cu7.out, bw7.out, r_x7.out, r_res7.out, r_s7.out, o_v7.out, o_u7.out, o_a7.out, f_t7.out⟩
  ·
   go_simp
   refine hK.out _ _ ⟨(Ke.k (W := W4) hHeld.1 ((Below.refl _ _).alloc (Nat.le_refl _) _)), (Ke.k (W := W4) hHeld.2 ((Below.refl _ _).alloc (Nat.le_refl _) _))⟩ (fun hHeld => ?_)
   clear hK K
   try simp only [Act.put, pu1, pu2, pu3, pu4, pu5, pu6]
   obtain ⟨W5, HW5, b5, y5, hS5, r_x5⟩ := Ke.l1 W4 #[.int .i64 0, .slice none 0 0, .int .i64 0, .string ⟨#[]⟩, .slice none 0 0, .int .i64 0, .int .i64 0, .string ⟨#[]⟩] 32
   have HHW5 := HW5.out
   rw [HHW5] at hHeld ⊢
   clear HHW5
   have z5 := b5.size
   have B5 := Kd.B B4 b5
   have r_res5 := Ke.r r_res4 b5
   have r_s5 := Ke.r r_s4 b5
   have o_v5 := Ke.o o_v4 b5
   have o_u5 := Ke.o o_u4 b5
   have o_a5 := Ke.o o_a4 b5
   have c_res5 := Ke.c r_res5
   have c_s5 := Ke.c r_s5
   have c_x5 := Ke.c r_x5
   clear r_res4 c_res4 r_s4 c_s4 o_v4 o_u4 o_a4
   have f_t5 := Ke.h (Oht.later f_t4.out b5)
   clear f_t4
   have cu5 := Kd.c cu4 b5
   have bw5 := Ke.b bw4 b5
   clear cu4 bw4
   refine Ke.z 1 rfl (fun K hK => ?_)
   go_simp
   refine (below_any W0 W5 g _ xs 4 (by omega) (by omega) HSW.out hby hx bw5.out hg cu5.out).mono ?_
   rintro e W6 ⟨y, rfl, hy0, hy4, d6⟩
   refine hK.out _ _ ⟨(Kd.k hHeld.1 d6 (by omega)), (Kd.k hHeld.2 d6 (by omega))⟩ (fun hHeld => ?_)
   clear hK K
   try simp only [Act.put, pu1, pu2, pu3, pu4, pu5, pu6]
   have z6 := d6.apart.size
   have B6 := Kd.D B5 d6
   have cu6 := Kd.e d6
   have bw6 := Kd.f d6
   have r_res6 := Kd.r r_res5 d6
   have r_s6 := Kd.r r_s5 d6
   have r_x6 := Kd.r r_x5 d6
   have o_v6 := Kd.o o_v5 d6
   have o_u6 := Kd.o o_u5 d6
   have o_a6 := Kd.o o_a5 d6
   have f_t6 := Kd.t f_t5 d6
   have c_res6 := Ke.c r_res6
   have c_s6 := Ke.c r_s6
   have c_x6 := Ke.c r_x6
   clear r_res5 c_res5 r_s5 c_s5 r_x5 c_x5 o_v5 o_u5 o_a5
   clear cu5 bw5 d6 f_t5
   refine Ke.y 6 rfl (fun _ _ _ h => h) ?_
   try simp only [Act.put, pu1, pu2, pu3, pu4, pu5, pu6]
   refine Ke.z 8 rfl (fun K hK => ?_)
   rw [if_pos (by rfl)]
   refine wp_partG 32 _ _ rfl (W4.heap.size) 0 (mq y (.slice ao_v L_v cap_v) st.h (.slice ao_u L_u cap_u) st.s st.h) rfl rfl [.int .i64 0, .slice none 0 0, .int .i64 0, .string ⟨#[]⟩, .slice none 0 0, .int .i64 0, .int .i64 0, .string ⟨#[]⟩] 32 r_x6.out (Nat.le_of_ble_eq_true rfl) (sizeQ _ _ _ _ _ _) (oneQ _ _ _ _ rfl rfl) [.int .i64 y, .slice ao_v L_v cap_v, .int .i64 st.h.n, .string st.h.r, .slice ao_u L_u cap_u, .int .i64 st.s, .int .i64 st.h.n, .string st.h.r] rfl ?_
   intro W7 r_x7 g7
   refine hK.out _ _ ⟨(Ke.g hHeld.1 g7 (by show some (W4.heap.size) ≠ some (W2.heap.size); intro h9; injection h9 with h9; omega)), (Ke.g hHeld.2 g7 (by show some (W4.heap.size) ≠ some (w.heap.size); intro h9; injection h9 with h9; omega))⟩ (fun hHeld => ?_)
   clear hK K
   try simp only [Act.put, pu1, pu2, pu3, pu4, pu5, pu6]
   have f_t7 : Hid (Oht W7 W1.heap.size W2.heap.size (.slice ao_t t.length cap_t) t) := Oht.gro f_t6.out g7 (fun k9 h9 => by injection h9 with h9; omega)
   have cu7 : Hid (Cur W7 (g) vb xs.length) := cu6.out.gro g7 (fun h9 => by injection h9 with h9; omega)
   have bw7 : Hid (Below W0.heap.size W0 W7) := belowGro bw6.out g7 bw6.out.size (fun k9 h9 => by injection h9 with h9; omega)
   clear cu6 bw6
   have r_x7 : Hid (W7.heap[W4.heap.size]? = some (.cells #[.int .i64 y, .slice ao_v L_v cap_v, .int .i64 st.h.n, .string st.h.r, .slice ao_u L_u cap_u, .int .i64 st.s, .int .i64 st.h.n, .string st.h.r] 32 (0, 0))) := r_x7
   have z7 := g7.size
   have B7 : Hid (Apart g (g + 1) w W7) := Apart.gro B6.out g7 (fun k9 h9 => by injection h9 with h9; have := B6.out.size; omega)
   have r_res7 := Ke.s r_res6 g7
   have r_s7 := Ke.s r_s6 g7
   have o_v7 := Ke.t o_v6 r_x6 g7
   have o_u7 := Ke.t o_u6 r_x6 g7
   have o_a7 := Ke.t o_a6 r_x6 g7
   have c_res7 := Ke.c r_res7
   have c_s7 := Ke.c r_s7
   have c_x7 := Ke.c r_x7
   clear r_res6 c_res6 r_s6 c_s6 o_v6 o_u6 o_a6
   clear r_x6 c_x6
   clear f_t6
   clear g7
   refine wpAnyH_done (by kernel_rfl) ?_ _
   clear hHeld
   go_wp2_with fail
   go_meet
   exact ⟨W4.heap.size, y, rfl, hy0, hy4, B7.out, by omega, by omega, (Array.getElem?_eq_some_iff.1 r_x7.out).1, cu7.out, bw7.out, r_x7.out, r_res7.out, r_s7.out, o_v7.out, o_u7.out, o_a7.out, f_t7.out⟩
 case rest =>
 obtain ⟨g_x, y, rfl, hy0, hy4, B4, z4, hg1_x, hg2_x, cu4, bw4, r_x4, r_res4, r_s4, o_v4, o_u4, o_a4, f_t4⟩ := hcut
 revert B4 z4 hg1_x hg2_x cu4 bw4 r_x4 r_res4 r_s4 o_v4 o_u4 o_a4 f_t4
 generalize wc = W4
 intro B4 z4 hg1_x hg2_x cu4 bw4 r_x4 r_res4 r_s4 o_v4 o_u4 o_a4 f_t4
 have B4 := Ke.h B4
 have cu4 := Ke.h cu4
 have bw4 := Ke.h bw4
 have r_x4 := Ke.h r_x4
 have r_res4 := Ke.h r_res4
 have r_s4 := Ke.h r_s4
 have o_v4 := Ke.h o_v4
 have o_u4 := Ke.h o_u4
 have o_a4 := Ke.h o_a4
 have f_t4 := Ke.h f_t4
 clear r_res3 c_res3 r_s3 c_s3 o_v3 o_u3 o_a3 f_t3 cu3 bw3
 have c_res4 := Ke.c r_res4
 have c_s4 := Ke.c r_s4
 have c_x4 := Ke.c r_x4
 clear r_s4 c_s4
 go_wp2_with fail
 refine (once10 W0 W4 g _ xs 2 (by omega) (by omega) HSW.out hby hx bw4.out hg cu4.out).mono ?_
 rintro e W5 ⟨bb, rfl, d5⟩
 have z5 := d5.apart.size
 have B5 := Kd.D B4 d5
 have cu5 := Kd.e d5
 have bw5 := Kd.f d5
 have r_res5 := Kd.r r_res4 d5
 have r_x5 := Kd.r r_x4 d5
 have o_v5 := Kd.o o_v4 d5
 have o_u5 := Kd.o o_u4 d5
 have o_a5 := Kd.o o_a4 d5
 have f_t5 := Kd.t f_t4 d5
 have c_res5 := Ke.c r_res5
 have c_x5 := Ke.c r_x5
 clear r_res4 c_res4 r_x4 c_x4 o_v4 o_u4 o_a4
 clear cu4 bw4 d5 f_t4
 cases bb
 ·
  go_wp2_with (first | (refine wpList_load_row rfl 32 _ rfl (g_x) rfl 32 (mq y (.slice ao_v L_v cap_v) st.h (.slice ao_u L_u cap_u) st.s st.h) (0, 0) _ r_x5.out Tryz.underlying32 rfl (sizeQ _ _ _ _ _ _) ?_) | (refine wpl_partG rfl 32 _ _ rfl (w.heap.size) 0 (mq y (.slice ao_v L_v cap_v) st.h (.slice ao_u L_u cap_u) st.s st.h) rfl rfl [.int .i64 0, .slice none 0 0, .int .i64 0, .string ⟨#[]⟩, .slice none 0 0, .int .i64 0, .int .i64 0, .string ⟨#[]⟩] 32 r_res5.out (Nat.le_of_ble_eq_true rfl) (sizeQ _ _ _ _ _ _) (oneQ _ _ _ _ rfl rfl) [.int .i64 y, .slice ao_v L_v cap_v, .int .i64 st.h.n, .string st.h.r, .slice ao_u L_u cap_u, .int .i64 st.s, .int .i64 st.h.n, .string st.h.r] rfl ?_))
  intro W6 r_res6 g6
  have f_t6 : Hid (Oht W6 W1.heap.size W2.heap.size (.slice ao_t t.length cap_t) t) := Oht.gro f_t5.out g6 (fun k9 h9 => by injection h9 with h9; omega)
  have cu6 : Hid (Cur W6 (g) vb xs.length) := cu5.out.gro g6 (fun h9 => by injection h9 with h9; omega)
  have bw6 : Hid (Below W0.heap.size W0 W6) := belowGro bw5.out g6 bw5.out.size (fun k9 h9 => by injection h9 with h9; omega)
  clear cu5 bw5
  have r_res6 : Hid (W6.heap[w.heap.size]? = some (.cells #[.int .i64 y, .slice ao_v L_v cap_v, .int .i64 st.h.n, .string st.h.r, .slice ao_u L_u cap_u, .int .i64 st.s, .int .i64 st.h.n, .string st.h.r] 32 (0, 0))) := r_res6
  have z6 := g6.size
  have B6 : Hid (Apart g (g + 1) w W6) := Apart.gro B5.out g6 (fun k9 h9 => by injection h9 with h9; have := B5.out.size; omega)
  have r_x6 := Ke.s r_x5 g6
  have o_v6 := Ke.t o_v5 r_res5 g6
  have o_u6 := Ke.t o_u5 r_res5 g6
  have o_a6 := Ke.t o_a5 r_res5 g6
  have c_res6 := Ke.c r_res6
  have c_x6 := Ke.c r_x6
  clear r_x5 c_x5 o_v5 o_u5 o_a5
  clear r_res5 c_res5
  clear f_t5
  go_wp2
  exact bodyPost_ret (res_r2 rfl _ _ (w.heap.size) 32 (mq y (.slice ao_v L_v cap_v) st.h (.slice ao_u L_u cap_u) st.s st.h) (0, 0) _ rfl r_res6.out Tryz.underlying32 rfl (sizeQ _ _ _ _ _ _)) rfl ⟨all, t, ⟨y, st, st.h⟩, .slice ao_v L_v cap_v, .slice ao_u L_u cap_u, .slice ao_t t.length cap_t, .slice ao_a L_a cap_a, rfl, ⟨hy0, hy4, HDD.out, HTAB.out, hA1, hA9, HAZ.out, ht1, .inl rfl⟩, ht9, HTZ.out, Own.mono o_v6.out (by omega) (by omega), Own.mono o_u6.out (by omega) (by omega), Own.mono o_a6.out (by omega) (by omega), Oht.wide f_t6.out (by omega), ⟨cu6.out, B6.out, bw6.out⟩⟩
 ·
  have q : ∀ W v1, Sh W v1 t → _ := fun W v1 h1 => best_spec W v1 t h1 (by omega)
  obtain ⟨M, hM⟩ : ∃ M, He.best t = M := ⟨_, rfl⟩
  simp only [hM] at q
  have HM : Hid (He.best t = M) := hM
  clear hM
  go_wp2_with fail
  refine (q W5 _ f_t5.out.1.sh).mono ?_
  rintro e W6 ⟨rfl, b6⟩
  have z6 := b6.size
  have B6 := Kd.B B5 b6
  have r_res6 := Ke.r r_res5 b6
  have r_x6 := Ke.r r_x5 b6
  have o_v6 := Ke.o o_v5 b6
  have o_u6 := Ke.o o_u5 b6
  have o_a6 := Ke.o o_a5 b6
  have c_res6 := Ke.c r_res6
  have c_x6 := Ke.c r_x6
  clear r_res5 c_res5 r_x5 c_x5 o_v5 o_u5 o_a5
  have f_t6 := Ke.h (Oht.later f_t5.out b6)
  clear f_t5
  have cu6 := Kd.c cu5 b6
  have bw6 := Ke.b bw5 b6
  clear cu5 bw5
  go_wp2_with (refine wpl_partG rfl 26 _ _ rfl (g_x) 6 (hc M) rfl rfl [.int .i64 y, .slice ao_v L_v cap_v, .int .i64 st.h.n, .string st.h.r, .slice ao_u L_u cap_u, .int .i64 st.s, .int .i64 st.h.n, .string st.h.r] 32 r_x6.out (Nat.le_of_ble_eq_true rfl) (sizeH _) (oneH _) [.int .i64 y, .slice ao_v L_v cap_v, .int .i64 st.h.n, .string st.h.r, .slice ao_u L_u cap_u, .int .i64 st.s, .int .i64 M.n, .string M.r] rfl ?_)
  intro W7 r_x7 g7
  have f_t7 : Hid (Oht W7 W1.heap.size W2.heap.size (.slice ao_t t.length cap_t) t) := Oht.gro f_t6.out g7 (fun k9 h9 => by injection h9 with h9; omega)
  have cu7 : Hid (Cur W7 (g) vb xs.length) := cu6.out.gro g7 (fun h9 => by injection h9 with h9; omega)
  have bw7 : Hid (Below W0.heap.size W0 W7) := belowGro bw6.out g7 bw6.out.size (fun k9 h9 => by injection h9 with h9; omega)
  clear cu6 bw6
  have r_x7 : Hid (W7.heap[g_x]? = some (.cells #[.int .i64 y, .slice ao_v L_v cap_v, .int .i64 st.h.n, .string st.h.r, .slice ao_u L_u cap_u, .int .i64 st.s, .int .i64 M.n, .string M.r] 32 (0, 0))) := r_x7
  have z7 := g7.size
  have B7 : Hid (Apart g (g + 1) w W7) := Apart.gro B6.out g7 (fun k9 h9 => by injection h9 with h9; have := B6.out.size; omega)
  have r_res7 := Ke.s r_res6 g7
  have o_v7 := Ke.t o_v6 r_x6 g7
  have o_u7 := Ke.t o_u6 r_x6 g7
  have o_a7 := Ke.t o_a6 r_x6 g7
  have c_res7 := Ke.c r_res7
  have c_x7 := Ke.c r_x7
  clear r_res6 c_res6 o_v6 o_u6 o_a6
  clear r_x6 c_x6
  clear f_t6
  clear g7
  go_wp2_with (first | (refine wpList_load_row rfl 32 _ rfl (g_x) rfl 32 (mq y (.slice ao_v L_v cap_v) st.h (.slice ao_u L_u cap_u) st.s M) (0, 0) _ r_x7.out Tryz.underlying32 rfl (sizeQ _ _ _ _ _ _) ?_) | (refine wpl_partG rfl 32 _ _ rfl (w.heap.size) 0 (mq y (.slice ao_v L_v cap_v) st.h (.slice ao_u L_u cap_u) st.s M) rfl rfl [.int .i64 0, .slice none 0 0, .int .i64 0, .string ⟨#[]⟩, .slice none 0 0, .int .i64 0, .int .i64 0, .string ⟨#[]⟩] 32 r_res7.out (Nat.le_of_ble_eq_true rfl) (sizeQ _ _ _ _ _ _) (oneQ _ _ _ _ rfl rfl) [.int .i64 y, .slice ao_v L_v cap_v, .int .i64 st.h.n, .string st.h.r, .slice ao_u L_u cap_u, .int .i64 st.s, .int .i64 M.n, .string M.r] rfl ?_))
  intro W8 r_res8 g8
  have f_t8 : Hid (Oht W8 W1.heap.size W2.heap.size (.slice ao_t t.length cap_t) t) := Oht.gro f_t7.out g8 (fun k9 h9 => by injection h9 with h9; omega)
  have cu8 : Hid (Cur W8 (g) vb xs.length) := cu7.out.gro g8 (fun h9 => by injection h9 with h9; omega)
  have bw8 : Hid (Below W0.heap.size W0 W8) := belowGro bw7.out g8 bw7.out.size (fun k9 h9 => by injection h9 with h9; omega)
  clear cu7 bw7
  have r_res8 : Hid (W8.heap[w.heap.size]? = some (.cells #[.int .i64 y, .slice ao_v L_v cap_v, .int .i64 st.h.n, .string st.h.r, .slice ao_u L_u cap_u, .int .i64 st.s, .int .i64 M.n, .string M.r] 32 (0, 0))) := r_res8
  have z8 := g8.size
  have B8 : Hid (Apart g (g + 1) w W8) := Apart.gro B7.out g8 (fun k9 h9 => by injection h9 with h9; have := B7.out.size; omega)
  have r_x8 := Ke.s r_x7 g8
  have o_v8 := Ke.t o_v7 r_res7 g8
  have o_u8 := Ke.t o_u7 r_res7 g8
  have o_a8 := Ke.t o_a7 r_res7 g8
  have c_res8 := Ke.c r_res8
  have c_x8 := Ke.c r_x8
  clear r_x7 c_x7 o_v7 o_u7 o_a7
  clear r_res7 c_res7
  clear f_t7
  go_wp2
  exact bodyPost_ret (res_r2 rfl _ _ (w.heap.size) 32 (mq y (.slice ao_v L_v cap_v) st.h (.slice ao_u L_u cap_u) st.s M) (0, 0) _ rfl r_res8.out Tryz.underlying32 rfl (sizeQ _ _ _ _ _ _)) rfl ⟨all, t, ⟨y, st, M⟩, .slice ao_v L_v cap_v, .slice ao_u L_u cap_u, .slice ao_t t.length cap_t, .slice ao_a L_a cap_a, rfl, ⟨hy0, hy4, HDD.out, HTAB.out, hA1, hA9, HAZ.out, ht1, .inr HM.out.symm⟩, ht9, HTZ.out, Own.mono o_v8.out (by omega) (by omega), Own.mono o_u8.out (by omega) (by omega), Own.mono o_a8.out (by omega) (by omega), Oht.wide f_t8.out (by omega), ⟨cu8.out, B8.out, bw8.out⟩⟩
structure A14 (m : Mr) : Prop where
 lo : -1 ≤ m.id
 hi : m.id ≤ 21
 st : Ast m.st
 b : m.b.r.size ≤ 32
theorem D14.any {all : List ByteArray} {t : List Hd} {m : Mr} (h : D14 all t m) : A14 m := by
 refine ⟨by have := h.lo; omega, by have := h.hi; omega, Dst.any h.st.toDst h.a9, ?_⟩
 have := (okH_parts13 (ok_split h.ok.1).2.2.1).2.2
 omega
set_option maxRecDepth 1000000 in
set_option maxHeartbeats 16000000 in
theorem drawMirror_any (w : World) (vb : Value) (xs : List Int) (hs : Sl w vb (bs xs)) (hby : Byt xs) (hx : xs.length ≤ 140737488355328) :
  Calls Tryz.prog 17 #[vb] w fun e w' => ∃ (all : List ByteArray) (t : List Hd) (m : Mr) (v u vt va : Value), e = .returned (.tuple #[.agg #[.int .i64 m.id, v, .int .i64 m.st.h.n, .string m.st.h.r, u, .int .i64 m.st.s, .int .i64 m.b.n, .string m.b.r], vt, va]) ∧ D14 all t m ∧ t.length ≤ 10 ∧ (∀ x ∈ t, x.r.size ≤ 32) ∧ Sl w' v (ss m.st.l) ∧ Sl w' u (bs m.st.b) ∧ Sh w' vt t ∧ Sl w' va (ss all) ∧ Below w.heap.size w w' := by
 have HS : Hid (Sl w vb (bs xs)) := hs
 obtain ⟨aob, capb, rfl, hcb⟩ := hs.form
 clear hs
 have B0 : Hid (Below w.heap.size w w) := Below.refl _ _
 obtain ⟨i9, hi9, hz9a, hz9b, hz9c⟩ := info_parts info9t
 obtain ⟨W1, HW1, b1, y1, hS1, r_res1⟩ := Ke.l1 w #[.int .i64 0, .slice none 0 0, .int .i64 0, .string ⟨#[]⟩, .slice none 0 0, .int .i64 0, .int .i64 0, .string ⟨#[]⟩] 32
 have z1 := b1.size
 have B1 := Ke.b B0 b1
 have c_res1 := Ke.c r_res1
 go_enter Tryz.func17, Tryz.ntmps17
 go_wp2_with fail
 rw [HW1.out]
 refine (new_any W1 _ xs (HS.out.later B1.out) hby hx).mono ?_
 rintro e W2 ⟨rfl, d2⟩
 have hcg : W1.heap.size < W2.heap.size := d2.cur.lt
 have HSW : Hid (Sl W1 (.slice aob (bs xs).length capb) (bs xs)) := (HS.out.later B1.out)
 have cu1 : Hid True := trivial
 have bw1 : Hid True := trivial
 have z2 := d2.apart.size
 have B2 : Hid (Below w.heap.size w W2) := B1.out.trans (d2.below.mono B1.out.size)
 have cu2 := Kd.e d2
 have bw2 := Kd.f d2
 have r_res2 := Kd.r r_res1 d2
 have c_res2 := Ke.c r_res2
 clear r_res1 c_res1
 clear cu1 bw1 d2
 go_wp2_with fail
 refine (draw14 W1 W2 (W1.heap.size) _ xs HSW.out hby hx bw2.out (Nat.le_refl _) cu2.out).mono ?_
 rintro e W3 ⟨all, t, m, v_v, v_u, v_t, v_a, rfl, hD, ht9, htz, o_v3, o_u3, o_a3, o_t3, d3⟩
 have z3 := d3.apart.size
 have B3 : Hid (Below w.heap.size w W3) := B1.out.trans (d3.below.mono B1.out.size)
 have cu3 := Kd.e d3
 have bw3 := Kd.f d3
 have r_res3 := Kd.r r_res2 d3
 have c_res3 := Ke.c r_res3
 clear r_res2 c_res2
 clear cu2 bw2 d3
 obtain ⟨ao_v, L_v, cap_v, rfl, _, _⟩ := Mem.Own.form o_v3
 have o_v3 : Hid (Own W3 W2.heap.size W3.heap.size 9 (.slice ao_v L_v cap_v) (ss m.st.l)) := o_v3
 obtain ⟨ao_u, L_u, cap_u, rfl, _, _⟩ := Mem.Own.form o_u3
 have o_u3 : Hid (Own W3 W2.heap.size W3.heap.size 5 (.slice ao_u L_u cap_u) (bs m.st.b)) := o_u3
 obtain ⟨ao_a, L_a, cap_a, rfl, _, _⟩ := Mem.Own.form o_a3
 have o_a3 : Hid (Own W3 W2.heap.size W3.heap.size 9 (.slice ao_a L_a cap_a) (ss all)) := o_a3
 obtain ⟨ao_t, cap_t, rfl, _⟩ := (Oh.sh o_t3).form
 have f_t3 : Hid (Oht W3 W2.heap.size W3.heap.size (.slice ao_t t.length cap_t) t) := ⟨o_t3, Nat.le_refl _⟩
 clear o_t3
 have HD : Hid (D14 all t m) := hD
 have HTZ : Hid (∀ x ∈ t, x.r.size ≤ 32) := htz
 clear hD htz
 clear cu3 bw3
 go_wp2_with (refine wpl_partG rfl 32 _ _ rfl (w.heap.size) 0 (mq m.id (.slice ao_v L_v cap_v) m.st.h (.slice ao_u L_u cap_u) m.st.s m.b) rfl rfl [.int .i64 0, .slice none 0 0, .int .i64 0, .string ⟨#[]⟩, .slice none 0 0, .int .i64 0, .int .i64 0, .string ⟨#[]⟩] 32 r_res3.out (Nat.le_of_ble_eq_true rfl) (sizeQ _ _ _ _ _ _) (oneQ _ _ _ _ rfl rfl) [.int .i64 m.id, .slice ao_v L_v cap_v, .int .i64 m.st.h.n, .string m.st.h.r, .slice ao_u L_u cap_u, .int .i64 m.st.s, .int .i64 m.b.n, .string m.b.r] rfl ?_)
 intro W4 r_res4 g4
 have f_t4 : Hid (Oht W4 W2.heap.size W3.heap.size (.slice ao_t t.length cap_t) t) := Oht.gro f_t3.out g4 (fun k9 h9 => by injection h9 with h9; omega)
 have r_res4 : Hid (W4.heap[w.heap.size]? = some (.cells #[.int .i64 m.id, .slice ao_v L_v cap_v, .int .i64 m.st.h.n, .string m.st.h.r, .slice ao_u L_u cap_u, .int .i64 m.st.s, .int .i64 m.b.n, .string m.b.r] 32 (0, 0))) := r_res4
 have z4 := g4.size
 have B4 : Hid (Below w.heap.size w W4) := belowGro B3.out g4 B3.out.size (fun k9 h9 => by injection h9 with h9; have := B3.out.size; omega)
 have o_v4 := Ke.t o_v3 r_res3 g4
 have o_u4 := Ke.t o_u3 r_res3 g4
 have o_a4 := Ke.t o_a3 r_res3 g4
 have c_res4 := Ke.c r_res4
 clear o_v3 o_u3 o_a3
 clear r_res3 c_res3
 clear f_t3
 clear g4
 go_wp2
 exact bodyPost_ret (res_r2 rfl _ _ (w.heap.size) 32 (mq m.id (.slice ao_v L_v cap_v) m.st.h (.slice ao_u L_u cap_u) m.st.s m.b) (0, 0) _ rfl r_res4.out Tryz.underlying32 rfl (sizeQ _ _ _ _ _ _)) rfl ⟨all, t, m, .slice ao_v L_v cap_v, .slice ao_u L_u cap_u, .slice ao_t t.length cap_t, .slice ao_a L_a cap_a, rfl, HD.out, ht9, HTZ.out, o_v4.out.sl, o_u4.out.sl, f_t4.out.1.sh, o_a4.out.sl, B4.out⟩
end Go.Proofs.YtchonoonclllbaaGreatDoor.Mi
namespace Go.Proofs.YtchonoonclllbaaGreatDoor.Mi
open Go.RowKit Go.Proofs.YtchonoonclllbaaGreatDoor.Mem Go.Proofs.YtchonoonclllbaaGreatDoor.Laws Go.Proofs.YtchonoonclllbaaGreatDoor.Bytes Go.Proofs.YtchonoonclllbaaGreatDoor.Sha Go.Proofs.YtchonoonclllbaaGreatDoor.Tr Go.Proofs.YtchonoonclllbaaGreatDoor.He Go.Proofs.YtchonoonclllbaaGreatDoor.Lg Go.Proofs.YtchonoonclllbaaGreatDoor.Sr Go.Proofs.YtchonoonclllbaaGreatDoor.Mg
set_option linter.unusedVariables false
set_option linter.unusedSimpArgs false
theorem takes_small {m : Mr} {t : List Hd} {w : Ms} (hb : Byt m.st.b) : (∀ s ∈ (takes m t w).st.l, s ∈ m.st.l ∨ s ∈ w.x) ∧ (takes m t w).st.l.length ≤ m.st.l.length + w.x.length ∧ Byt (takes m t w).st.b ∧ (takes m t w).st.b.length ≤ max m.st.b.length 60000 ∧ ((takes m t w).b = m.b ∨ (takes m t w).b = w.h) := by
 unfold takes
 split
 ·
  rename_i hc
  obtain ⟨_, _, _, _, _, _, g7⟩ := commit1_good hc.2.2
  have e2 : ∀ (k : Mr) (h : Hd), (better k h).st = k.st := fun k h => (better_id k h).2.1
  rw [e2]
  simp only
  rw [g7]
  refine ⟨fun s hs => ?_, by simp, hb.app (put_byt _ _), ?_, ?_⟩
  ·
   exact List.mem_append.1 hs
  ·
   simp only [List.length_append]; omega
  ·
   unfold better
   split
   ·
    exact .inr rfl
   ·
    exact .inl rfl
 ·
  exact ⟨fun s hs => .inl hs, by omega, hb, by omega, .inl rfl⟩
theorem hear_small {m : Mr} {t : List Hd} {w : Ms} (hb : Byt m.st.b) : (∀ s ∈ (hear m t w).1.st.l, s ∈ m.st.l ∨ s ∈ w.x) ∧ (hear m t w).1.st.l.length ≤ m.st.l.length + w.x.length ∧ Byt (hear m t w).1.st.b ∧ (hear m t w).1.st.b.length ≤ max m.st.b.length 60000 ∧ ((hear m t w).1.b = m.b ∨ (hear m t w).1.b = w.h) := by
 have triv : (∀ s ∈ m.st.l, s ∈ m.st.l ∨ s ∈ w.x) ∧ m.st.l.length ≤ m.st.l.length + w.x.length ∧ Byt m.st.b ∧ m.st.b.length ≤ max m.st.b.length 60000 ∧ (m.b = m.b ∨ m.b = w.h) := ⟨fun s hs => .inl hs, by omega, hb, by omega, .inl rfl⟩
 unfold hear
 split
 ·
  unfold hear1
  split
  ·
   split
   ·
    simp only
    rw [(better_id m w.h).2.1]
    refine ⟨triv.1, triv.2.1, hb, triv.2.2.2.1, ?_⟩
    unfold better
    split
    ·
     exact .inr rfl
    ·
     exact .inl rfl
   ·
    exact triv
  ·
   split
   ·
    exact triv
   ·
    exact takes_small hb
 ·
  exact triv
end Go.Proofs.YtchonoonclllbaaGreatDoor.Mi
