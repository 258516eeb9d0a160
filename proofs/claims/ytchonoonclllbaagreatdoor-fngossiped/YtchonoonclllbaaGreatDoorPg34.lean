/- Texts in one: MiG. -/
import Derived.Test.YtchonoonclllbaaGreatDoorPg14
import Derived.Test.YtchonoonclllbaaGreatDoorPg15
import Derived.Test.YtchonoonclllbaaGreatDoorPg19
import Derived.Test.YtchonoonclllbaaGreatDoorPg22
import Derived.Test.YtchonoonclllbaaGreatDoorPg33
import Derived.Deep.DeepCutAuto
namespace Go.Proofs.YtchonoonclllbaaGreatDoor.Mi
open Go.RowKit Go.Proofs.YtchonoonclllbaaGreatDoor.Mem Go.Proofs.YtchonoonclllbaaGreatDoor.Laws Go.Proofs.YtchonoonclllbaaGreatDoor.Bytes Go.Proofs.YtchonoonclllbaaGreatDoor.Sha Go.Proofs.YtchonoonclllbaaGreatDoor.Tr Go.Proofs.YtchonoonclllbaaGreatDoor.He Go.Proofs.YtchonoonclllbaaGreatDoor.Lg Go.Proofs.YtchonoonclllbaaGreatDoor.Sr Go.Proofs.YtchonoonclllbaaGreatDoor.Mg
set_option linter.unusedVariables false
set_option linter.unusedSimpArgs false
set_option maxRecDepth 1000000 in
set_option maxHeartbeats 16000000 in
theorem gossiped (w : World) (v0 : Value) (xs0 : List Int) (h0 : Sl w v0 (bs xs0)) (y0 : Byt xs0) (m0 : xs0.length ≤ maxLen) (hG : Glob w) (hN : NoC w) :
  Calls Tryz.prog 6 #[v0] w fun e w' => e = .returned (.bool true) ∧ Below w.heap.size w w' := by
 have hs := h0
 have hby := y0
 obtain ⟨ao0, cap0, rfl, -, -, -⟩ := h0
 rw [Mem.bs_len] at hs ⊢
 clear m0 y0
 by_cases hbig : 1048576 < xs0.length
 ·
  have qb := Draw.big_yes w ao0 xs0.length cap0 hbig
  clear hG hN
  go_enter Tryz.func6, Tryz.ntmps6
  go_wp2_with fail
  refine qb.mono ?_
  rintro e w1 ⟨rfl, rfl⟩
  go_wp2
  go_ret
  exact ⟨rfl, Below.refl _ _⟩
 have qb := Draw.big_no w ao0 xs0.length cap0 hbig
 have qd : ∀ W, Below w.heap.size w W → _ := fun W hW => drawGossip_any W _ xs0 (hs.later hW) hby (by omega)
 have HG : Hid (Glob w) := hG
 have HNC : Hid (NoC w) := hN
 clear hbig hs hby hG hN
 have B0 : Hid (Below w.heap.size w w) := Below.refl _ _
 go_enter Tryz.func6, Tryz.ntmps6
 go_wp2_with fail
 refine qb.mono ?_
 rintro e W_ ⟨rfl, hW_⟩
 subst hW_
 clear qb
 go_wp2_with fail
 refine (qd w B0.out).mono ?_
 rintro e W1 ⟨m, t, tq, v_v, v_u, v_t, rfl, hA, ht1, ht9, htz, hto1, hto2, s_v, s_u, s_t, b1⟩
 obtain ⟨ao_v, cap_v, rfl, _⟩ := s_v.form
 obtain ⟨ao_u, cap_u, rfl, _⟩ := s_u.form
 obtain ⟨ao_t, cap_t, rfl, _⟩ := Sh.form s_t
 simp only [ss_len, bs_len] at *
 have z1 := b1.size
 have B1 := Ke.b B0 b1
 have f_v1 : Hid (Sl W1 (.slice ao_v m.st.l.length cap_v) (ss m.st.l)) := s_v
 have f_u1 : Hid (Sl W1 (.slice ao_u m.st.b.length cap_u) (bs m.st.b)) := s_u
 have f_t1 : Hid (Sh W1 (.slice ao_t t.length cap_t) t) := s_t
 clear s_v s_u s_t qd
 have HA : Hid (A14 m) := hA
 have HBY : Hid (Byt m.st.b) := hA.st.byt
 have HZ : Hid (∀ s ∈ m.st.l, s.size ≤ 10000000000) := fun s h9 => Nat.le_trans (hA.st.sz s h9) (by omega)
 have hll := hA.st.len
 have hbl := hA.st.bl
 have hhr := hA.st.hd
 have hgr := hA.b
 have hs1 := hA.st.lo
 have hs2 := hA.st.hi
 clear hA
 clear htz
 obtain ⟨W2, HW2, b2, y2, hS2, r_m2⟩ := Ke.l1 W1 #[.int .i64 m.id, .slice ao_v m.st.l.length cap_v, .int .i64 m.st.h.n, .string m.st.h.r, .slice ao_u m.st.b.length cap_u, .int .i64 m.st.s, .int .i64 m.b.n, .string m.b.r] 32
 have z2 := b2.size
 have B2 := Ke.b B1 b2
 have c_m2 := Ke.c r_m2
 have f_v2 := Ke.h (Sl.later f_v1.out b2)
 have f_u2 := Ke.h (Sl.later f_u1.out b2)
 have f_t2 := Ke.h (Sh.later f_t1.out b2)
 clear f_v1 f_u1 f_t1
 have q1 : ∀ W v1 v2 v3, Below w.heap.size w W → Sl W v1 (ss m.st.l) → Sl W v2 (bs m.st.b) → Sh W v3 t → _ := fun W v1 v2 v3 hB h1 h2 h3 => gossip_impl W v1 v2 v3 m t tq (HG.out.later hB) (NoC.later HNC.out hB) (by omega) h1 h2 HBY.out h3 (by omega) (by omega) (by omega) HZ.out
 have q2 : ∀ W v1 v2 v3, Below w.heap.size w W → Sl W v1 (ss m.st.l) → Sl W v2 (bs m.st.b) → Sh W v3 t → _ := fun W v1 v2 v3 hB h1 h2 h3 => askfor_impl W v1 v2 v3 m t tq (HG.out.later hB) (NoC.later HNC.out hB) (by omega) h1 h2 HBY.out h3 (by omega) (by omega) (by omega) HZ.out
 have q3 : ∀ W v1 v2 v3, Sl W v1 (ss m.st.l) → Sl W v2 (bs m.st.b) → Sh W v3 t → _ := fun W v1 v2 v3 h1 h2 h3 => gossip_spec W v1 v2 v3 m t tq h1 h2 HBY.out h3 (by omega) (by omega) (by omega) HZ.out
 have q4 : ∀ W v1 v2 v3, Sl W v1 (ss m.st.l) → Sl W v2 (bs m.st.b) → Sh W v3 t → _ := fun W v1 v2 v3 h1 h2 h3 => askfor_spec W v1 v2 v3 m t tq h1 h2 HBY.out h3 (by omega) (by omega) (by omega) HZ.out
 have hgs := @gossiped14 m t tq
 obtain ⟨Q, hQ⟩ : ∃ Q, gossip m t tq = Q := ⟨_, rfl⟩
 obtain ⟨A, hA⟩ : ∃ A, askFor m t tq = A := ⟨_, rfl⟩
 simp only [hQ] at q1 q3 hgs
 simp only [hA] at q2 q4 hgs
 clear hQ hA
 obtain ⟨g1, g2, g3, g4⟩ := hgs
 have G3 : Hid (∀ q ∈ Q, msgOk q = true ∧ q.h = m.b ∧ q.k = 1 ∧ q.t = tq) := g3
 have G4 : Hid (∀ q ∈ A, msgOk q = true ∧ q.n = (m.st.l.length : Int) ∧ q.h = m.b ∧ q.k = 2) := g4
 clear g3 g4
 go_wp2_with fail
 rw [HW2.out]
 refine (q1 W2 _ _ _ B2.out f_v2.out f_u2.out f_t2.out).mono ?_
 rintro e W3 ⟨v_g, rfl, o_g3, b3⟩
 obtain ⟨ao_g, L_g, cap_g, rfl, hL_g, hM_g⟩ := Om.form o_g3
 have HL_g : Hid (L_g = Q.length) := hL_g
 clear hL_g
 have z3 := b3.size
 have B3 := Ke.b B2 b3
 have r_m3 := Ke.r r_m2 b3
 have c_m3 := Ke.c r_m3
 clear r_m2 c_m2
 have f_v3 := Ke.h (Sl.later f_v2.out b3)
 have f_u3 := Ke.h (Sl.later f_u2.out b3)
 have f_t3 := Ke.h (Sh.later f_t2.out b3)
 clear f_v2 f_u2 f_t2
 have f_g3 : Hid (Omx W3 W2.heap.size W3.heap.size (.slice ao_g L_g cap_g) Q) := ⟨o_g3, Nat.le_refl _⟩
 clear o_g3
 go_wp2_with fail
 refine (q2 W3 _ _ _ B3.out f_v3.out f_u3.out f_t3.out).mono ?_
 rintro e W4 ⟨v_a, rfl, o_a4, b4⟩
 obtain ⟨ao_a, L_a, cap_a, rfl, hL_a, hM_a⟩ := Om.form o_a4
 have HL_a : Hid (L_a = A.length) := hL_a
 clear hL_a
 have z4 := b4.size
 have B4 := Ke.b B3 b4
 have r_m4 := Ke.r r_m3 b4
 have c_m4 := Ke.c r_m4
 clear r_m3 c_m3
 have f_v4 := Ke.h (Sl.later f_v3.out b4)
 have f_u4 := Ke.h (Sl.later f_u3.out b4)
 have f_t4 := Ke.h (Sh.later f_t3.out b4)
 have f_g4 := Ke.h (Omx.later f_g3.out b4)
 clear f_v3 f_u3 f_t3 f_g3
 have f_a4 : Hid (Omx W4 W3.heap.size W4.heap.size (.slice ao_a L_a cap_a) A) := ⟨o_a4, Nat.le_refl _⟩
 clear o_a4
 have dl : L_a ≤ L_g := by have h1 := HL_g.out; have h2 := HL_a.out; omega
 have d1 : ¬ (1 : Int) < (L_g : Int) := by omega
 have d1b : decide ((1 : Int) < (L_g : Int)) = false := decide_eq_false d1
 have d2 : ¬ (L_g : Int) < (L_a : Int) := by omega
 have d2b : decide ((L_g : Int) < (L_a : Int)) = false := decide_eq_false d2
 clear g1 g2
 go_wp2_with fail
 refine (q3 W4 _ _ _ f_v4.out f_u4.out f_t4.out).mono ?_
 rintro e W5 ⟨v_h, rfl, o_h5, b5⟩
 obtain ⟨ao_h, L_h, cap_h, rfl, hL_h, hM_h⟩ := Om.form o_h5
 have HL_h : Hid (L_h = Q.length) := hL_h
 clear hL_h
 have z5 := b5.size
 have B5 := Ke.b B4 b5
 have r_m5 := Ke.r r_m4 b5
 have c_m5 := Ke.c r_m5
 clear r_m4 c_m4
 have f_v5 := Ke.h (Sl.later f_v4.out b5)
 have f_u5 := Ke.h (Sl.later f_u4.out b5)
 have f_t5 := Ke.h (Sh.later f_t4.out b5)
 have f_g5 := Ke.h (Omx.later f_g4.out b5)
 have f_a5 := Ke.h (Omx.later f_a4.out b5)
 clear f_v4 f_u4 f_t4 f_g4 f_a4
 have f_h5 : Hid (Omx W5 W4.heap.size W5.heap.size (.slice ao_h L_h cap_h) Q) := ⟨o_h5, Nat.le_refl _⟩
 clear o_h5
 obtain rfl : L_g = L_h := by have h1 := HL_g.out; have h2 := HL_h.out; omega
 have e1 : ((L_g : Int) != (L_g : Int)) = false := by simp
 go_wp2_with fail
 refine (q4 W5 _ _ _ f_v5.out f_u5.out f_t5.out).mono ?_
 rintro e W6 ⟨v_b, rfl, o_b6, b6⟩
 obtain ⟨ao_b, L_b, cap_b, rfl, hL_b, hM_b⟩ := Om.form o_b6
 have HL_b : Hid (L_b = A.length) := hL_b
 clear hL_b
 have z6 := b6.size
 have B6 := Ke.b B5 b6
 have r_m6 := Ke.r r_m5 b6
 have c_m6 := Ke.c r_m6
 clear r_m5 c_m5
 have f_v6 := Ke.h (Sl.later f_v5.out b6)
 have f_u6 := Ke.h (Sl.later f_u5.out b6)
 have f_t6 := Ke.h (Sh.later f_t5.out b6)
 have f_g6 := Ke.h (Omx.later f_g5.out b6)
 have f_a6 := Ke.h (Omx.later f_a5.out b6)
 have f_h6 := Ke.h (Omx.later f_h5.out b6)
 clear f_v5 f_u5 f_t5 f_g5 f_a5 f_h5
 have f_b6 : Hid (Omx W6 W5.heap.size W6.heap.size (.slice ao_b L_b cap_b) A) := ⟨o_b6, Nat.le_refl _⟩
 clear o_b6
 obtain rfl : L_a = L_b := by have h1 := HL_a.out; have h2 := HL_b.out; omega
 have e2 : ((L_a : Int) != (L_a : Int)) = false := by simp
 clear f_h6
 clear f_b6
 clear q1 q2 q3 q4
 by_cases hg0 : L_g = 0
 ·
  have ha0 : L_a = 0 := by omega
  subst hg0
  subst ha0
  go_wp2_with fail
  refine wp_region_held_drew (S := fun w' => (∀ j, w'.cell? ⟨W1.heap.size, j, none⟩ = #[.int .i64 m.id, .slice ao_v m.st.l.length cap_v, .int .i64 m.st.h.n, .string m.st.h.r, .slice ao_u m.st.b.length cap_u, .int .i64 m.st.s, .int .i64 m.b.n, .string m.b.r][j]?)) (by kernel_rfl) c_m6 (fun hHeld => ?_)
  refine Ke.y 0 rfl (fun _ _ _ h => h) ?_
  try simp only [Act.put, pu1, pu2, pu3, pu4, pu5, pu6]
  refine Ke.y 1 rfl (fun _ _ _ h => h) ?_
  try simp only [Act.put, pu1, pu2, pu3, pu4, pu5, pu6]
  refine Ke.y 2 rfl (fun _ _ _ h => h) ?_
  try simp only [Act.put, pu1, pu2, pu3, pu4, pu5, pu6]
  refine Ke.y 3 rfl (fun _ _ _ h => h) ?_
  try simp only [Act.put, pu1, pu2, pu3, pu4, pu5, pu6]
  refine Ke.x 4 rfl (fun _ _ _ h => h) ?_
  try simp only [Act.put, pu1, pu2, pu3, pu4, pu5, pu6]
  refine Ke.x 5 rfl (fun _ _ _ h => h) ?_
  try simp only [Act.put, pu1, pu2, pu3, pu4, pu5, pu6]
  refine Ke.x 6 rfl (fun _ _ _ h => h) ?_
  try simp only [Act.put, pu1, pu2, pu3, pu4, pu5, pu6]
  refine Ke.x 7 rfl (fun _ _ _ h => h) ?_
  try simp only [Act.put, pu1, pu2, pu3, pu4, pu5, pu6]
  refine Ke.x 8 rfl (fun _ _ _ h => h) ?_
  try simp only [Act.put, pu1, pu2, pu3, pu4, pu5, pu6]
  refine Ke.x 9 rfl (fun _ _ _ h => h) ?_
  try simp only [Act.put, pu1, pu2, pu3, pu4, pu5, pu6]
  refine Ke.x 10 rfl (fun _ _ _ h => h) ?_
  try simp only [Act.put, pu1, pu2, pu3, pu4, pu5, pu6]
  refine Ke.x 11 rfl (fun _ _ _ h => h) ?_
  try simp only [Act.put, pu1, pu2, pu3, pu4, pu5, pu6]
  refine Ke.x 12 rfl (fun _ _ _ h => h) ?_
  try simp only [Act.put, pu1, pu2, pu3, pu4, pu5, pu6]
  refine Ke.x 13 rfl (fun _ _ _ h => h) ?_
  try simp only [Act.put, pu1, pu2, pu3, pu4, pu5, pu6]
  refine Ke.x 14 rfl (fun _ _ _ h => h) ?_
  try simp only [Act.put, pu1, pu2, pu3, pu4, pu5, pu6]
  refine Ke.x 15 rfl (fun _ _ _ h => h) ?_
  try simp only [Act.put, pu1, pu2, pu3, pu4, pu5, pu6]
  refine Ke.x 16 rfl (fun _ _ _ h => h) ?_
  try simp only [Act.put, pu1, pu2, pu3, pu4, pu5, pu6]
  refine Ke.x 17 rfl (fun _ _ _ h => h) ?_
  try simp only [Act.put, pu1, pu2, pu3, pu4, pu5, pu6]
  refine Ke.x 18 rfl (fun _ _ _ h => h) ?_
  try simp only [Act.put, pu1, pu2, pu3, pu4, pu5, pu6]
  refine Ke.x 19 rfl (fun _ _ _ h => h) ?_
  try simp only [Act.put, pu1, pu2, pu3, pu4, pu5, pu6]
  refine Ke.x 20 rfl (fun _ _ _ h => h) ?_
  try simp only [Act.put, pu1, pu2, pu3, pu4, pu5, pu6]
  refine Ke.x 21 rfl (fun _ _ _ h => h) ?_
  try simp only [Act.put, pu1, pu2, pu3, pu4, pu5, pu6]
  refine Ke.x 22 rfl (fun _ _ _ h => h) ?_
  try simp only [Act.put, pu1, pu2, pu3, pu4, pu5, pu6]
  refine Ke.x 23 rfl (fun _ _ _ h => h) ?_
  try simp only [Act.put, pu1, pu2, pu3, pu4, pu5, pu6]
  refine Ke.x 24 rfl (fun _ _ _ h => h) ?_
  try simp only [Act.put, pu1, pu2, pu3, pu4, pu5, pu6]
  refine Ke.x 25 rfl (fun _ _ _ h => h) ?_
  try simp only [Act.put, pu1, pu2, pu3, pu4, pu5, pu6]
  refine Ke.x 26 rfl (fun _ _ _ h => h) ?_
  try simp only [Act.put, pu1, pu2, pu3, pu4, pu5, pu6]
  refine Ke.x 27 rfl (fun _ _ _ h => h) ?_
  try simp only [Act.put, pu1, pu2, pu3, pu4, pu5, pu6]
  refine Ke.x 28 rfl (fun _ _ _ h => h) ?_
  try simp only [Act.put, pu1, pu2, pu3, pu4, pu5, pu6]
  refine Ke.x 29 rfl (fun _ _ _ h => h) ?_
  try simp only [Act.put, pu1, pu2, pu3, pu4, pu5, pu6]
  refine Ke.x 30 rfl (fun _ _ _ h => h) ?_
  try simp only [Act.put, pu1, pu2, pu3, pu4, pu5, pu6]
  refine Ke.x 31 rfl (fun _ _ _ h => h) ?_
  try simp only [Act.put, pu1, pu2, pu3, pu4, pu5, pu6]
  refine Ke.x 32 rfl (fun _ _ _ h => h) ?_
  try simp only [Act.put, pu1, pu2, pu3, pu4, pu5, pu6]
  refine Ke.y 33 rfl (fun _ _ _ h => h) ?_
  try simp only [Act.put, pu1, pu2, pu3, pu4, pu5, pu6]
  refine wpAnyH_done (by kernel_rfl) ?_ _
  clear hHeld
  obtain ⟨W7, HW7, b7⟩ : ∃ X, Hid (W6.drew = X) ∧ Below W6.heap.size W6 X := ⟨_, rfl, Below.drew (Below.refl _ _)⟩
  rw [HW7.out]
  have z7 := b7.size
  have B7 := Ke.b B6 b7
  have r_m7 := Ke.r r_m6 b7
  have c_m7 := Ke.c r_m7
  clear r_m6 c_m6
  have f_v7 := Ke.h (Sl.later f_v6.out b7)
  have f_u7 := Ke.h (Sl.later f_u6.out b7)
  have f_t7 := Ke.h (Sh.later f_t6.out b7)
  have f_g7 := Ke.h (Omx.later f_g6.out b7)
  have f_a7 := Ke.h (Omx.later f_a6.out b7)
  clear f_v6 f_u6 f_t6 f_g6 f_a6
  go_wp2_with fail
  refine wp_region_held_drew (S := fun w' => (∀ j, w'.cell? ⟨W1.heap.size, j, none⟩ = #[.int .i64 m.id, .slice ao_v m.st.l.length cap_v, .int .i64 m.st.h.n, .string m.st.h.r, .slice ao_u m.st.b.length cap_u, .int .i64 m.st.s, .int .i64 m.b.n, .string m.b.r][j]?)) (by kernel_rfl) c_m7 (fun hHeld => ?_)
  refine Ke.y 0 rfl (fun _ _ _ h => h) ?_
  try simp only [Act.put, pu1, pu2, pu3, pu4, pu5, pu6]
  refine Ke.y 1 rfl (fun _ _ _ h => h) ?_
  try simp only [Act.put, pu1, pu2, pu3, pu4, pu5, pu6]
  refine Ke.y 2 rfl (fun _ _ _ h => h) ?_
  try simp only [Act.put, pu1, pu2, pu3, pu4, pu5, pu6]
  refine Ke.y 3 rfl (fun _ _ _ h => h) ?_
  try simp only [Act.put, pu1, pu2, pu3, pu4, pu5, pu6]
  refine Ke.x 4 rfl (fun _ _ _ h => h) ?_
  try simp only [Act.put, pu1, pu2, pu3, pu4, pu5, pu6]
  refine Ke.x 5 rfl (fun _ _ _ h => h) ?_
  try simp only [Act.put, pu1, pu2, pu3, pu4, pu5, pu6]
  refine Ke.x 6 rfl (fun _ _ _ h => h) ?_
  try simp only [Act.put, pu1, pu2, pu3, pu4, pu5, pu6]
  refine Ke.x 7 rfl (fun _ _ _ h => h) ?_
  try simp only [Act.put, pu1, pu2, pu3, pu4, pu5, pu6]
  refine Ke.x 8 rfl (fun _ _ _ h => h) ?_
  try simp only [Act.put, pu1, pu2, pu3, pu4, pu5, pu6]
  refine Ke.x 9 rfl (fun _ _ _ h => h) ?_
  try simp only [Act.put, pu1, pu2, pu3, pu4, pu5, pu6]
  refine Ke.x 10 rfl (fun _ _ _ h => h) ?_
  try simp only [Act.put, pu1, pu2, pu3, pu4, pu5, pu6]
  refine Ke.x 11 rfl (fun _ _ _ h => h) ?_
  try simp only [Act.put, pu1, pu2, pu3, pu4, pu5, pu6]
  refine Ke.x 12 rfl (fun _ _ _ h => h) ?_
  try simp only [Act.put, pu1, pu2, pu3, pu4, pu5, pu6]
  refine Ke.x 13 rfl (fun _ _ _ h => h) ?_
  try simp only [Act.put, pu1, pu2, pu3, pu4, pu5, pu6]
  refine Ke.x 14 rfl (fun _ _ _ h => h) ?_
  try simp only [Act.put, pu1, pu2, pu3, pu4, pu5, pu6]
  refine Ke.x 15 rfl (fun _ _ _ h => h) ?_
  try simp only [Act.put, pu1, pu2, pu3, pu4, pu5, pu6]
  refine Ke.x 16 rfl (fun _ _ _ h => h) ?_
  try simp only [Act.put, pu1, pu2, pu3, pu4, pu5, pu6]
  refine Ke.x 17 rfl (fun _ _ _ h => h) ?_
  try simp only [Act.put, pu1, pu2, pu3, pu4, pu5, pu6]
  refine Ke.x 18 rfl (fun _ _ _ h => h) ?_
  try simp only [Act.put, pu1, pu2, pu3, pu4, pu5, pu6]
  refine Ke.x 19 rfl (fun _ _ _ h => h) ?_
  try simp only [Act.put, pu1, pu2, pu3, pu4, pu5, pu6]
  refine Ke.x 20 rfl (fun _ _ _ h => h) ?_
  try simp only [Act.put, pu1, pu2, pu3, pu4, pu5, pu6]
  refine Ke.x 21 rfl (fun _ _ _ h => h) ?_
  try simp only [Act.put, pu1, pu2, pu3, pu4, pu5, pu6]
  refine Ke.x 22 rfl (fun _ _ _ h => h) ?_
  try simp only [Act.put, pu1, pu2, pu3, pu4, pu5, pu6]
  refine Ke.x 23 rfl (fun _ _ _ h => h) ?_
  try simp only [Act.put, pu1, pu2, pu3, pu4, pu5, pu6]
  refine Ke.x 24 rfl (fun _ _ _ h => h) ?_
  try simp only [Act.put, pu1, pu2, pu3, pu4, pu5, pu6]
  refine Ke.x 25 rfl (fun _ _ _ h => h) ?_
  try simp only [Act.put, pu1, pu2, pu3, pu4, pu5, pu6]
  refine Ke.x 26 rfl (fun _ _ _ h => h) ?_
  try simp only [Act.put, pu1, pu2, pu3, pu4, pu5, pu6]
  refine Ke.x 27 rfl (fun _ _ _ h => h) ?_
  try simp only [Act.put, pu1, pu2, pu3, pu4, pu5, pu6]
  refine Ke.x 28 rfl (fun _ _ _ h => h) ?_
  try simp only [Act.put, pu1, pu2, pu3, pu4, pu5, pu6]
  refine Ke.x 29 rfl (fun _ _ _ h => h) ?_
  try simp only [Act.put, pu1, pu2, pu3, pu4, pu5, pu6]
  refine Ke.x 30 rfl (fun _ _ _ h => h) ?_
  try simp only [Act.put, pu1, pu2, pu3, pu4, pu5, pu6]
  refine Ke.x 31 rfl (fun _ _ _ h => h) ?_
  try simp only [Act.put, pu1, pu2, pu3, pu4, pu5, pu6]
  refine Ke.x 32 rfl (fun _ _ _ h => h) ?_
  try simp only [Act.put, pu1, pu2, pu3, pu4, pu5, pu6]
  refine Ke.x 33 rfl (fun _ _ _ h => h) ?_
  try simp only [Act.put, pu1, pu2, pu3, pu4, pu5, pu6]
  refine Ke.x 34 rfl (fun _ _ _ h => h) ?_
  try simp only [Act.put, pu1, pu2, pu3, pu4, pu5, pu6]
  refine Ke.x 35 rfl (fun _ _ _ h => h) ?_
  try simp only [Act.put, pu1, pu2, pu3, pu4, pu5, pu6]
  refine Ke.y 36 rfl (fun _ _ _ h => h) ?_
  try simp only [Act.put, pu1, pu2, pu3, pu4, pu5, pu6]
  refine Ke.y 37 rfl (fun _ _ _ h => h) ?_
  try simp only [Act.put, pu1, pu2, pu3, pu4, pu5, pu6]
  refine wpAnyH_done (by kernel_rfl) ?_ _
  clear hHeld
  obtain ⟨W8, HW8, b8⟩ : ∃ X, Hid (W7.drew = X) ∧ Below W7.heap.size W7 X := ⟨_, rfl, Below.drew (Below.refl _ _)⟩
  rw [HW8.out]
  have z8 := b8.size
  have B8 := Ke.b B7 b8
  have r_m8 := Ke.r r_m7 b8
  have c_m8 := Ke.c r_m8
  clear r_m7 c_m7
  have f_v8 := Ke.h (Sl.later f_v7.out b8)
  have f_u8 := Ke.h (Sl.later f_u7.out b8)
  have f_t8 := Ke.h (Sh.later f_t7.out b8)
  have f_g8 := Ke.h (Omx.later f_g7.out b8)
  have f_a8 := Ke.h (Omx.later f_a7.out b8)
  clear f_v7 f_u7 f_t7 f_g7 f_a7
  go_wp2
  go_ret
  exact ⟨rfl, B8.out⟩
 ·
  obtain ⟨q, rfl⟩ : ∃ q, Q = [q] := by { have h1 := HL_g.out; cases Q with | nil => simp at h1; omega | cons x y => cases y with | nil => exact ⟨x, rfl⟩ | cons _ _ => simp at h1; omega }
  obtain ⟨p1, p2, p3, p4⟩ := G3.out q (List.mem_singleton.2 rfl)
  obtain ⟨qk, qf, qt, qh, qn, qx⟩ := q
  simp only at p2 p3 p4
  subst p2 p3
  have p4 := p4.symm
  subst p4
  clear G3 HL_g
  obtain ⟨gq, uq, rfl, rfl, rfl, hr_gq, ho_uq⟩ := Omx.get f_g6.out
  have r_gq6 : Hid (W6.heap[gq]? = some (.cells #[.int .i64 1, .int .i64 qf, .int .i64 tq, .int .i64 m.b.n, .string m.b.r, .int .i64 qn, uq] 35 (0, 0))) := hr_gq
  clear hr_gq
  have c_gq6 := Ke.c r_gq6
  have f_uq6 : Hid (Sl W6 uq (ss (⟨1, qf, tq, m.b, qn, qx⟩ : Ms).x)) := ho_uq.sl
  clear ho_uq
  clear f_g6
  have hxl : qx.length ≤ 200 := Mg.msg_len p1
  have hqr : m.b.r.size ≤ 32 := hgr
  have qm : ∀ W, Sl W uq (ss qx) → _ := fun W h1 => Wd.msgok_impl W uq (⟨1, qf, tq, m.b, qn, qx⟩ : Ms) h1 (by simp only; omega) (by simp only; omega)
  simp only [p1] at qm
  clear p1
  have ee : ∀ W, _ := fun W => eqlH W m.b m.b
  have en : ∀ W, _ := fun W => neqH W m.b m.b
  have hhh : eqH m.b m.b = true := (eqH_iff _ _).2 rfl
  simp only [hhh, Bool.not_true] at ee en
  have gg : ∀ W op y z xs ys, _ := fun W op y z xs ys => grdH W op y z xs ys
  clear hhh
  have e5 : (tq != tq) = false := by simp
  go_wp2_with fail
  refine wp_region_held_drew (S := fun w' => (∀ j, w'.cell? ⟨W1.heap.size, j, none⟩ = #[.int .i64 m.id, .slice ao_v m.st.l.length cap_v, .int .i64 m.st.h.n, .string m.st.h.r, .slice ao_u m.st.b.length cap_u, .int .i64 m.st.s, .int .i64 m.b.n, .string m.b.r][j]?) ∧ (∀ j, w'.cell? ⟨gq, j, none⟩ = #[.int .i64 1, .int .i64 qf, .int .i64 tq, .int .i64 m.b.n, .string m.b.r, .int .i64 qn, uq][j]?)) (by kernel_rfl) ⟨c_m6, c_gq6⟩ (fun hHeld => ?_)
  obtain ⟨W7, HW7, b7⟩ : ∃ X, Hid (W6.drew = X) ∧ Below W6.heap.size W6 X := ⟨_, rfl, Below.drew (Below.refl _ _)⟩
  have HHW7 := HW7.out
  rw [HHW7] at hHeld ⊢
  clear HHW7
  have z7 := b7.size
  have B7 := Ke.b B6 b7
  have r_m7 := Ke.r r_m6 b7
  have r_gq7 := Ke.r r_gq6 b7
  have c_m7 := Ke.c r_m7
  have c_gq7 := Ke.c r_gq7
  clear r_m6 c_m6 r_gq6 c_gq6
  have f_v7 := Ke.h (Sl.later f_v6.out b7)
  have f_u7 := Ke.h (Sl.later f_u6.out b7)
  have f_t7 := Ke.h (Sh.later f_t6.out b7)
  have f_a7 := Ke.h (Omx.later f_a6.out b7)
  have f_uq7 := Ke.h (Sl.later f_uq6.out b7)
  clear f_v6 f_u6 f_t6 f_a6 f_uq6
  refine Ke.y 0 rfl (fun _ _ _ h => h) ?_
  try simp only [Act.put, pu1, pu2, pu3, pu4, pu5, pu6]
  refine Ke.y 1 rfl (fun _ _ _ h => h) ?_
  try simp only [Act.put, pu1, pu2, pu3, pu4, pu5, pu6]
  refine Ke.y 2 rfl (fun _ _ _ h => h) ?_
  try simp only [Act.put, pu1, pu2, pu3, pu4, pu5, pu6]
  refine Ke.y 3 rfl (fun _ _ _ h => h) ?_
  try simp only [Act.put, pu1, pu2, pu3, pu4, pu5, pu6]
  refine Ke.y 4 rfl (fun _ _ _ h => h) ?_
  try simp only [Act.put, pu1, pu2, pu3, pu4, pu5, pu6]
  refine Ke.y 5 rfl (fun _ _ _ h => h) ?_
  try simp only [Act.put, pu1, pu2, pu3, pu4, pu5, pu6]
  refine Ke.y 6 rfl (fun _ _ _ h => h) ?_
  try simp only [Act.put, pu1, pu2, pu3, pu4, pu5, pu6]
  refine Ke.z 7 rfl (fun K hK => ?_)
  go_simp
  refine (qm W7 f_uq7.out).mono ?_
  rintro e W8 ⟨rfl, b8⟩
  refine hK.out _ _ ⟨(Ke.k (W := W7) hHeld.1 b8), (Ke.k (W := W7) hHeld.2 b8)⟩ (fun hHeld => ?_)
  clear hK K
  try simp only [Act.put, pu1, pu2, pu3, pu4, pu5, pu6]
  have z8 := b8.size
  have B8 := Ke.b B7 b8
  have r_m8 := Ke.r r_m7 b8
  have r_gq8 := Ke.r r_gq7 b8
  have c_m8 := Ke.c r_m8
  have c_gq8 := Ke.c r_gq8
  clear r_m7 c_m7 r_gq7 c_gq7
  have f_v8 := Ke.h (Sl.later f_v7.out b8)
  have f_u8 := Ke.h (Sl.later f_u7.out b8)
  have f_t8 := Ke.h (Sh.later f_t7.out b8)
  have f_a8 := Ke.h (Omx.later f_a7.out b8)
  have f_uq8 := Ke.h (Sl.later f_uq7.out b8)
  clear f_v7 f_u7 f_t7 f_a7 f_uq7
  refine Ke.y 8 rfl (fun _ _ _ h => h) ?_
  try simp only [Act.put, pu1, pu2, pu3, pu4, pu5, pu6]
  refine Ke.y 9 rfl (fun _ _ _ h => h) ?_
  try simp only [Act.put, pu1, pu2, pu3, pu4, pu5, pu6]
  refine Ke.y 10 rfl (fun _ _ _ h => h) ?_
  try simp only [Act.put, pu1, pu2, pu3, pu4, pu5, pu6]
  refine Ke.y 11 rfl (fun _ _ _ h => h) ?_
  try simp only [Act.put, pu1, pu2, pu3, pu4, pu5, pu6]
  refine Ke.y 12 rfl (fun _ _ _ h => h) ?_
  try simp only [Act.put, pu1, pu2, pu3, pu4, pu5, pu6]
  refine Ke.y 13 rfl (fun _ _ _ h => h) ?_
  try simp only [Act.put, pu1, pu2, pu3, pu4, pu5, pu6]
  refine Ke.y 14 rfl (fun _ _ _ h => h) ?_
  try simp only [Act.put, pu1, pu2, pu3, pu4, pu5, pu6]
  refine Ke.y 15 rfl (fun _ _ _ h => h) ?_
  try simp only [Act.put, pu1, pu2, pu3, pu4, pu5, pu6]
  refine Ke.y 16 rfl (fun _ _ _ h => h) ?_
  try simp only [Act.put, pu1, pu2, pu3, pu4, pu5, pu6]
  refine Ke.y 17 rfl (fun _ _ _ h => h) ?_
  try simp only [Act.put, pu1, pu2, pu3, pu4, pu5, pu6]
  refine Ke.y 18 rfl (fun _ _ _ h => h) ?_
  try simp only [Act.put, pu1, pu2, pu3, pu4, pu5, pu6]
  refine Ke.y 19 rfl (fun _ _ _ h => h) ?_
  try simp only [Act.put, pu1, pu2, pu3, pu4, pu5, pu6]
  refine Ke.y 20 rfl (fun _ _ _ h => h) ?_
  try simp only [Act.put, pu1, pu2, pu3, pu4, pu5, pu6]
  refine Ke.y 21 rfl (fun _ _ _ h => h) ?_
  try simp only [Act.put, pu1, pu2, pu3, pu4, pu5, pu6]
  refine Ke.y 22 rfl (fun _ _ _ h => h) ?_
  try simp only [Act.put, pu1, pu2, pu3, pu4, pu5, pu6]
  refine Ke.y 23 rfl (fun _ _ _ h => h) ?_
  try simp only [Act.put, pu1, pu2, pu3, pu4, pu5, pu6]
  refine Ke.y 24 rfl (fun _ _ _ h => h) ?_
  try simp only [Act.put, pu1, pu2, pu3, pu4, pu5, pu6]
  refine Ke.y 25 rfl (fun _ _ _ h => h) ?_
  try simp only [Act.put, pu1, pu2, pu3, pu4, pu5, pu6]
  refine Ke.y 26 rfl (fun _ _ _ h => h) ?_
  try simp only [Act.put, pu1, pu2, pu3, pu4, pu5, pu6]
  refine Ke.y 27 rfl (fun _ _ _ h => h) ?_
  try simp only [Act.put, pu1, pu2, pu3, pu4, pu5, pu6]
  refine Ke.y 28 rfl (fun _ _ _ h => h) ?_
  try simp only [Act.put, pu1, pu2, pu3, pu4, pu5, pu6]
  refine Ke.y 29 rfl (fun _ _ _ h => h) ?_
  try simp only [Act.put, pu1, pu2, pu3, pu4, pu5, pu6]
  refine Ke.y 30 rfl (fun _ _ _ h => h) ?_
  try simp only [Act.put, pu1, pu2, pu3, pu4, pu5, pu6]
  refine Ke.y 31 rfl (fun _ _ _ h => h) ?_
  try simp only [Act.put, pu1, pu2, pu3, pu4, pu5, pu6]
  refine Ke.y 32 rfl (fun _ _ _ h => h) ?_
  try simp only [Act.put, pu1, pu2, pu3, pu4, pu5, pu6]
  refine Ke.y 33 rfl (fun _ _ _ h => h) ?_
  try simp only [Act.put, pu1, pu2, pu3, pu4, pu5, pu6]
  refine wpAnyH_done (by kernel_rfl) ?_ _
  clear hHeld
  clear qm ee en gg e5 hxl hqr
  clear r_gq8 c_gq8
  clear f_uq8
  by_cases ha0 : L_a = 0
  ·
   subst ha0
   go_wp2_with fail
   refine wp_region_held_drew (S := fun w' => (∀ j, w'.cell? ⟨W1.heap.size, j, none⟩ = #[.int .i64 m.id, .slice ao_v m.st.l.length cap_v, .int .i64 m.st.h.n, .string m.st.h.r, .slice ao_u m.st.b.length cap_u, .int .i64 m.st.s, .int .i64 m.b.n, .string m.b.r][j]?)) (by kernel_rfl) c_m8 (fun hHeld => ?_)
   refine Ke.y 0 rfl (fun _ _ _ h => h) ?_
   try simp only [Act.put, pu1, pu2, pu3, pu4, pu5, pu6]
   refine Ke.y 1 rfl (fun _ _ _ h => h) ?_
   try simp only [Act.put, pu1, pu2, pu3, pu4, pu5, pu6]
   refine Ke.y 2 rfl (fun _ _ _ h => h) ?_
   try simp only [Act.put, pu1, pu2, pu3, pu4, pu5, pu6]
   refine Ke.y 3 rfl (fun _ _ _ h => h) ?_
   try simp only [Act.put, pu1, pu2, pu3, pu4, pu5, pu6]
   refine Ke.x 4 rfl (fun _ _ _ h => h) ?_
   try simp only [Act.put, pu1, pu2, pu3, pu4, pu5, pu6]
   refine Ke.x 5 rfl (fun _ _ _ h => h) ?_
   try simp only [Act.put, pu1, pu2, pu3, pu4, pu5, pu6]
   refine Ke.x 6 rfl (fun _ _ _ h => h) ?_
   try simp only [Act.put, pu1, pu2, pu3, pu4, pu5, pu6]
   refine Ke.x 7 rfl (fun _ _ _ h => h) ?_
   try simp only [Act.put, pu1, pu2, pu3, pu4, pu5, pu6]
   refine Ke.x 8 rfl (fun _ _ _ h => h) ?_
   try simp only [Act.put, pu1, pu2, pu3, pu4, pu5, pu6]
   refine Ke.x 9 rfl (fun _ _ _ h => h) ?_
   try simp only [Act.put, pu1, pu2, pu3, pu4, pu5, pu6]
   refine Ke.x 10 rfl (fun _ _ _ h => h) ?_
   try simp only [Act.put, pu1, pu2, pu3, pu4, pu5, pu6]
   refine Ke.x 11 rfl (fun _ _ _ h => h) ?_
   try simp only [Act.put, pu1, pu2, pu3, pu4, pu5, pu6]
   refine Ke.x 12 rfl (fun _ _ _ h => h) ?_
   try simp only [Act.put, pu1, pu2, pu3, pu4, pu5, pu6]
   refine Ke.x 13 rfl (fun _ _ _ h => h) ?_
   try simp only [Act.put, pu1, pu2, pu3, pu4, pu5, pu6]
   refine Ke.x 14 rfl (fun _ _ _ h => h) ?_
   try simp only [Act.put, pu1, pu2, pu3, pu4, pu5, pu6]
   refine Ke.x 15 rfl (fun _ _ _ h => h) ?_
   try simp only [Act.put, pu1, pu2, pu3, pu4, pu5, pu6]
   refine Ke.x 16 rfl (fun _ _ _ h => h) ?_
   try simp only [Act.put, pu1, pu2, pu3, pu4, pu5, pu6]
   refine Ke.x 17 rfl (fun _ _ _ h => h) ?_
   try simp only [Act.put, pu1, pu2, pu3, pu4, pu5, pu6]
   refine Ke.x 18 rfl (fun _ _ _ h => h) ?_
   try simp only [Act.put, pu1, pu2, pu3, pu4, pu5, pu6]
   refine Ke.x 19 rfl (fun _ _ _ h => h) ?_
   try simp only [Act.put, pu1, pu2, pu3, pu4, pu5, pu6]
   refine Ke.x 20 rfl (fun _ _ _ h => h) ?_
   try simp only [Act.put, pu1, pu2, pu3, pu4, pu5, pu6]
   refine Ke.x 21 rfl (fun _ _ _ h => h) ?_
   try simp only [Act.put, pu1, pu2, pu3, pu4, pu5, pu6]
   refine Ke.x 22 rfl (fun _ _ _ h => h) ?_
   try simp only [Act.put, pu1, pu2, pu3, pu4, pu5, pu6]
   refine Ke.x 23 rfl (fun _ _ _ h => h) ?_
   try simp only [Act.put, pu1, pu2, pu3, pu4, pu5, pu6]
   refine Ke.x 24 rfl (fun _ _ _ h => h) ?_
   try simp only [Act.put, pu1, pu2, pu3, pu4, pu5, pu6]
   refine Ke.x 25 rfl (fun _ _ _ h => h) ?_
   try simp only [Act.put, pu1, pu2, pu3, pu4, pu5, pu6]
   refine Ke.x 26 rfl (fun _ _ _ h => h) ?_
   try simp only [Act.put, pu1, pu2, pu3, pu4, pu5, pu6]
   refine Ke.x 27 rfl (fun _ _ _ h => h) ?_
   try simp only [Act.put, pu1, pu2, pu3, pu4, pu5, pu6]
   refine Ke.x 28 rfl (fun _ _ _ h => h) ?_
   try simp only [Act.put, pu1, pu2, pu3, pu4, pu5, pu6]
   refine Ke.x 29 rfl (fun _ _ _ h => h) ?_
   try simp only [Act.put, pu1, pu2, pu3, pu4, pu5, pu6]
   refine Ke.x 30 rfl (fun _ _ _ h => h) ?_
   try simp only [Act.put, pu1, pu2, pu3, pu4, pu5, pu6]
   refine Ke.x 31 rfl (fun _ _ _ h => h) ?_
   try simp only [Act.put, pu1, pu2, pu3, pu4, pu5, pu6]
   refine Ke.x 32 rfl (fun _ _ _ h => h) ?_
   try simp only [Act.put, pu1, pu2, pu3, pu4, pu5, pu6]
   refine Ke.x 33 rfl (fun _ _ _ h => h) ?_
   try simp only [Act.put, pu1, pu2, pu3, pu4, pu5, pu6]
   refine Ke.x 34 rfl (fun _ _ _ h => h) ?_
   try simp only [Act.put, pu1, pu2, pu3, pu4, pu5, pu6]
   refine Ke.x 35 rfl (fun _ _ _ h => h) ?_
   try simp only [Act.put, pu1, pu2, pu3, pu4, pu5, pu6]
   refine Ke.y 36 rfl (fun _ _ _ h => h) ?_
   try simp only [Act.put, pu1, pu2, pu3, pu4, pu5, pu6]
   refine Ke.y 37 rfl (fun _ _ _ h => h) ?_
   try simp only [Act.put, pu1, pu2, pu3, pu4, pu5, pu6]
   refine wpAnyH_done (by kernel_rfl) ?_ _
   clear hHeld
   obtain ⟨W9, HW9, b9⟩ : ∃ X, Hid (W8.drew = X) ∧ Below W8.heap.size W8 X := ⟨_, rfl, Below.drew (Below.refl _ _)⟩
   rw [HW9.out]
   have z9 := b9.size
   have B9 := Ke.b B8 b9
   have r_m9 := Ke.r r_m8 b9
   have c_m9 := Ke.c r_m9
   clear r_m8 c_m8
   have f_v9 := Ke.h (Sl.later f_v8.out b9)
   have f_u9 := Ke.h (Sl.later f_u8.out b9)
   have f_t9 := Ke.h (Sh.later f_t8.out b9)
   have f_a9 := Ke.h (Omx.later f_a8.out b9)
   clear f_v8 f_u8 f_t8 f_a8
   go_wp2
   go_ret
   exact ⟨rfl, B9.out⟩
  ·
   obtain ⟨a, rfl⟩ : ∃ a, A = [a] := by { have h1 := HL_a.out; cases A with | nil => simp at h1; omega | cons x y => cases y with | nil => exact ⟨x, rfl⟩ | cons _ _ => simp at h1; omega }
   obtain ⟨p1, p2, p3, p4⟩ := G4.out a (List.mem_singleton.2 rfl)
   obtain ⟨ak, af, at_, ah, an, ax⟩ := a
   simp only at p2 p3 p4
   subst p2 p3 p4
   clear G4 HL_a
   obtain ⟨ga, ua, rfl, rfl, rfl, hr_ga, ho_ua⟩ := Omx.get f_a8.out
   have r_ga8 : Hid (W8.heap[ga]? = some (.cells #[.int .i64 2, .int .i64 af, .int .i64 at_, .int .i64 m.b.n, .string m.b.r, .int .i64 (m.st.l.length : Int), ua] 35 (0, 0))) := hr_ga
   clear hr_ga
   have c_ga8 := Ke.c r_ga8
   have f_ua8 : Hid (Sl W8 ua (ss (⟨2, af, at_, m.b, (m.st.l.length : Int), ax⟩ : Ms).x)) := ho_ua.sl
   clear ho_ua
   clear f_a8
   have hxl : ax.length ≤ 200 := Mg.msg_len p1
   have hqr : m.b.r.size ≤ 32 := hgr
   have qm : ∀ W, Sl W ua (ss ax) → _ := fun W h1 => Wd.msgok_impl W ua (⟨2, af, at_, m.b, (m.st.l.length : Int), ax⟩ : Ms) h1 (by simp only; omega) (by simp only; omega)
   simp only [p1] at qm
   clear p1
   have ee : ∀ W, _ := fun W => eqlH W m.b m.b
   have en : ∀ W, _ := fun W => neqH W m.b m.b
   have hhh : eqH m.b m.b = true := (eqH_iff _ _).2 rfl
   simp only [hhh, Bool.not_true] at ee en
   have gg : ∀ W op y z xs ys, _ := fun W op y z xs ys => grdH W op y z xs ys
   clear hhh
   have e5 : ((m.st.l.length : Int) == (m.st.l.length : Int)) = true := by simp
   go_wp2_with fail
   refine wp_region_held_drew (S := fun w' => (∀ j, w'.cell? ⟨W1.heap.size, j, none⟩ = #[.int .i64 m.id, .slice ao_v m.st.l.length cap_v, .int .i64 m.st.h.n, .string m.st.h.r, .slice ao_u m.st.b.length cap_u, .int .i64 m.st.s, .int .i64 m.b.n, .string m.b.r][j]?) ∧ (∀ j, w'.cell? ⟨ga, j, none⟩ = #[.int .i64 2, .int .i64 af, .int .i64 at_, .int .i64 m.b.n, .string m.b.r, .int .i64 (m.st.l.length : Int), ua][j]?)) (by kernel_rfl) ⟨c_m8, c_ga8⟩ (fun hHeld => ?_)
   obtain ⟨W9, HW9, b9⟩ : ∃ X, Hid (W8.drew = X) ∧ Below W8.heap.size W8 X := ⟨_, rfl, Below.drew (Below.refl _ _)⟩
   have HHW9 := HW9.out
   rw [HHW9] at hHeld ⊢
   clear HHW9
   have z9 := b9.size
   have B9 := Ke.b B8 b9
   have r_m9 := Ke.r r_m8 b9
   have r_ga9 := Ke.r r_ga8 b9
   have c_m9 := Ke.c r_m9
   have c_ga9 := Ke.c r_ga9
   clear r_m8 c_m8 r_ga8 c_ga8
   have f_v9 := Ke.h (Sl.later f_v8.out b9)
   have f_u9 := Ke.h (Sl.later f_u8.out b9)
   have f_t9 := Ke.h (Sh.later f_t8.out b9)
   have f_ua9 := Ke.h (Sl.later f_ua8.out b9)
   clear f_v8 f_u8 f_t8 f_ua8
   refine Ke.y 0 rfl (fun _ _ _ h => h) ?_
   try simp only [Act.put, pu1, pu2, pu3, pu4, pu5, pu6]
   refine Ke.y 1 rfl (fun _ _ _ h => h) ?_
   try simp only [Act.put, pu1, pu2, pu3, pu4, pu5, pu6]
   refine Ke.y 2 rfl (fun _ _ _ h => h) ?_
   try simp only [Act.put, pu1, pu2, pu3, pu4, pu5, pu6]
   refine Ke.y 3 rfl (fun _ _ _ h => h) ?_
   try simp only [Act.put, pu1, pu2, pu3, pu4, pu5, pu6]
   refine Ke.y 4 rfl (fun _ _ _ h => h) ?_
   try simp only [Act.put, pu1, pu2, pu3, pu4, pu5, pu6]
   refine Ke.y 5 rfl (fun _ _ _ h => h) ?_
   try simp only [Act.put, pu1, pu2, pu3, pu4, pu5, pu6]
   refine Ke.y 6 rfl (fun _ _ _ h => h) ?_
   try simp only [Act.put, pu1, pu2, pu3, pu4, pu5, pu6]
   refine Ke.z 7 rfl (fun K hK => ?_)
   go_simp
   refine (qm W9 f_ua9.out).mono ?_
   rintro e W10 ⟨rfl, b10⟩
   refine hK.out _ _ ⟨(Ke.k (W := W9) hHeld.1 b10), (Ke.k (W := W9) hHeld.2 b10)⟩ (fun hHeld => ?_)
   clear hK K
   try simp only [Act.put, pu1, pu2, pu3, pu4, pu5, pu6]
   have z10 := b10.size
   have B10 := Ke.b B9 b10
   have r_m10 := Ke.r r_m9 b10
   have r_ga10 := Ke.r r_ga9 b10
   have c_m10 := Ke.c r_m10
   have c_ga10 := Ke.c r_ga10
   clear r_m9 c_m9 r_ga9 c_ga9
   have f_v10 := Ke.h (Sl.later f_v9.out b10)
   have f_u10 := Ke.h (Sl.later f_u9.out b10)
   have f_t10 := Ke.h (Sh.later f_t9.out b10)
   have f_ua10 := Ke.h (Sl.later f_ua9.out b10)
   clear f_v9 f_u9 f_t9 f_ua9
   refine Ke.y 8 rfl (fun _ _ _ h => h) ?_
   try simp only [Act.put, pu1, pu2, pu3, pu4, pu5, pu6]
   refine Ke.y 9 rfl (fun _ _ _ h => h) ?_
   try simp only [Act.put, pu1, pu2, pu3, pu4, pu5, pu6]
   refine Ke.y 10 rfl (fun _ _ _ h => h) ?_
   try simp only [Act.put, pu1, pu2, pu3, pu4, pu5, pu6]
   refine Ke.y 11 rfl (fun _ _ _ h => h) ?_
   try simp only [Act.put, pu1, pu2, pu3, pu4, pu5, pu6]
   refine Ke.y 12 rfl (fun _ _ _ h => h) ?_
   try simp only [Act.put, pu1, pu2, pu3, pu4, pu5, pu6]
   refine Ke.y 13 rfl (fun _ _ _ h => h) ?_
   try simp only [Act.put, pu1, pu2, pu3, pu4, pu5, pu6]
   refine Ke.y 14 rfl (fun _ _ _ h => h) ?_
   try simp only [Act.put, pu1, pu2, pu3, pu4, pu5, pu6]
   refine Ke.y 15 rfl (fun _ _ _ h => h) ?_
   try simp only [Act.put, pu1, pu2, pu3, pu4, pu5, pu6]
   refine Ke.y 16 rfl (fun _ _ _ h => h) ?_
   try simp only [Act.put, pu1, pu2, pu3, pu4, pu5, pu6]
   refine Ke.y 17 rfl (fun _ _ _ h => h) ?_
   try simp only [Act.put, pu1, pu2, pu3, pu4, pu5, pu6]
   refine Ke.y 18 rfl (fun _ _ _ h => h) ?_
   try simp only [Act.put, pu1, pu2, pu3, pu4, pu5, pu6]
   refine Ke.y 19 rfl (fun _ _ _ h => h) ?_
   try simp only [Act.put, pu1, pu2, pu3, pu4, pu5, pu6]
   refine Ke.y 20 rfl (fun _ _ _ h => h) ?_
   try simp only [Act.put, pu1, pu2, pu3, pu4, pu5, pu6]
   refine Ke.y 21 rfl (fun _ _ _ h => h) ?_
   try simp only [Act.put, pu1, pu2, pu3, pu4, pu5, pu6]
   refine Ke.y 22 rfl (fun _ _ _ h => h) ?_
   try simp only [Act.put, pu1, pu2, pu3, pu4, pu5, pu6]
   refine Ke.y 23 rfl (fun _ _ _ h => h) ?_
   try simp only [Act.put, pu1, pu2, pu3, pu4, pu5, pu6]
   refine Ke.y 24 rfl (fun _ _ _ h => h) ?_
   try simp only [Act.put, pu1, pu2, pu3, pu4, pu5, pu6]
   refine Ke.y 25 rfl (fun _ _ _ h => h) ?_
   try simp only [Act.put, pu1, pu2, pu3, pu4, pu5, pu6]
   refine Ke.y 26 rfl (fun _ _ _ h => h) ?_
   try simp only [Act.put, pu1, pu2, pu3, pu4, pu5, pu6]
   refine Ke.y 27 rfl (fun _ _ _ h => h) ?_
   try simp only [Act.put, pu1, pu2, pu3, pu4, pu5, pu6]
   refine Ke.y 28 rfl (fun _ _ _ h => h) ?_
   try simp only [Act.put, pu1, pu2, pu3, pu4, pu5, pu6]
   refine Ke.y 29 rfl (fun _ _ _ h => h) ?_
   try simp only [Act.put, pu1, pu2, pu3, pu4, pu5, pu6]
   refine Ke.y 30 rfl (fun _ _ _ h => h) ?_
   try simp only [Act.put, pu1, pu2, pu3, pu4, pu5, pu6]
   refine Ke.y 31 rfl (fun _ _ _ h => h) ?_
   try simp only [Act.put, pu1, pu2, pu3, pu4, pu5, pu6]
   refine Ke.y 32 rfl (fun _ _ _ h => h) ?_
   try simp only [Act.put, pu1, pu2, pu3, pu4, pu5, pu6]
   refine Ke.y 33 rfl (fun _ _ _ h => h) ?_
   try simp only [Act.put, pu1, pu2, pu3, pu4, pu5, pu6]
   refine Ke.y 34 rfl (fun _ _ _ h => h) ?_
   try simp only [Act.put, pu1, pu2, pu3, pu4, pu5, pu6]
   refine Ke.y 35 rfl (fun _ _ _ h => h) ?_
   try simp only [Act.put, pu1, pu2, pu3, pu4, pu5, pu6]
   refine Ke.y 36 rfl (fun _ _ _ h => h) ?_
   try simp only [Act.put, pu1, pu2, pu3, pu4, pu5, pu6]
   refine Ke.y 37 rfl (fun _ _ _ h => h) ?_
   try simp only [Act.put, pu1, pu2, pu3, pu4, pu5, pu6]
   refine wpAnyH_done (by kernel_rfl) ?_ _
   clear hHeld
   go_wp2
   go_ret
   exact ⟨rfl, B10.out⟩
end Go.Proofs.YtchonoonclllbaaGreatDoor.Mi
