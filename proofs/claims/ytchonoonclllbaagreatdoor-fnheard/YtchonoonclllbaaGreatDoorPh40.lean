/- Texts in one: MiI. -/
import Derived.Test.YtchonoonclllbaaGreatDoorPh20
import Derived.Test.YtchonoonclllbaaGreatDoorPh25
import Derived.Test.YtchonoonclllbaaGreatDoorPh39
import Derived.Deep.DeepCutAuto
set_option maxHeartbeats 16000000
set_option linter.unusedVariables false
set_option linter.unusedSimpArgs false
namespace Go.Proofs.YtchonoonclllbaaGreatDoor.Mi
open Go.RowKit Mem Laws Bytes Sha Tr He Lg Sr Mg
theorem hear_14 {m : Mr} {t : List Hd} {q : Ms} (h : A14 m) (hq : Dw q) : ∃ (X : Mr) (S : List Ms), hear m t q = (X, S) ∧ X.st.l.length ≤ 1000 ∧ X.st.b.length ≤ 100000 ∧ Byt X.st.b ∧ (∀ s ∈ X.st.l, s.size ≤ 1000) ∧ X.b.r.size ≤ 1000 ∧ S.length ≤ 1 ∧ (mirrorOk m t = false → S = []) ∧
  (mirrorOk m t = true → (∀ s ∈ S, msgOk s = true ∧ s.f = m.id) ∧ mirrorOk X t = true ∧ m.st.l <+: X.st.l ∧ m.b.n ≤ X.b.n) := by
 obtain ⟨X, S, hX⟩ : ∃ X S, hear m t q = (X, S) := ⟨_, _, rfl⟩
 have s1 := hear_small (m := m) (t := t) (w := q) h.st.byt
 have s2 := heard14 (m := m) (t := t) (w := q) h.st.byt
 rw [hX] at s1 s2
 simp only at s1 s2
 have h1 := h.st.len
 have h2 := h.st.bl
 have h3 := hq.len
 refine ⟨X, S, hX, by omega, by omega, s1.2.2.1, fun s hs => ?_, ?_, ?_, fun h9 => ?_, fun h9 => ?_⟩
 ·rcases s1.1 s hs with h8 | h8
  ·have := h.st.sz s h8; omega
  ·have := hq.sz s h8; omega
 ·rcases s1.2.2.2.2 with e | e
  ·rw [e]; have := h.b; omega
  ·rw [e]; have := hq.hd; omega
 ·cases h9 : mirrorOk m t with
  | false => have e := s2.1 h9; simp only [Prod.mk.injEq] at e; rw [e.2]; simp
  | true => exact (s2.2 h9).2.1
 ·have e := s2.1 h9
  simp only [Prod.mk.injEq] at e
  exact e.2
 ·obtain ⟨p1, p2, p3, p4, p5⟩ := s2.2 h9
  exact ⟨p1, p3, p4, p5⟩
set_option maxRecDepth 1000000 in
theorem heard (w : World) (v0 : Value) (xs0 : List Int) (h0 : Sl w v0 (bs xs0)) (y0 : Byt xs0) (m0 : xs0.length ≤ maxLen) (hG : Glob w) (hN : NoC w) {a0 a1 a2 a3 : Addr} (hF : Is.Four w a0 a1 a2 a3) :
  Calls Tryz.prog 3 #[v0] w fun e w' => e = .returned (.bool true) ∧ Below w.heap.size w w' := by
 have hs := h0
 have hby := y0
 obtain ⟨ao0, cap0, rfl, -, -, -⟩ := h0
 rw [Mem.bs_len] at hs ⊢
 clear m0 y0
 by_cases hbig : 1048576 < xs0.length
 ·have qb := Draw.big_yes w ao0 xs0.length cap0 hbig
  clear hG hN hF
  go_enter Tryz.func3, Tryz.ntmps3
  go_wp2_with fail
  refine qb.mono ?_
  rintro e w1 ⟨rfl, rfl⟩
  go_wp2
  go_ret
  exact ⟨rfl, Below.refl _ _⟩
 have qb := Draw.big_no w ao0 xs0.length cap0 hbig
 have qd : ∀ W, Below w.heap.size w W → _ := fun W hW => drawHear_any W _ xs0 (hs.later hW) hby (by omega)
 have HG : Hid (Glob w) := hG
 have HNC : Hid (NoC w) := hN
 have HF : Hid (Is.Four w a0 a1 a2 a3) := hF
 clear hF
 clear hbig hs hby hG hN
 have B0 : Hid (Below w.heap.size w w) := Below.refl _ _
 go_enter Tryz.func3, Tryz.ntmps3
 go_wp2_with fail
 refine qb.mono ?_
 rintro e W_ ⟨rfl, hW_⟩
 subst hW_
 clear qb
 go_wp2_with fail
 refine (qd w B0.out).mono ?_
 rintro e W1 ⟨m, t, q, v_v, v_u, v_t, v_x0, rfl, hA, ht1, ht9, htz, hQ, s_v, s_u, s_t, s_x0, b1⟩
 obtain ⟨ao_v, cap_v, rfl, _⟩ := s_v.form
 obtain ⟨ao_u, cap_u, rfl, _⟩ := s_u.form
 obtain ⟨ao_t, cap_t, rfl, _⟩ := Sh.form s_t
 obtain ⟨ao_x0, cap_x0, rfl, _⟩ := s_x0.form
 simp only [ss_len, bs_len] at *
 have z1 := b1.size
 have B1 := Ke.b B0 b1
 have f_v1 : Hid (Sl W1 (.slice ao_v m.st.l.length cap_v) (ss m.st.l)) := s_v
 have f_u1 : Hid (Sl W1 (.slice ao_u m.st.b.length cap_u) (bs m.st.b)) := s_u
 have f_t1 : Hid (Sh W1 (.slice ao_t t.length cap_t) t) := s_t
 clear s_v s_u s_t qd
 have f_x01 : Hid (Sl W1 (.slice ao_x0 q.x.length cap_x0) (ss q.x)) := s_x0
 clear s_x0
 obtain ⟨X, S, hX, x1, x2, x3, x4, x5, x6, z1, z2⟩ := hear_14 (t := t) hA hQ
 have HA : Hid (A14 m) := hA
 have HBY : Hid (Byt m.st.b) := hA.st.byt
 have HZ : Hid (∀ s ∈ m.st.l, s.size ≤ 10000000000) := fun s h9 => Nat.le_trans (hA.st.sz s h9) (by omega)
 have hll := hA.st.len
 have hbl := hA.st.bl
 have hhr := hA.st.hd
 have hgr := hA.b
 have hs1 := hA.st.lo
 have hs2 := hA.st.hi
 clear hA
 have hql := hQ.len
 have hqd := hQ.hd
 have HQZ : Hid (∀ s ∈ q.x, s.size ≤ 10000000000) := fun s h9 => Nat.le_trans (hQ.sz s h9) (by omega)
 have htx : Puts.tot q.x ≤ 100000000000 := Nat.le_trans (Sr.tot_le1000 q.x (by omega) (fun s h9 => Nat.le_trans (hQ.sz s h9) (by omega))) (by omega)
 clear hQ htz
 have HXB : Hid (Byt X.st.b) := x3
 have HXZ : Hid (∀ s ∈ X.st.l, s.size ≤ 10000000000) := fun s h9 => Nat.le_trans (x4 s h9) (by omega)
 have Z1 : Hid (mirrorOk m t = false → S = []) := z1
 have Z2 : Hid (mirrorOk m t = true → (∀ s ∈ S, msgOk s = true ∧ s.f = m.id) ∧ mirrorOk X t = true ∧ m.st.l <+: X.st.l ∧ m.b.n ≤ X.b.n) := z2
 have HTX : Hid (Puts.tot q.x ≤ 100000000000) := htx
 clear x3 x4 z1 z2 htx
 obtain ⟨W2, HW2, b2, y2, hS2, r_m2, r_q2⟩ := Ke.l2 W1 #[.int .i64 m.id, .slice ao_v m.st.l.length cap_v, .int .i64 m.st.h.n, .string m.st.h.r, .slice ao_u m.st.b.length cap_u, .int .i64 m.st.s, .int .i64 m.b.n, .string m.b.r] 32 #[.int .i64 q.k, .int .i64 q.f, .int .i64 q.t, .int .i64 q.h.n, .string q.h.r, .int .i64 q.n, .slice ao_x0 q.x.length cap_x0] 35
 have z2 := b2.size
 have B2 := Ke.b B1 b2
 have f_v2 := Ke.h (Sl.later f_v1.out b2)
 have f_u2 := Ke.h (Sl.later f_u1.out b2)
 have f_t2 := Ke.h (Sh.later f_t1.out b2)
 have f_x02 := Ke.h (Sl.later f_x01.out b2)
 clear f_v1 f_u1 f_t1 f_x01
 have q1 : ∀ W v1 v2 v3 v4, Below w.heap.size w W → Sl W v1 (ss m.st.l) → Sl W v2 (bs m.st.b) → Sh W v3 t → Sl W v4 (ss q.x) → _ := fun W v1 v2 v3 v4 hB h1 h2 h3 h4 => hear_impl W v1 v2 v3 v4 m t q (HG.out.later hB) (NoC.later HNC.out hB) (HF.out.later hB) (by omega) (by omega) h1 h2 HBY.out h3 (by omega) (by omega) (by omega) HZ.out h4 (by omega) HQZ.out HTX.out (by omega)
 have q2 : ∀ W v1 v2 v3 v4, Sl W v1 (ss m.st.l) → Sl W v2 (bs m.st.b) → Sh W v3 t → Sl W v4 (ss q.x) → _ := fun W v1 v2 v3 v4 h1 h2 h3 h4 => hear_spec W v1 v2 v3 v4 m t q h1 h2 HBY.out h3 (by omega) (by omega) (by omega) HZ.out h4 (by omega) HQZ.out HTX.out (by omega)
 have q3 : ∀ W v1 v2 v3, Sl W v1 (ss m.st.l) → Sl W v2 (bs m.st.b) → Sh W v3 t → _ := fun W v1 v2 v3 h1 h2 h3 => mirrorok_spec W v1 v2 v3 m t h1 h2 HBY.out h3 (by omega) (by omega) (by omega) HZ.out
 have q4 : ∀ W v1 v2 v3, Below w.heap.size w W → Sl W v1 (ss m.st.l) → Sl W v2 (bs m.st.b) → Sh W v3 t → _ := fun W v1 v2 v3 hB h1 h2 h3 => mirrorok_impl W v1 v2 v3 m t (HG.out.later hB) (NoC.later HNC.out hB) (by omega) h1 h2 HBY.out h3 (by omega) (by omega) (by omega) HZ.out
 have q5 : ∀ W v1 v2 v3, Below w.heap.size w W → Sl W v1 (ss X.st.l) → Sl W v2 (bs X.st.b) → Sh W v3 t → _ := fun W v1 v2 v3 hB h1 h2 h3 => mirrorok_impl W v1 v2 v3 X t (HG.out.later hB) (NoC.later HNC.out hB) (by omega) h1 h2 HXB.out h3 (by omega) (by omega) (by omega) HXZ.out
 simp only [hX] at q1 q2
 clear hX
 go_wp2_with fail
 rw [HW2.out]
 refine (q1 W2 _ _ _ _ B2.out f_v2.out f_u2.out f_t2.out f_x02.out).mono ?_
 rintro e W3 ⟨v_x, v_xp, v_g, mid_g, rfl, -, hmid_g, o9, o5, om, b3⟩
 obtain ⟨ao_g, L_g, cap_g, rfl, hL_g, hM_g⟩ := Om.form om
 have HL_g : Hid (L_g = S.length) := hL_g
 clear hL_g
 obtain ⟨ao_x, L_x, cap_x, rfl, _, _⟩ := Mem.Own.form o9
 obtain ⟨ao_xp, L_xp, cap_xp, rfl, _, _⟩ := Mem.Own.form o5
 obtain rfl : L_x = X.st.l.length := by obtain ⟨a9, L9, c9, he, h1, h2⟩ := Mem.Own.form o9; injection he with _ he2 _; rw [ss_len] at h1 h2; omega
 obtain rfl : L_xp = X.st.b.length := by obtain ⟨a9, L9, c9, he, h1, h2⟩ := Mem.Own.form o5; injection he with _ he2 _; rw [bs_len] at h1 h2; omega
 have z3 := b3.size
 have B3 := Ke.b B2 b3
 have r_m3 := Ke.r r_m2 b3
 have r_q3 := Ke.r r_q2 b3
 clear r_m2 r_q2
 have f_v3 := Ke.h (Sl.later f_v2.out b3)
 have f_u3 := Ke.h (Sl.later f_u2.out b3)
 have f_t3 := Ke.h (Sh.later f_t2.out b3)
 have f_x03 := Ke.h (Sl.later f_x02.out b3)
 clear f_v2 f_u2 f_t2 f_x02
 have f_x3 : Hid (Sl W3 (.slice ao_x X.st.l.length cap_x) (ss X.st.l)) := o9.sl
 have f_xp3 : Hid (Sl W3 (.slice ao_xp X.st.b.length cap_xp) (bs X.st.b)) := o5.sl
 have f_g3 : Hid (Omx W3 mid_g W3.heap.size (.slice ao_g L_g cap_g) S) := ⟨om, Nat.le_refl _⟩
 clear om
 clear o9 o5
 have a_m3 := Ke.a r_m3
 have a_q3 := Ke.a r_q3
 obtain ⟨W4, HW4, b4, y4, hS4, r_x4⟩ := Ke.l1 W3 #[.int .i64 X.id, .slice ao_x X.st.l.length cap_x, .int .i64 X.st.h.n, .string X.st.h.r, .slice ao_xp X.st.b.length cap_xp, .int .i64 X.st.s, .int .i64 X.b.n, .string X.b.r] 32
 have z4 := b4.size
 have B4 := Ke.b B3 b4
 have r_m4 := Ke.r r_m3 b4
 clear r_m3 r_q3
 have f_v4 := Ke.h (Sl.later f_v3.out b4)
 have f_u4 := Ke.h (Sl.later f_u3.out b4)
 have f_t4 := Ke.h (Sh.later f_t3.out b4)
 have f_x04 := Ke.h (Sl.later f_x03.out b4)
 have f_x4 := Ke.h (Sl.later f_x3.out b4)
 have f_xp4 := Ke.h (Sl.later f_xp3.out b4)
 have f_g4 := Ke.h (Omx.later f_g3.out b4)
 clear f_v3 f_u3 f_t3 f_x03 f_x3 f_xp3 f_g3
 go_wp2_with fail
 rw [HW4.out]
 clear a_m3 a_q3
 refine (q2 W4 _ _ _ _ f_v4.out f_u4.out f_t4.out f_x04.out).mono ?_
 rintro e W5 ⟨v_z, v_zp, v_h, mid_h, rfl, -, hmid_h, o9, o5, om, b5⟩
 obtain ⟨ao_h, L_h, cap_h, rfl, hL_h, hM_h⟩ := Om.form om
 have HL_h : Hid (L_h = S.length) := hL_h
 clear hL_h
 obtain ⟨ao_z, L_z, cap_z, rfl, _, _⟩ := Mem.Own.form o9
 obtain ⟨ao_zp, L_zp, cap_zp, rfl, _, _⟩ := Mem.Own.form o5
 obtain rfl : L_z = X.st.l.length := by obtain ⟨a9, L9, c9, he, h1, h2⟩ := Mem.Own.form o9; injection he with _ he2 _; rw [ss_len] at h1 h2; omega
 obtain rfl : L_zp = X.st.b.length := by obtain ⟨a9, L9, c9, he, h1, h2⟩ := Mem.Own.form o5; injection he with _ he2 _; rw [bs_len] at h1 h2; omega
 have z5 := b5.size
 have B5 := Ke.b B4 b5
 have r_m5 := Ke.r r_m4 b5
 have r_x5 := Ke.r r_x4 b5
 clear r_m4 r_x4
 have f_v5 := Ke.h (Sl.later f_v4.out b5)
 have f_u5 := Ke.h (Sl.later f_u4.out b5)
 have f_t5 := Ke.h (Sh.later f_t4.out b5)
 have f_x5 := Ke.h (Sl.later f_x4.out b5)
 have f_xp5 := Ke.h (Sl.later f_xp4.out b5)
 have f_g5 := Ke.h (Omx.later f_g4.out b5)
 clear f_v4 f_u4 f_t4 f_x04 f_x4 f_xp4 f_g4
 have f_z5 : Hid (Sl W5 (.slice ao_z X.st.l.length cap_z) (ss X.st.l)) := o9.sl
 have f_h5 : Hid (Omx W5 mid_h W5.heap.size (.slice ao_h L_h cap_h) S) := ⟨om, Nat.le_refl _⟩
 clear om
 clear o9 o5
 have a_x5 := Ke.a r_x5
 obtain ⟨W6, HW6, b6, y6, hS6, r_z6⟩ := Ke.l1 W5 #[.int .i64 X.id, .slice ao_z X.st.l.length cap_z, .int .i64 X.st.h.n, .string X.st.h.r, .slice ao_zp X.st.b.length cap_zp, .int .i64 X.st.s, .int .i64 X.b.n, .string X.b.r] 32
 have z6 := b6.size
 have B6 := Ke.b B5 b6
 have r_m6 := Ke.r r_m5 b6
 have r_x6 := Ke.r r_x5 b6
 clear r_m5 r_x5
 have f_v6 := Ke.h (Sl.later f_v5.out b6)
 have f_u6 := Ke.h (Sl.later f_u5.out b6)
 have f_t6 := Ke.h (Sh.later f_t5.out b6)
 have f_x6 := Ke.h (Sl.later f_x5.out b6)
 have f_xp6 := Ke.h (Sl.later f_xp5.out b6)
 have f_g6 := Ke.h (Omx.later f_g5.out b6)
 have f_z6 := Ke.h (Sl.later f_z5.out b6)
 have f_h6 := Ke.h (Omx.later f_h5.out b6)
 clear f_v5 f_u5 f_t5 f_x5 f_xp5 f_g5 f_z5 f_h5
 obtain rfl : L_g = L_h := by have h1 := HL_g.out; have h2 := HL_h.out; omega
 have e1 : ((L_g : Int) != (L_g : Int)) = false := by simp
 have hLg : L_g ≤ 1 := by have h1 := HL_g.out; omega
 clear hM_g hM_h x6
 have ee : ∀ W, _ := fun W => eqlH W X.b X.b
 have en : ∀ W, _ := fun W => neqH W X.b X.b
 have hhh : eqH X.b X.b = true := (eqH_iff _ _).2 rfl
 simp only [hhh, Bool.not_true] at ee en
 have gg : ∀ W op y z xs ys, _ := fun W op y z xs ys => grdH W op y z xs ys
 clear hhh
 go_wp2_with fail
 rw [HW6.out]
 clear a_x5
 refine (Draw.same_true W6 _ _ X.st.l f_x6.out f_z6.out (by omega)).mono ?_
 rintro e W7 ⟨rfl, h7, _⟩
 have b7 : Below W6.heap.size W6 W7 := h7 _
 clear h7
 have z7 := b7.size
 have B7 := Ke.b B6 b7
 have r_m7 := Ke.r r_m6 b7
 have r_x7 := Ke.r r_x6 b7
 have r_z7 := Ke.r r_z6 b7
 have c_m7 := Ke.c r_m7
 have c_x7 := Ke.c r_x7
 have c_z7 := Ke.c r_z7
 clear r_m6 r_x6 r_z6
 have f_v7 := Ke.h (Sl.later f_v6.out b7)
 have f_u7 := Ke.h (Sl.later f_u6.out b7)
 have f_t7 := Ke.h (Sh.later f_t6.out b7)
 have f_x7 := Ke.h (Sl.later f_x6.out b7)
 have f_xp7 := Ke.h (Sl.later f_xp6.out b7)
 have f_g7 := Ke.h (Omx.later f_g6.out b7)
 have f_h7 := Ke.h (Omx.later f_h6.out b7)
 clear f_v6 f_u6 f_t6 f_x6 f_xp6 f_g6 f_z6 f_h6
 cases hok : mirrorOk m t
 ·have p1 := Z1.out hok
  simp only [hok] at q3 q4
  subst p1
  obtain rfl : L_g = 0 := HL_g.out
  clear hok Z1 Z2 q5
  go_wp2_with fail
  refine (q3 W7 _ _ _ f_v7.out f_u7.out f_t7.out).mono ?_
  rintro e W8 ⟨rfl, b8⟩
  have z8 := b8.size
  have B8 := Ke.b B7 b8
  have r_m8 := Ke.r r_m7 b8
  have r_x8 := Ke.r r_x7 b8
  have c_m8 := Ke.c r_m8
  have c_x8 := Ke.c r_x8
  clear r_m7 c_m7 r_x7 c_x7 r_z7 c_z7
  have f_v8 := Ke.h (Sl.later f_v7.out b8)
  have f_u8 := Ke.h (Sl.later f_u7.out b8)
  have f_t8 := Ke.h (Sh.later f_t7.out b8)
  have f_x8 := Ke.h (Sl.later f_x7.out b8)
  have f_xp8 := Ke.h (Sl.later f_xp7.out b8)
  have f_g8 := Ke.h (Omx.later f_g7.out b8)
  clear f_v7 f_u7 f_t7 f_x7 f_xp7 f_g7 f_h7
  clear ee en gg e1 q1 q2
  go_wp2_with fail
  refine (q4 W8 _ _ _ B8.out f_v8.out f_u8.out f_t8.out).mono ?_
  rintro e W9 ⟨rfl, b9⟩
  have z9 := b9.size
  have B9 := Ke.b B8 b9
  have r_m9 := Ke.r r_m8 b9
  have r_x9 := Ke.r r_x8 b9
  have c_m9 := Ke.c r_m9
  have c_x9 := Ke.c r_x9
  clear r_m8 c_m8 r_x8 c_x8
  have f_v9 := Ke.h (Sl.later f_v8.out b9)
  have f_t9 := Ke.h (Sh.later f_t8.out b9)
  have f_x9 := Ke.h (Sl.later f_x8.out b9)
  have f_xp9 := Ke.h (Sl.later f_xp8.out b9)
  clear f_v8 f_u8 f_t8 f_x8 f_xp8 f_g8
  go_wp2
  go_ret
  exact ⟨rfl, B9.out⟩
 ·obtain ⟨p1, p2, p3, p4⟩ := Z2.out hok
  simp only [hok] at q3
  simp only [p2] at q5
  have P1 : Hid (∀ s ∈ S, msgOk s = true ∧ s.f = m.id) := p1
  have P3 : Hid (m.st.l <+: X.st.l) := p3
  clear hok Z1 Z2 q4 p1 p2 p3
  go_wp2_with fail
  refine (q3 W7 _ _ _ f_v7.out f_u7.out f_t7.out).mono ?_
  rintro e W8 ⟨rfl, b8⟩
  have z8 := b8.size
  have B8 := Ke.b B7 b8
  have r_m8 := Ke.r r_m7 b8
  have r_x8 := Ke.r r_x7 b8
  have c_m8 := Ke.c r_m8
  have c_x8 := Ke.c r_x8
  clear r_m7 c_m7 r_x7 c_x7 r_z7 c_z7
  have f_v8 := Ke.h (Sl.later f_v7.out b8)
  have f_u8 := Ke.h (Sl.later f_u7.out b8)
  have f_t8 := Ke.h (Sh.later f_t7.out b8)
  have f_x8 := Ke.h (Sl.later f_x7.out b8)
  have f_xp8 := Ke.h (Sl.later f_xp7.out b8)
  have f_g8 := Ke.h (Omx.later f_g7.out b8)
  clear f_v7 f_u7 f_t7 f_x7 f_xp7 f_g7 f_h7
  clear ee en gg e1 q1 q2
  by_cases hg0 : L_g = 0
  ·subst hg0
   go_wp2
   refine wp_loop_rounds 1 ?_; rw [rounds_succ]
   go_wp2_with fail
   refine (q5 W8 _ _ _ B8.out f_x8.out f_xp8.out f_t8.out).mono ?_
   rintro e W9 ⟨rfl, b9⟩
   have z9 := b9.size
   have B9 := Ke.b B8 b9
   have r_m9 := Ke.r r_m8 b9
   have r_x9 := Ke.r r_x8 b9
   have c_m9 := Ke.c r_m9
   have c_x9 := Ke.c r_x9
   clear r_m8 c_m8 r_x8 c_x8
   have f_v9 := Ke.h (Sl.later f_v8.out b9)
   have f_t9 := Ke.h (Sh.later f_t8.out b9)
   have f_x9 := Ke.h (Sl.later f_x8.out b9)
   have f_xp9 := Ke.h (Sl.later f_xp8.out b9)
   clear f_v8 f_u8 f_t8 f_x8 f_xp8 f_g8
   go_wp2_with fail
   refine (begins14 W9 _ _ m.st.l X.st.l f_v9.out f_x9.out P3.out (by omega)).mono ?_
   rintro e W10 ⟨rfl, b10⟩
   have z10 := b10.size
   have B10 := Ke.b B9 b10
   have r_m10 := Ke.r r_m9 b10
   have r_x10 := Ke.r r_x9 b10
   have c_m10 := Ke.c r_m10
   have c_x10 := Ke.c r_x10
   clear r_m9 c_m9 r_x9 c_x9
   have f_v10 := Ke.h (Sl.later f_v9.out b10)
   have f_t10 := Ke.h (Sh.later f_t9.out b10)
   have f_x10 := Ke.h (Sl.later f_x9.out b10)
   have f_xp10 := Ke.h (Sl.later f_xp9.out b10)
   clear f_v9 f_t9 f_x9 f_xp9
   go_wp2
   go_ret
   exact ⟨rfl, B10.out⟩
  ·obtain ⟨s, rfl⟩ : ∃ s, S = [s] := by { have h1 := HL_g.out; cases S with | nil => simp at h1; omega | cons x y => cases y with | nil => exact ⟨x, rfl⟩ | cons _ _ => simp at h1; omega }
   obtain ⟨p1, p2⟩ := P1.out s (List.mem_singleton.2 rfl)
   obtain ⟨sk, sf, st, sh, sn, sx⟩ := s
   simp only at p2
   subst p2
   clear P1 HL_g
   obtain ⟨gs, us, rfl, rfl, rfl, hr_gs, ho_us⟩ := Omx.get f_g8.out
   have r_gs8 : Hid (W8.heap[gs]? = some (.cells #[.int .i64 sk, .int .i64 m.id, .int .i64 st, .int .i64 sh.n, .string sh.r, .int .i64 sn, us] 35 (0, 0))) := hr_gs
   clear hr_gs
   have c_gs8 := Ke.c r_gs8
   have f_us8 : Hid (Sl W8 us (ss (⟨sk, m.id, st, sh, sn, sx⟩ : Ms).x)) := ho_us.sl
   clear ho_us
   clear f_g8
   have hxl : sx.length ≤ 200 := Mg.msg_len p1
   have hqr : sh.r.size = 32 := (okH_parts13 (Mg.msg_parts p1).2.2.2.1).2.2
   have qm : ∀ W, Sl W us (ss sx) → _ := fun W h1 => Wd.msgok_impl W us (⟨sk, m.id, st, sh, sn, sx⟩ : Ms) h1 (by simp only; omega) (by simp only; omega)
   simp only [p1] at qm
   clear p1
   have e5 : (m.id != m.id) = false := by simp
   go_wp2
   refine wp_loop_rounds 2 ?_; rw [rounds_succ]
   go_wp2_with fail
   refine wp_region_held_drew (S := fun w' => (∀ j, w'.cell? ⟨W1.heap.size, j, none⟩ = #[.int .i64 m.id, .slice ao_v m.st.l.length cap_v, .int .i64 m.st.h.n, .string m.st.h.r, .slice ao_u m.st.b.length cap_u, .int .i64 m.st.s, .int .i64 m.b.n, .string m.b.r][j]?) ∧ (∀ j, w'.cell? ⟨gs, j, none⟩ = #[.int .i64 sk, .int .i64 m.id, .int .i64 st, .int .i64 sh.n, .string sh.r, .int .i64 sn, us][j]?)) (by kernel_rfl) ⟨c_m8, c_gs8⟩ (fun hHeld => ?_)
   obtain ⟨W9, HW9, b9⟩ := Ke.v W8
   have HHW9 := HW9.out
   rw [HHW9] at hHeld ⊢
   clear HHW9
   have z9 := b9.size
   have B9 := Ke.b B8 b9
   have r_m9 := Ke.r r_m8 b9
   have r_x9 := Ke.r r_x8 b9
   have c_m9 := Ke.c r_m9
   have c_x9 := Ke.c r_x9
   clear r_m8 c_m8 r_x8 c_x8 r_gs8 c_gs8
   have f_v9 := Ke.h (Sl.later f_v8.out b9)
   have f_t9 := Ke.h (Sh.later f_t8.out b9)
   have f_x9 := Ke.h (Sl.later f_x8.out b9)
   have f_xp9 := Ke.h (Sl.later f_xp8.out b9)
   have f_us9 := Ke.h (Sl.later f_us8.out b9)
   clear f_v8 f_u8 f_t8 f_x8 f_xp8 f_us8
   refine Ke.q 0 ?_; try simp only [Act.put, pq]
   refine Ke.q 1 ?_; try simp only [Act.put, pq]
   refine Ke.q 2 ?_; try simp only [Act.put, pq]
   refine Ke.q 3 ?_; try simp only [Act.put, pq]
   refine Ke.z 4 rfl (fun K hK => ?_)
   go_simp
   refine (qm W9 f_us9.out).mono ?_
   rintro e W10 ⟨rfl, b10⟩
   refine hK.out _ _ ⟨(Ke.k (W := W9) hHeld.1 b10), (Ke.k (W := W9) hHeld.2 b10)⟩ (fun hHeld => ?_)
   clear hK K
   try simp only [Act.put, pq]
   have z10 := b10.size
   have B10 := Ke.b B9 b10
   have r_m10 := Ke.r r_m9 b10
   have r_x10 := Ke.r r_x9 b10
   have c_m10 := Ke.c r_m10
   have c_x10 := Ke.c r_x10
   clear r_m9 c_m9 r_x9 c_x9
   have f_v10 := Ke.h (Sl.later f_v9.out b10)
   have f_t10 := Ke.h (Sh.later f_t9.out b10)
   have f_x10 := Ke.h (Sl.later f_x9.out b10)
   have f_xp10 := Ke.h (Sl.later f_xp9.out b10)
   clear f_v9 f_t9 f_x9 f_xp9 f_us9
   refine Ke.q 5 ?_; try simp only [Act.put, pq]
   refine Ke.q 6 ?_; try simp only [Act.put, pq]
   refine Ke.q 7 ?_; try simp only [Act.put, pq]
   refine Ke.q 8 ?_; try simp only [Act.put, pq]
   refine Ke.q 9 ?_; try simp only [Act.put, pq]
   refine Ke.q 10 ?_; try simp only [Act.put, pq]
   refine Ke.q 11 ?_; try simp only [Act.put, pq]
   refine Ke.q 12 ?_; try simp only [Act.put, pq]
   refine Ke.q 13 ?_; try simp only [Act.put, pq]
   refine Ke.q 14 ?_; try simp only [Act.put, pq]
   refine Ke.q 15 ?_; try simp only [Act.put, pq]
   refine wpAnyH_done (by kernel_rfl) ?_ _
   clear hHeld
   clear qm e5
   go_wp2
   rw [rounds_succ]
   go_wp2_with fail
   refine (q5 W10 _ _ _ B10.out f_x10.out f_xp10.out f_t10.out).mono ?_
   rintro e W11 ⟨rfl, b11⟩
   have z11 := b11.size
   have B11 := Ke.b B10 b11
   have r_m11 := Ke.r r_m10 b11
   have r_x11 := Ke.r r_x10 b11
   have c_m11 := Ke.c r_m11
   have c_x11 := Ke.c r_x11
   clear r_m10 c_m10 r_x10 c_x10
   have f_v11 := Ke.h (Sl.later f_v10.out b11)
   have f_x11 := Ke.h (Sl.later f_x10.out b11)
   clear f_v10 f_t10 f_x10 f_xp10
   go_wp2_with fail
   refine (begins14 W11 _ _ m.st.l X.st.l f_v11.out f_x11.out P3.out (by omega)).mono ?_
   rintro e W12 ⟨rfl, b12⟩
   have z12 := b12.size
   have B12 := Ke.b B11 b12
   have r_m12 := Ke.r r_m11 b12
   have r_x12 := Ke.r r_x11 b12
   have c_m12 := Ke.c r_m12
   have c_x12 := Ke.c r_x12
   clear r_m11 c_m11 r_x11 c_x11
   clear f_v11 f_x11
   go_wp2
   go_ret
   exact ⟨rfl, B12.out⟩
end Go.Proofs.YtchonoonclllbaaGreatDoor.Mi
