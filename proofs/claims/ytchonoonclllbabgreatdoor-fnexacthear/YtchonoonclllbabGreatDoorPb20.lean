/- Texts in one: Mi8, Mi9, Ed1. -/
import Derived.Test.YtchonoonclllbabGreatDoorPb6
import Derived.Test.YtchonoonclllbabGreatDoorPb17
import Derived.Test.YtchonoonclllbabGreatDoorPb18
import Derived.Test.YtchonoonclllbabGreatDoorPb19
import Derived.Test.YtchonoonclllbabGreatDoorPb10
namespace Go.Proofs.YtchonoonclllbabGreatDoor.Mi
open Go.RowKit Go.Proofs.YtchonoonclllbabGreatDoor.Mem Go.Proofs.YtchonoonclllbabGreatDoor.Laws Go.Proofs.YtchonoonclllbabGreatDoor.Bytes Go.Proofs.YtchonoonclllbabGreatDoor.Sha Go.Proofs.YtchonoonclllbabGreatDoor.Tr Go.Proofs.YtchonoonclllbabGreatDoor.He Go.Proofs.YtchonoonclllbabGreatDoor.Lg Go.Proofs.YtchonoonclllbabGreatDoor.Sr Go.Proofs.YtchonoonclllbabGreatDoor.Mg
set_option linter.unusedVariables false
set_option linter.unusedSimpArgs false
set_option maxRecDepth 1000000 in
set_option maxHeartbeats 16000000 in
theorem hear1_spec (w : World) (gm lo : Nat) (v vb vt vx : Value) (m : Mr) (t : List Hd) (q : Ms) (hg : gm < w.heap.size) (hlo : lo ≤ gm) (hr : w.heap[gm]? = some (.cells (mq m.id v m.st.h vb m.st.s m.b) 44 (0, 0))) (h9 : Own w lo gm 9 v (ss m.st.l)) (h5 : Own w lo gm 5 vb (bs m.st.b)) (hst : ∀ W, Below gm w W → Sh W vt t) (hx : ∀ W, Below gm w W → Sl W vx (ss q.x)) (hl : m.st.l.length ≤ 1000000000) (hbl : m.st.b.length ≤ 1000000000) (htl : t.length ≤ 1000000000) (hxl : q.x.length ≤ 1000000000) (hz : ∀ s ∈ m.st.l, s.size ≤ 10000000000) (hzx : ∀ s ∈ q.x, s.size ≤ 10000000000) (htx : Puts.tot q.x ≤ 100000000000) (hdr : q.h.r.size ≤ 100000000000) (hok : msgOk q = true) :
  Calls Tryz.prog 40 #[.pointer (some ⟨gm, 0, none⟩), vt, .agg #[.int .i64 q.k, .int .i64 q.f, .int .i64 q.t, .int .i64 q.h.n, .string q.h.r, .int .i64 q.n, vx]] w fun e w' => ∃ v' vb' vq mid, e = .returned vq ∧ w'.heap[gm]? = some (.cells (mq (hear1 m t q).1.id v' (hear1 m t q).1.st.h vb' (hear1 m t q).1.st.s (hear1 m t q).1.b) 44 (0, 0)) ∧ w.heap.size ≤ mid ∧ mid ≤ w'.heap.size ∧ Own w' lo mid 9 v' (ss (hear1 m t q).1.st.l) ∧ Own w' lo mid 5 vb' (bs (hear1 m t q).1.st.b) ∧ Om w' mid w'.heap.size vq (hear1 m t q).2 ∧ Below gm w w' := by
 obtain ⟨R, hR⟩ : ∃ R, hear1 m t q = R := ⟨_, rfl⟩
 have HR : Hid (hear1 m t q = R) := hR
 rw [hR]
 obtain ⟨id, ⟨l, h, b, s⟩, g⟩ := m
 obtain ⟨k, f, tt, hq, n, x⟩ := q
 simp only at *
 have HT : Hid (∀ W, Below gm w W → Sh W vt t) := hst
 have HX : Hid (∀ W, Below gm w W → Sl W vx (ss x)) := hx
 obtain ⟨ao2, cap2, rfl, hc2⟩ := (hst w (Below.refl _ _)).form
 obtain ⟨ao3, cap3, rfl, hc3⟩ := (hx w (Below.refl _ _)).form
 obtain ⟨ao_v, L_v, cap_v, rfl, hv1, hv2⟩ := Mem.Own.form h9
 obtain ⟨ao_p, L_p, cap_p, rfl, hp1, hp2⟩ := Mem.Own.form h5
 simp only [ss_len, bs_len] at *
 obtain rfl : L_v = l.length := by omega
 obtain rfl : L_p = b.length := by omega
 have B0 : Hid (Below gm w w) := Below.refl _ _
 have r_m0 : Hid (w.heap[gm]? = some (.cells #[.int .i64 id, .slice ao_v l.length cap_v, .int .i64 h.n, .string h.r, .slice ao_p b.length cap_p, .int .i64 s, .int .i64 g.n, .string g.r] 44 (0, 0))) := hr
 have o_v0 : Hid (Own w lo gm 9 (.slice ao_v l.length cap_v) (ss l)) := h9
 have o_p0 : Hid (Own w lo gm 5 (.slice ao_p b.length cap_p) (bs b)) := h5
 clear hst hx hR hr h9 h5 hv1 hv2 hp1 hp2
 have c_m0 := Ke.c r_m0
 have a_m0 := Ke.a r_m0
 obtain ⟨W1, HW1, b1, y1, hS1, r_q1⟩ := Ke.l1 w #[.int .i64 k, .int .i64 f, .int .i64 tt, .int .i64 hq.n, .string hq.r, .int .i64 n, .slice ao3 x.length cap3] 52
 have z1 := b1.size
 have B1 : Hid (Below gm w W1) := B0.out.trans (b1.mono (by have := B0.out.size; omega))
 have r_m1 := Ke.r r_m0 b1
 have o_v1 := Ke.o o_v0 b1
 have o_p1 := Ke.o o_p0 b1
 have c_m1 := Ke.c r_m1
 have c_q1 := Ke.c r_q1
 clear r_m0 c_m0 o_v0 o_p0
 have HOK : Hid (msgOk ⟨k, f, tt, hq, n, x⟩ = true) := hok
 clear hok
 have q1 : ∀ W v1, Sh W v1 t → _ := fun W v1 h1 => signed_spec W v1 t hq h1 (by omega)
 obtain ⟨A, hA⟩ : ∃ A, signed t hq = A := ⟨_, rfl⟩
 simp only [hA] at q1
 have HA : Hid (signed t hq = A) := hA
 clear hA
 go_enter Tryz.func40, Tryz.ntmps40
 by_cases hk1 : k = 1
 ·
  have nk : (k == 1) = true := by simp [hk1]
  have HK : Hid (k = 1) := hk1
  clear hk1
  go_wp2_with fail
  rw [HW1.out]
  clear a_m0
  refine (q1 W1 _ (HT.out _ B1.out)).mono ?_
  rintro e W2 ⟨rfl, b2⟩
  have z2 := b2.size
  have B2 : Hid (Below gm w W2) := B1.out.trans (b2.mono (by have := B1.out.size; omega))
  have r_m2 := Ke.r r_m1 b2
  have r_q2 := Ke.r r_q1 b2
  have o_v2 := Ke.o o_v1 b2
  have o_p2 := Ke.o o_p1 b2
  have c_m2 := Ke.c r_m2
  have c_q2 := Ke.c r_q2
  clear r_m1 c_m1 r_q1 c_q1 o_v1 o_p1
  cases A
  ·
   have HN : Hid (R = (⟨id, ⟨l, h, b, s⟩, g⟩, [])) := by show _ = _; rw [← HR.out]; unfold hear1; simp only; rw [if_pos HK.out, HA.out]; rfl
   go_wp2
   go_ret
   refine ⟨.slice ao_v l.length cap_v, .slice ao_p b.length cap_p, _, w.heap.size, rfl, ?_, ?_, ?_, ?_, ?_, ?_, B2.out.alloc (by have := B2.out.size; omega) _⟩
   ·
    rw [HN.out]
    exact rowKeep r_m2.out ((Below.refl _ _).alloc (Nat.le_refl _) _)
   ·
    first | omega | (simp; done) | (simp; omega)
   ·
    first | omega | (simp; done) | (simp; omega)
   ·
    rw [HN.out]
    exact (Own.later o_v2.out ((Below.refl _ _).alloc (Nat.le_refl _) _) (by omega)).mono (by omega) (by first | omega | (simp; done) | (simp; omega))
   ·
    rw [HN.out]
    exact (Own.later o_p2.out ((Below.refl _ _).alloc (Nat.le_refl _) _) (by omega)).mono (by omega) (by first | omega | (simp; done) | (simp; omega))
   ·
    rw [HN.out]
    exact Om.nil _ _ _ _ _
  ·
   have hff : (0 ≤ f ∧ f ≤ 20) := (msg_parts HOK.out).1
   go_wp2_with fail
   refine wp_region_held_drew (S := fun w' => w'.cell? ⟨gm, 0, none⟩ = some (.int .i64 id) ∧ w'.cell? ⟨gm, 1, none⟩ = some (.slice ao_v l.length cap_v) ∧ w'.cell? ⟨gm, 2, none⟩ = some (.int .i64 h.n) ∧ w'.cell? ⟨gm, 3, none⟩ = some (.string h.r) ∧ w'.cell? ⟨gm, 4, none⟩ = some (.slice ao_p b.length cap_p) ∧ w'.cell? ⟨gm, 5, none⟩ = some (.int .i64 s) ∧ w'.cell? ⟨gm, 6, none⟩ = some (.int .i64 g.n) ∧ w'.cell? ⟨gm, 7, none⟩ = some (.string g.r) ∧ w'.cell? ⟨w.heap.size, 0, none⟩ = some (.int .i64 k) ∧ w'.cell? ⟨w.heap.size, 1, none⟩ = some (.int .i64 f) ∧ w'.cell? ⟨w.heap.size, 2, none⟩ = some (.int .i64 tt) ∧ w'.cell? ⟨w.heap.size, 3, none⟩ = some (.int .i64 hq.n) ∧ w'.cell? ⟨w.heap.size, 4, none⟩ = some (.string hq.r) ∧ w'.cell? ⟨w.heap.size, 5, none⟩ = some (.int .i64 n) ∧ w'.cell? ⟨w.heap.size, 6, none⟩ = some (.slice ao3 x.length cap3)) (by kernel_rfl) ⟨(c_m2 0), (c_m2 1), (c_m2 2), (c_m2 3), (c_m2 4), (c_m2 5), (c_m2 6), (c_m2 7), (c_q2 0), (c_q2 1), (c_q2 2), (c_q2 3), (c_q2 4), (c_q2 5), (c_q2 6)⟩ (fun hHeld => ?_)
   refine Ke.y 0 rfl (fun _ _ _ h => h) ?_
   try simp only [Act.put, pu1, pu2, pu3, pu4, pu5, pu6]
   refine Ke.y 1 rfl (fun _ _ _ h => h) ?_
   try simp only [Act.put, pu1, pu2, pu3, pu4, pu5, pu6]
   refine Ke.y 2 rfl (fun _ _ _ h => h) ?_
   try simp only [Act.put, pu1, pu2, pu3, pu4, pu5, pu6]
   refine Ke.y 3 rfl (fun _ _ _ h => h) ?_
   try simp only [Act.put, pu1, pu2, pu3, pu4, pu5, pu6]
   refine Ke.y 4 rfl (fun _ _ _ h => h) ?_
   try simp only [Act.put, pu1, pu2, pu3, pu4, pu5, pu6]
   refine Ke.y 5 rfl (fun _ _ _ h => h) ?_
   try simp only [Act.put, pu1, pu2, pu3, pu4, pu5, pu6]
   refine Ke.y 6 rfl (fun _ _ _ h => h) ?_
   try simp only [Act.put, pu1, pu2, pu3, pu4, pu5, pu6]
   refine Ke.y 7 rfl (fun _ _ _ h => h) ?_
   try simp only [Act.put, pu1, pu2, pu3, pu4, pu5, pu6]
   refine Ke.y 8 rfl (fun _ _ _ h => h) ?_
   try simp only [Act.put, pu1, pu2, pu3, pu4, pu5, pu6]
   refine wpAnyH_done (by kernel_rfl) ?_ _
   clear hHeld
   obtain ⟨W3, HW3, b3⟩ : ∃ X, Hid (W2.drew = X) ∧ Below W2.heap.size W2 X := ⟨_, rfl, Below.drew (Below.refl _ _)⟩
   rw [HW3.out]
   have z3 := b3.size
   have B3 : Hid (Below gm w W3) := B2.out.trans (b3.mono (by have := B2.out.size; omega))
   have r_m3 := Ke.r r_m2 b3
   have r_q3 := Ke.r r_q2 b3
   have o_v3 := Ke.o o_v2 b3
   have o_p3 := Ke.o o_p2 b3
   have c_m3 := Ke.c r_m3
   have c_q3 := Ke.c r_q3
   clear r_m2 c_m2 r_q2 c_q2 o_v2 o_p2
   by_cases hb : g.n < hq.n
   ·
    go_wp2_with (refine wpl_partG rfl 38 _ _ rfl (gm) 6 (hc hq) rfl rfl [.int .i64 id, .slice ao_v l.length cap_v, .int .i64 h.n, .string h.r, .slice ao_p b.length cap_p, .int .i64 s, .int .i64 g.n, .string g.r] 44 r_m3.out (Nat.le_of_ble_eq_true rfl) (sizeH _) (oneH _) [.int .i64 id, .slice ao_v l.length cap_v, .int .i64 h.n, .string h.r, .slice ao_p b.length cap_p, .int .i64 s, .int .i64 hq.n, .string hq.r] rfl ?_)
    intro W4 r_m4 g4
    have r_m4 := Ke.h r_m4
    have z4 := g4.size
    have B4 : Hid (Below gm w W4) := belowGro B3.out g4 (by have := B3.out.size; omega) (fun k9 h9 => by injection h9 with h9; have := B3.out.size; omega)
    have r_q4 := Ke.s r_q3 g4
    have o_v4 := Ke.t o_v3 r_m3 g4
    have o_p4 := Ke.t o_p3 r_m3 g4
    have c_m4 := Ke.c r_m4
    have c_q4 := Ke.c r_q4
    clear r_q3 c_q3 o_v3 o_p3
    clear r_m3 c_m3
    clear g4
    have HN : Hid (R = (⟨id, ⟨l, h, b, s⟩, hq⟩, ask ⟨id, ⟨l, h, b, s⟩, hq⟩ f)) := by show _ = _; rw [← HR.out]; unfold hear1 better; simp only; rw [if_pos HK.out, HA.out, if_pos rfl, if_pos hb]
    have q2 : ∀ W v1 v2, Sl W v1 (ss l) → Sl W v2 (bs b) → _ := fun W v1 v2 h1 h2 => ask_spec W v1 v2 ⟨id, ⟨l, h, b, s⟩, hq⟩ f h1 h2
    obtain ⟨N, hN⟩ : ∃ N, ask ⟨id, ⟨l, h, b, s⟩, hq⟩ f = N := ⟨_, rfl⟩
    simp only [hN] at q2
    rw [hN] at HN
    clear hN
    go_wp2_with fail
    refine wp_region_held_drew (S := fun w' => w'.cell? ⟨gm, 0, none⟩ = some (.int .i64 id) ∧ w'.cell? ⟨gm, 1, none⟩ = some (.slice ao_v l.length cap_v) ∧ w'.cell? ⟨gm, 2, none⟩ = some (.int .i64 h.n) ∧ w'.cell? ⟨gm, 3, none⟩ = some (.string h.r) ∧ w'.cell? ⟨gm, 4, none⟩ = some (.slice ao_p b.length cap_p) ∧ w'.cell? ⟨gm, 5, none⟩ = some (.int .i64 s) ∧ w'.cell? ⟨gm, 6, none⟩ = some (.int .i64 hq.n) ∧ w'.cell? ⟨gm, 7, none⟩ = some (.string hq.r) ∧ w'.cell? ⟨w.heap.size, 0, none⟩ = some (.int .i64 k) ∧ w'.cell? ⟨w.heap.size, 1, none⟩ = some (.int .i64 f) ∧ w'.cell? ⟨w.heap.size, 2, none⟩ = some (.int .i64 tt) ∧ w'.cell? ⟨w.heap.size, 3, none⟩ = some (.int .i64 hq.n) ∧ w'.cell? ⟨w.heap.size, 4, none⟩ = some (.string hq.r) ∧ w'.cell? ⟨w.heap.size, 5, none⟩ = some (.int .i64 n) ∧ w'.cell? ⟨w.heap.size, 6, none⟩ = some (.slice ao3 x.length cap3)) (by kernel_rfl) ⟨(c_m4 0), (c_m4 1), (c_m4 2), (c_m4 3), (c_m4 4), (c_m4 5), (c_m4 6), (c_m4 7), (c_q4 0), (c_q4 1), (c_q4 2), (c_q4 3), (c_q4 4), (c_q4 5), (c_q4 6)⟩ (fun hHeld => ?_)
    refine Ke.y 0 rfl (fun _ _ _ h => h) ?_
    try simp only [Act.put, pu1, pu2, pu3, pu4, pu5, pu6]
    refine Ke.y 1 rfl (fun _ _ _ h => h) ?_
    try simp only [Act.put, pu1, pu2, pu3, pu4, pu5, pu6]
    refine Ke.y 2 rfl (fun _ _ _ h => h) ?_
    try simp only [Act.put, pu1, pu2, pu3, pu4, pu5, pu6]
    refine Ke.y 3 rfl (fun _ _ _ h => h) ?_
    try simp only [Act.put, pu1, pu2, pu3, pu4, pu5, pu6]
    refine Ke.y 4 rfl (fun _ _ _ h => h) ?_
    try simp only [Act.put, pu1, pu2, pu3, pu4, pu5, pu6]
    refine Ke.z 5 rfl (fun K hK => ?_)
    go_simp
    refine (q2 W4.drew _ _ (Sl.later (w := W4) o_v4.out.sl (Below.drew (Below.refl _ _))) (Sl.later (w := W4) o_p4.out.sl (Below.drew (Below.refl _ _)))).mono ?_
    rintro e W5 ⟨v_o, rfl, om5, b5⟩
    have b5 : Below W4.heap.size W4 W5 := (Below.drew (Below.refl _ _)).trans b5
    obtain ⟨ao_o, L_o, cap_o, rfl, hL8, hL9⟩ := om5.form
    clear hL8 hL9
    have OM : Hid (Om W5 W4.heap.size W5.heap.size (.slice ao_o L_o cap_o) N) := om5
    clear om5
    refine hK.out _ _ ⟨(keepR (W := W4) hHeld.1 b5), (keepR (W := W4) hHeld.2.1 b5), (keepR (W := W4) hHeld.2.2.1 b5), (keepR (W := W4) hHeld.2.2.2.1 b5), (keepR (W := W4) hHeld.2.2.2.2.1 b5), (keepR (W := W4) hHeld.2.2.2.2.2.1 b5), (keepR (W := W4) hHeld.2.2.2.2.2.2.1 b5), (keepR (W := W4) hHeld.2.2.2.2.2.2.2.1 b5), (keepR (W := W4) hHeld.2.2.2.2.2.2.2.2.1 b5), (keepR (W := W4) hHeld.2.2.2.2.2.2.2.2.2.1 b5), (keepR (W := W4) hHeld.2.2.2.2.2.2.2.2.2.2.1 b5), (keepR (W := W4) hHeld.2.2.2.2.2.2.2.2.2.2.2.1 b5), (keepR (W := W4) hHeld.2.2.2.2.2.2.2.2.2.2.2.2.1 b5), (keepR (W := W4) hHeld.2.2.2.2.2.2.2.2.2.2.2.2.2.1 b5), (keepR (W := W4) hHeld.2.2.2.2.2.2.2.2.2.2.2.2.2.2 b5)⟩ (fun hHeld => ?_)
    clear hK K
    try simp only [Act.put, pu1, pu2, pu3, pu4, pu5, pu6]
    have z5 := b5.size
    have B5 : Hid (Below gm w W5) := B4.out.trans (b5.mono (by have := B4.out.size; omega))
    have r_m5 := Ke.r r_m4 b5
    have r_q5 := Ke.r r_q4 b5
    have o_v5 := Ke.o o_v4 b5
    have o_p5 := Ke.o o_p4 b5
    have c_m5 := Ke.c r_m5
    have c_q5 := Ke.c r_q5
    clear r_m4 c_m4 r_q4 c_q4 o_v4 o_p4
    refine Ke.y 6 rfl (fun _ _ _ h => h) ?_
    try simp only [Act.put, pu1, pu2, pu3, pu4, pu5, pu6]
    refine wpAnyH_done (by kernel_rfl) ?_ _
    clear hHeld
    go_wp2
    go_ret
    refine ⟨.slice ao_v l.length cap_v, .slice ao_p b.length cap_p, _, W4.heap.size, rfl, ?_, ?_, ?_, ?_, ?_, ?_, B5.out⟩
    ·
     rw [HN.out]
     exact r_m5.out
    ·
     omega
    ·
     first | omega | (simp; done) | (simp; omega)
    ·
     rw [HN.out]
     exact o_v5.out.mono (by omega) (by omega)
    ·
     rw [HN.out]
     exact o_p5.out.mono (by omega) (by omega)
    ·
     rw [HN.out]
     exact OM.out
   ·
    have HN : Hid (R = (⟨id, ⟨l, h, b, s⟩, g⟩, ask ⟨id, ⟨l, h, b, s⟩, g⟩ f)) := by show _ = _; rw [← HR.out]; unfold hear1 better; simp only; rw [if_pos HK.out, HA.out, if_pos rfl, if_neg hb]
    have q2 : ∀ W v1 v2, Sl W v1 (ss l) → Sl W v2 (bs b) → _ := fun W v1 v2 h1 h2 => ask_spec W v1 v2 ⟨id, ⟨l, h, b, s⟩, g⟩ f h1 h2
    obtain ⟨N, hN⟩ : ∃ N, ask ⟨id, ⟨l, h, b, s⟩, g⟩ f = N := ⟨_, rfl⟩
    simp only [hN] at q2
    rw [hN] at HN
    clear hN
    go_wp2_with fail
    refine wp_region_held_drew (S := fun w' => w'.cell? ⟨gm, 0, none⟩ = some (.int .i64 id) ∧ w'.cell? ⟨gm, 1, none⟩ = some (.slice ao_v l.length cap_v) ∧ w'.cell? ⟨gm, 2, none⟩ = some (.int .i64 h.n) ∧ w'.cell? ⟨gm, 3, none⟩ = some (.string h.r) ∧ w'.cell? ⟨gm, 4, none⟩ = some (.slice ao_p b.length cap_p) ∧ w'.cell? ⟨gm, 5, none⟩ = some (.int .i64 s) ∧ w'.cell? ⟨gm, 6, none⟩ = some (.int .i64 g.n) ∧ w'.cell? ⟨gm, 7, none⟩ = some (.string g.r) ∧ w'.cell? ⟨w.heap.size, 0, none⟩ = some (.int .i64 k) ∧ w'.cell? ⟨w.heap.size, 1, none⟩ = some (.int .i64 f) ∧ w'.cell? ⟨w.heap.size, 2, none⟩ = some (.int .i64 tt) ∧ w'.cell? ⟨w.heap.size, 3, none⟩ = some (.int .i64 hq.n) ∧ w'.cell? ⟨w.heap.size, 4, none⟩ = some (.string hq.r) ∧ w'.cell? ⟨w.heap.size, 5, none⟩ = some (.int .i64 n) ∧ w'.cell? ⟨w.heap.size, 6, none⟩ = some (.slice ao3 x.length cap3)) (by kernel_rfl) ⟨(c_m3 0), (c_m3 1), (c_m3 2), (c_m3 3), (c_m3 4), (c_m3 5), (c_m3 6), (c_m3 7), (c_q3 0), (c_q3 1), (c_q3 2), (c_q3 3), (c_q3 4), (c_q3 5), (c_q3 6)⟩ (fun hHeld => ?_)
    refine Ke.y 0 rfl (fun _ _ _ h => h) ?_
    try simp only [Act.put, pu1, pu2, pu3, pu4, pu5, pu6]
    refine Ke.y 1 rfl (fun _ _ _ h => h) ?_
    try simp only [Act.put, pu1, pu2, pu3, pu4, pu5, pu6]
    refine Ke.y 2 rfl (fun _ _ _ h => h) ?_
    try simp only [Act.put, pu1, pu2, pu3, pu4, pu5, pu6]
    refine Ke.y 3 rfl (fun _ _ _ h => h) ?_
    try simp only [Act.put, pu1, pu2, pu3, pu4, pu5, pu6]
    refine Ke.y 4 rfl (fun _ _ _ h => h) ?_
    try simp only [Act.put, pu1, pu2, pu3, pu4, pu5, pu6]
    refine Ke.z 5 rfl (fun K hK => ?_)
    go_simp
    refine (q2 W3.drew _ _ (Sl.later (w := W3) o_v3.out.sl (Below.drew (Below.refl _ _))) (Sl.later (w := W3) o_p3.out.sl (Below.drew (Below.refl _ _)))).mono ?_
    rintro e W4 ⟨v_o, rfl, om4, b4⟩
    have b4 : Below W3.heap.size W3 W4 := (Below.drew (Below.refl _ _)).trans b4
    obtain ⟨ao_o, L_o, cap_o, rfl, hL8, hL9⟩ := om4.form
    clear hL8 hL9
    have OM : Hid (Om W4 W3.heap.size W4.heap.size (.slice ao_o L_o cap_o) N) := om4
    clear om4
    refine hK.out _ _ ⟨(keepR (W := W3) hHeld.1 b4), (keepR (W := W3) hHeld.2.1 b4), (keepR (W := W3) hHeld.2.2.1 b4), (keepR (W := W3) hHeld.2.2.2.1 b4), (keepR (W := W3) hHeld.2.2.2.2.1 b4), (keepR (W := W3) hHeld.2.2.2.2.2.1 b4), (keepR (W := W3) hHeld.2.2.2.2.2.2.1 b4), (keepR (W := W3) hHeld.2.2.2.2.2.2.2.1 b4), (keepR (W := W3) hHeld.2.2.2.2.2.2.2.2.1 b4), (keepR (W := W3) hHeld.2.2.2.2.2.2.2.2.2.1 b4), (keepR (W := W3) hHeld.2.2.2.2.2.2.2.2.2.2.1 b4), (keepR (W := W3) hHeld.2.2.2.2.2.2.2.2.2.2.2.1 b4), (keepR (W := W3) hHeld.2.2.2.2.2.2.2.2.2.2.2.2.1 b4), (keepR (W := W3) hHeld.2.2.2.2.2.2.2.2.2.2.2.2.2.1 b4), (keepR (W := W3) hHeld.2.2.2.2.2.2.2.2.2.2.2.2.2.2 b4)⟩ (fun hHeld => ?_)
    clear hK K
    try simp only [Act.put, pu1, pu2, pu3, pu4, pu5, pu6]
    have z4 := b4.size
    have B4 : Hid (Below gm w W4) := B3.out.trans (b4.mono (by have := B3.out.size; omega))
    have r_m4 := Ke.r r_m3 b4
    have r_q4 := Ke.r r_q3 b4
    have o_v4 := Ke.o o_v3 b4
    have o_p4 := Ke.o o_p3 b4
    have c_m4 := Ke.c r_m4
    have c_q4 := Ke.c r_q4
    clear r_m3 c_m3 r_q3 c_q3 o_v3 o_p3
    refine Ke.y 6 rfl (fun _ _ _ h => h) ?_
    try simp only [Act.put, pu1, pu2, pu3, pu4, pu5, pu6]
    refine wpAnyH_done (by kernel_rfl) ?_ _
    clear hHeld
    go_wp2
    go_ret
    refine ⟨.slice ao_v l.length cap_v, .slice ao_p b.length cap_p, _, W3.heap.size, rfl, ?_, ?_, ?_, ?_, ?_, ?_, B4.out⟩
    ·
     rw [HN.out]
     exact r_m4.out
    ·
     omega
    ·
     first | omega | (simp; done) | (simp; omega)
    ·
     rw [HN.out]
     exact o_v4.out.mono (by omega) (by omega)
    ·
     rw [HN.out]
     exact o_p4.out.mono (by omega) (by omega)
    ·
     rw [HN.out]
     exact OM.out
 ·
  have nk : (k == 1) = false := by simp [hk1]
  by_cases hk2 : k = 2
  ·
   have nk2 : (k == 2) = true := by simp [hk2]
   have HK : Hid (k = 2) := hk2
   clear hk2 q1
   have hn : 0 ≤ n ∧ n < hq.n := by
    have h1 := msg_parts HOK.out
    have h2 := h1.2.2.2.2.2
    unfold Mg.kindOk at h2
    simp only at h2
    rw [if_neg hk1, if_pos HK.out] at h2
    simp only [Bool.and_eq_true, decide_eq_true_eq] at h2
    exact ⟨h1.2.2.2.2.1.1, h2.1⟩
   have HN : Hid (R = (⟨id, ⟨l, h, b, s⟩, g⟩, answer ⟨id, ⟨l, h, b, s⟩, g⟩ ⟨k, f, tt, hq, n, x⟩)) := by show _ = _; rw [← HR.out]; unfold hear1; simp only; rw [if_neg hk1, if_pos HK.out]
   have q2 : ∀ W v1 v2 v3, Sl W v1 (ss l) → Sl W v2 (bs b) → Sl W v3 (ss x) → _ := fun W v1 v2 v3 h1 h2 h3 => answer_spec W v1 v2 v3 ⟨id, ⟨l, h, b, s⟩, g⟩ ⟨k, f, tt, hq, n, x⟩ h1 h2 h3 hl hz hn.1 hn.2
   obtain ⟨N, hN⟩ : ∃ N, answer ⟨id, ⟨l, h, b, s⟩, g⟩ ⟨k, f, tt, hq, n, x⟩ = N := ⟨_, rfl⟩
   simp only [hN] at q2
   rw [hN] at HN
   clear hN
   go_wp2_with fail
   rw [HW1.out]
   clear a_m0
   refine wp_region_held_drew (S := fun w' => w'.cell? ⟨gm, 0, none⟩ = some (.int .i64 id) ∧ w'.cell? ⟨gm, 1, none⟩ = some (.slice ao_v l.length cap_v) ∧ w'.cell? ⟨gm, 2, none⟩ = some (.int .i64 h.n) ∧ w'.cell? ⟨gm, 3, none⟩ = some (.string h.r) ∧ w'.cell? ⟨gm, 4, none⟩ = some (.slice ao_p b.length cap_p) ∧ w'.cell? ⟨gm, 5, none⟩ = some (.int .i64 s) ∧ w'.cell? ⟨gm, 6, none⟩ = some (.int .i64 g.n) ∧ w'.cell? ⟨gm, 7, none⟩ = some (.string g.r) ∧ w'.cell? ⟨w.heap.size, 0, none⟩ = some (.int .i64 k) ∧ w'.cell? ⟨w.heap.size, 1, none⟩ = some (.int .i64 f) ∧ w'.cell? ⟨w.heap.size, 2, none⟩ = some (.int .i64 tt) ∧ w'.cell? ⟨w.heap.size, 3, none⟩ = some (.int .i64 hq.n) ∧ w'.cell? ⟨w.heap.size, 4, none⟩ = some (.string hq.r) ∧ w'.cell? ⟨w.heap.size, 5, none⟩ = some (.int .i64 n) ∧ w'.cell? ⟨w.heap.size, 6, none⟩ = some (.slice ao3 x.length cap3)) (by kernel_rfl) ⟨(c_m1 0), (c_m1 1), (c_m1 2), (c_m1 3), (c_m1 4), (c_m1 5), (c_m1 6), (c_m1 7), (c_q1 0), (c_q1 1), (c_q1 2), (c_q1 3), (c_q1 4), (c_q1 5), (c_q1 6)⟩ (fun hHeld => ?_)
   refine Ke.y 0 rfl (fun _ _ _ h => h) ?_
   try simp only [Act.put, pu1, pu2, pu3, pu4, pu5, pu6]
   refine Ke.y 1 rfl (fun _ _ _ h => h) ?_
   try simp only [Act.put, pu1, pu2, pu3, pu4, pu5, pu6]
   refine Ke.y 2 rfl (fun _ _ _ h => h) ?_
   try simp only [Act.put, pu1, pu2, pu3, pu4, pu5, pu6]
   refine Ke.y 3 rfl (fun _ _ _ h => h) ?_
   try simp only [Act.put, pu1, pu2, pu3, pu4, pu5, pu6]
   refine Ke.z 4 rfl (fun K hK => ?_)
   go_simp
   refine (q2 W1.drew _ _ _ (Sl.later (w := W1) o_v1.out.sl (Below.drew (Below.refl _ _))) (Sl.later (w := W1) o_p1.out.sl (Below.drew (Below.refl _ _))) (Sl.later (w := W1) (HX.out _ B1.out) (Below.drew (Below.refl _ _)))).mono ?_
   rintro e W2 ⟨v_o, rfl, om2, b2⟩
   have b2 : Below W1.heap.size W1 W2 := (Below.drew (Below.refl _ _)).trans b2
   obtain ⟨ao_o, L_o, cap_o, rfl, hL8, hL9⟩ := om2.form
   clear hL8 hL9
   have OM : Hid (Om W2 W1.heap.size W2.heap.size (.slice ao_o L_o cap_o) N) := om2
   clear om2
   refine hK.out _ _ ⟨(keepR (W := W1) hHeld.1 b2), (keepR (W := W1) hHeld.2.1 b2), (keepR (W := W1) hHeld.2.2.1 b2), (keepR (W := W1) hHeld.2.2.2.1 b2), (keepR (W := W1) hHeld.2.2.2.2.1 b2), (keepR (W := W1) hHeld.2.2.2.2.2.1 b2), (keepR (W := W1) hHeld.2.2.2.2.2.2.1 b2), (keepR (W := W1) hHeld.2.2.2.2.2.2.2.1 b2), (keepR (W := W1) hHeld.2.2.2.2.2.2.2.2.1 b2), (keepR (W := W1) hHeld.2.2.2.2.2.2.2.2.2.1 b2), (keepR (W := W1) hHeld.2.2.2.2.2.2.2.2.2.2.1 b2), (keepR (W := W1) hHeld.2.2.2.2.2.2.2.2.2.2.2.1 b2), (keepR (W := W1) hHeld.2.2.2.2.2.2.2.2.2.2.2.2.1 b2), (keepR (W := W1) hHeld.2.2.2.2.2.2.2.2.2.2.2.2.2.1 b2), (keepR (W := W1) hHeld.2.2.2.2.2.2.2.2.2.2.2.2.2.2 b2)⟩ (fun hHeld => ?_)
   clear hK K
   try simp only [Act.put, pu1, pu2, pu3, pu4, pu5, pu6]
   have z2 := b2.size
   have B2 : Hid (Below gm w W2) := B1.out.trans (b2.mono (by have := B1.out.size; omega))
   have r_m2 := Ke.r r_m1 b2
   have r_q2 := Ke.r r_q1 b2
   have o_v2 := Ke.o o_v1 b2
   have o_p2 := Ke.o o_p1 b2
   have c_m2 := Ke.c r_m2
   have c_q2 := Ke.c r_q2
   clear r_m1 c_m1 r_q1 c_q1 o_v1 o_p1
   refine Ke.y 5 rfl (fun _ _ _ h => h) ?_
   try simp only [Act.put, pu1, pu2, pu3, pu4, pu5, pu6]
   refine wpAnyH_done (by kernel_rfl) ?_ _
   clear hHeld
   go_wp2
   go_ret
   refine ⟨.slice ao_v l.length cap_v, .slice ao_p b.length cap_p, _, W1.heap.size, rfl, ?_, ?_, ?_, ?_, ?_, ?_, B2.out⟩
   ·
    rw [HN.out]
    exact r_m2.out
   ·
    omega
   ·
    first | omega | (simp; done) | (simp; omega)
   ·
    rw [HN.out]
    exact o_v2.out.mono (by omega) (by omega)
   ·
    rw [HN.out]
    exact o_p2.out.mono (by omega) (by omega)
   ·
    rw [HN.out]
    exact OM.out
  ·
   have nk2 : (k == 2) = false := by simp [hk2]
   clear q1
   have q3 : ∀ W v1 v2, Below gm w W → W.heap[gm]? = some (.cells (mq id v1 h v2 s g) 44 (0, 0)) → Own W lo gm 9 v1 (ss l) → Own W lo gm 5 v2 (bs b) → _ := fun W v1 v2 hB hr h9 h5 => takes_spec W gm lo v1 v2 (.slice ao2 t.length cap2) (.slice ao3 x.length cap3) ⟨id, ⟨l, h, b, s⟩, g⟩ t ⟨k, f, tt, hq, n, x⟩ (Nat.lt_of_lt_of_le hg hB.size) hlo hr h9 h5 (fun W2 h2 => HT.out W2 (hB.trans h2)) (fun W2 h2 => HX.out W2 (hB.trans h2)) hl hbl htl hxl hz hzx htx hdr
   obtain ⟨T2, hT⟩ : ∃ T2, takes ⟨id, ⟨l, h, b, s⟩, g⟩ t ⟨k, f, tt, hq, n, x⟩ = T2 := ⟨_, rfl⟩
   have HN : Hid (R = (T2, [])) := by show _ = _; rw [← HR.out]; unfold hear1; simp only; rw [if_neg hk1, if_neg hk2, hT]
   simp only [hT] at q3
   clear hT hz hzx
   go_wp2_with fail
   rw [HW1.out]
   clear a_m0
   refine (q3 W1 _ _ B1.out r_m1.out o_v1.out o_p1.out).mono ?_
   rintro e W2 ⟨v_n, v_np, rfl, rm, on, onp, bb⟩
   obtain ⟨ao_n, L_n, cap_n, rfl, _, _⟩ := Mem.Own.form on
   obtain ⟨ao_np, L_np, cap_np, rfl, _, _⟩ := Mem.Own.form onp
   have r_m2 := Ke.h rm
   have o_n2 := Ke.h on
   have o_np2 := Ke.h onp
   have B2 := Ke.h (B1.out.trans bb)
   have z2 := bb.size
   clear rm on onp bb q3 
   clear r_m1 c_m1 o_v1 o_p1 r_q1 c_q1
   go_wp2
   go_ret
   refine ⟨.slice ao_n L_n cap_n, .slice ao_np L_np cap_np, _, W2.heap.size, rfl, ?_, ?_, ?_, ?_, ?_, ?_, B2.out.alloc (by have := B2.out.size; omega) _⟩
   ·
    rw [HN.out]
    exact rowKeep r_m2.out ((Below.refl _ _).alloc (Nat.le_refl _) _)
   ·
    first | omega | (simp; done) | (simp; omega)
   ·
    first | omega | (simp; done) | (simp; omega)
   ·
    rw [HN.out]
    exact (Own.later o_n2.out ((Below.refl _ _).alloc (Nat.le_refl _) _) (by omega)).mono (by omega) (by first | omega | (simp; done) | (simp; omega))
   ·
    rw [HN.out]
    exact (Own.later o_np2.out ((Below.refl _ _).alloc (Nat.le_refl _) _) (by omega)).mono (by omega) (by first | omega | (simp; done) | (simp; omega))
   ·
    rw [HN.out]
    exact Om.nil _ _ _ _ _
set_option maxRecDepth 1000000 in
set_option maxHeartbeats 16000000 in
theorem hear_spec (w : World) (v vb vt vx : Value) (m : Mr) (t : List Hd) (q : Ms) (hs : Sl w v (ss m.st.l)) (hb : Sl w vb (bs m.st.b)) (hby : Byt m.st.b) (hst : Sh w vt t) (hl : m.st.l.length ≤ 1000000000) (hbl : m.st.b.length ≤ 1000000000) (htl : t.length ≤ 1000000000) (hz : ∀ s ∈ m.st.l, s.size ≤ 10000000000) (hx : Sl w vx (ss q.x)) (hxl : q.x.length ≤ 1000000000) (hzx : ∀ s ∈ q.x, s.size ≤ 10000000000) (htx : Puts.tot q.x ≤ 100000000000) (hdr : q.h.r.size ≤ 100000000000) :
  Calls Tryz.prog 11 #[.agg #[.int .i64 m.id, v, .int .i64 m.st.h.n, .string m.st.h.r, vb, .int .i64 m.st.s, .int .i64 m.b.n, .string m.b.r], vt, .agg #[.int .i64 q.k, .int .i64 q.f, .int .i64 q.t, .int .i64 q.h.n, .string q.h.r, .int .i64 q.n, vx]] w fun e w' => ∃ v' vb' vq mid, e = .returned (.tuple #[.agg #[.int .i64 (hear m t q).1.id, v', .int .i64 (hear m t q).1.st.h.n, .string (hear m t q).1.st.h.r, vb', .int .i64 (hear m t q).1.st.s, .int .i64 (hear m t q).1.b.n, .string (hear m t q).1.b.r], vq]) ∧ w.heap.size ≤ mid ∧ mid ≤ w'.heap.size ∧ Own w' w.heap.size mid 9 v' (ss (hear m t q).1.st.l) ∧ Own w' w.heap.size mid 5 vb' (bs (hear m t q).1.st.b) ∧ Om w' mid w'.heap.size vq (hear m t q).2 ∧ Below w.heap.size w w' := by
 obtain ⟨R, hR⟩ : ∃ R, hear m t q = R := ⟨_, rfl⟩
 have HR : Hid (hear m t q = R) := hR
 rw [hR]
 obtain ⟨id, ⟨l, h, b, s⟩, g⟩ := m
 obtain ⟨k, f, tt, hq, n, x⟩ := q
 simp only at *
 have HS : Hid (Sl w v (ss l)) := hs
 have HSB : Hid (Sl w vb (bs b)) := hb
 have HBY : Hid (Byt b) := hby
 have HT : Hid (Sh w vt t) := hst
 have HX : Hid (Sl w vx (ss x)) := hx
 obtain ⟨ao0, cap0, rfl, hc0⟩ := hs.form
 obtain ⟨ao1, cap1, rfl, hc1⟩ := hb.form
 obtain ⟨ao2, cap2, rfl, hc2⟩ := hst.form
 obtain ⟨ao3, cap3, rfl, hc3⟩ := hx.form
 simp only [ss_len, bs_len] at *
 clear hs hb hby hst hx hR
 have B0 : Hid (Below w.heap.size w w) := Below.refl _ _
 obtain ⟨W1, HW1, b1, y1, hS1, r_a1, r_q1, r_res1⟩ := Ke.l3 w #[.int .i64 id, .slice ao0 l.length cap0, .int .i64 h.n, .string h.r, .slice ao1 b.length cap1, .int .i64 s, .int .i64 g.n, .string g.r] 44 #[.int .i64 k, .int .i64 f, .int .i64 tt, .int .i64 hq.n, .string hq.r, .int .i64 n, .slice ao3 x.length cap3] 52 #[.int .i64 0, .slice none 0 0, .int .i64 0, .string ⟨#[]⟩, .slice none 0 0, .int .i64 0, .int .i64 0, .string ⟨#[]⟩] 44
 have z1 := b1.size
 have B1 := Ke.b B0 b1
 have c_a1 := Ke.c r_a1
 have c_q1 := Ke.c r_q1
 have c_res1 := Ke.c r_res1
 have q1 : ∀ W v1 v2, Sl W v1 (ss l) → Sl W v2 (bs b) → _ := fun W v1 v2 h1 h2 => mcopy_spec W v1 v2 ⟨id, ⟨l, h, b, s⟩, g⟩ h1 h2 hl hbl
 simp only at q1
 have q2 : ∀ W v1 v2 v3, Sl W v1 (ss l) → Sl W v2 (bs b) → Sh W v3 t → _ := fun W v1 v2 v3 h1 h2 h3 => mirrorok_spec W v1 v2 v3 ⟨id, ⟨l, h, b, s⟩, g⟩ t h1 h2 HBY.out h3 hl hbl htl hz
 obtain ⟨A, hA⟩ : ∃ A, mirrorOk ⟨id, ⟨l, h, b, s⟩, g⟩ t = A := ⟨_, rfl⟩
 simp only [hA] at q2
 have q3 : ∀ W v1, Sl W v1 (ss x) → _ := fun W v1 h1 => msgok_spec W v1 ⟨k, f, tt, hq, n, x⟩ h1 (by simp only; omega)
 obtain ⟨C, hC⟩ : ∃ C, msgOk ⟨k, f, tt, hq, n, x⟩ = C := ⟨_, rfl⟩
 simp only [hC] at q3
 have HA : Hid (mirrorOk ⟨id, ⟨l, h, b, s⟩, g⟩ t = A) := hA
 have HC : Hid (msgOk ⟨k, f, tt, hq, n, x⟩ = C) := hC
 clear hA hC
 go_enter Tryz.func11, Tryz.ntmps11
 go_wp2_with fail
 rw [HW1.out]
 refine (q1 W1 _ _ (HS.out.later B1.out) (HSB.out.later B1.out)).mono ?_
 rintro e W2 ⟨v_s, v_p, rfl, o_s2, o_p2, b2⟩
 obtain ⟨lo_s, hi_s, lo_p, hi_p, d1_s, d2_s, d3_s, d4_s, d5_s, d6_s, d7_s, oo_s, oo_p⟩ := Sr.pairN o_s2 o_p2 b2.size
 clear o_s2 o_p2
 obtain ⟨ao_s, L_s, cap_s, rfl, _, _⟩ := oo_s.form
 obtain ⟨ao_p, L_p, cap_p, rfl, _, _⟩ := oo_p.form
 have o_s2 : Hid (Own W2 lo_s hi_s 9 (.slice ao_s L_s cap_s) (ss l)) := oo_s
 have o_p2 : Hid (Own W2 lo_p hi_p 5 (.slice ao_p L_p cap_p) (bs b)) := oo_p
 clear oo_s oo_p
 have z2 := b2.size
 have B2 := Ke.b B1 b2
 have r_a2 := Ke.r r_a1 b2
 have r_q2 := Ke.r r_q1 b2
 have r_res2 := Ke.r r_res1 b2
 have c_a2 := Ke.c r_a2
 have c_q2 := Ke.c r_q2
 have c_res2 := Ke.c r_res2
 clear r_a1 c_a1 r_q1 c_q1 r_res1 c_res1
 have a_a2 := Ke.a r_a2
 have a_q2 := Ke.a r_q2
 have a_res2 := Ke.a r_res2
 obtain ⟨W3, HW3, b3, y3, hS3, r_out3⟩ := Ke.l1 W2 #[.int .i64 id, .slice ao_s L_s cap_s, .int .i64 h.n, .string h.r, .slice ao_p L_p cap_p, .int .i64 s, .int .i64 g.n, .string g.r] 44
 have z3 := b3.size
 have B3 := Ke.b B2 b3
 have r_a3 := Ke.r r_a2 b3
 have r_q3 := Ke.r r_q2 b3
 have r_res3 := Ke.r r_res2 b3
 have o_s3 := Ke.o o_s2 b3
 have o_p3 := Ke.o o_p2 b3
 have c_a3 := Ke.c r_a3
 have c_q3 := Ke.c r_q3
 have c_res3 := Ke.c r_res3
 have c_out3 := Ke.c r_out3
 clear r_a2 c_a2 r_q2 c_q2 r_res2 c_res2 o_s2 o_p2
 go_wp2_with fail
 rw [HW3.out]
 clear a_a2 a_q2 a_res2
 refine (q2 W3 _ _ _ (HS.out.later B3.out) (HSB.out.later B3.out) (HT.out.later B3.out)).mono ?_
 rintro e W4 ⟨rfl, b4⟩
 have z4 := b4.size
 have B4 := Ke.b B3 b4
 have r_a4 := Ke.r r_a3 b4
 have r_q4 := Ke.r r_q3 b4
 have r_res4 := Ke.r r_res3 b4
 have r_out4 := Ke.r r_out3 b4
 have o_s4 := Ke.o o_s3 b4
 have o_p4 := Ke.o o_p3 b4
 have c_a4 := Ke.c r_a4
 have c_q4 := Ke.c r_q4
 have c_res4 := Ke.c r_res4
 have c_out4 := Ke.c r_out4
 clear r_a3 c_a3 r_q3 c_q3 r_res3 c_res3 r_out3 c_out3 o_s3 o_p3
 cases A
 ·
  have HN : Hid (R = (⟨id, ⟨l, h, b, s⟩, g⟩, [])) := by show _ = _; rw [← HR.out]; unfold hear; rw [if_neg (fun q => by rw [HA.out] at q; cases q.1)]
  have rk := r_out4
  have a_a4 := Ke.a r_a4
  have a_q4 := Ke.a r_q4
  have a_res4 := Ke.a r_res4
  have a_out4 := Ke.a r_out4
  obtain ⟨W5, HW5, b5, y5, hS5, r_emp5⟩ := Ke.l1 W4 #[] 52
  have z5 := b5.size
  have B5 := Ke.b B4 b5
  have r_a5 := Ke.r r_a4 b5
  have r_q5 := Ke.r r_q4 b5
  have r_res5 := Ke.r r_res4 b5
  have r_out5 := Ke.r r_out4 b5
  have o_s5 := Ke.o o_s4 b5
  have o_p5 := Ke.o o_p4 b5
  have c_a5 := Ke.c r_a5
  have c_q5 := Ke.c r_q5
  have c_res5 := Ke.c r_res5
  have c_out5 := Ke.c r_out5
  clear r_a4 c_a4 r_q4 c_q4 r_res4 c_res4 r_out4 c_out4 o_s4 o_p4
  go_wp2_with (first | (refine wpList_load_row rfl 44 _ rfl (W2.heap.size) rfl 44 (mq id (.slice ao_s L_s cap_s) h (.slice ao_p L_p cap_p) s g) (0, 0) _ rk.out Tryz.underlying44 rfl (sizeQ _ _ _ _ _ _) ?_) | ((try rw [HW5.out]); refine wpList_store_row rfl 44 _ _ rfl (w.heap.size + 1 + 1) (mq id (.slice ao_s L_s cap_s) h (.slice ao_p L_p cap_p) s g) rfl rfl 44 _ r_res5.out (sizeQ _ _ _ _ _ _) rfl (oneQ _ _ _ _ rfl rfl) ?_))
  refine bodyPost_ret (res_row_tmp rfl _ _ (w.heap.size + 1 + 1) 44 (mq id (.slice ao_s L_s cap_s) h (.slice ao_p L_p cap_p) s g) (0, 0) _ rfl (setRow_heap _ _ _ _ _ (0, 0) r_res5.out) Tryz.underlying44 rfl (sizeQ _ _ _ _ _ _)) rfl ⟨.slice ao_s L_s cap_s, .slice ao_p L_p cap_p, _, W4.heap.size, by rw [HN.out]; rfl, ?_, ?_, ?_, ?_, ?_, below_setRow B5.out (by omega) _⟩
  ·
   omega
  ·
   rw [size_setRow]; omega
  ·
   rw [HN.out]
   exact (Own.setRow o_s5.out _ (by omega)).mono (by omega) (by omega)
  ·
   rw [HN.out]
   exact (Own.setRow o_p5.out _ (by omega)).mono (by omega) (by omega)
  ·
   rw [HN.out]
   exact Om.nil _ _ _ _ _
 ·
  go_wp2_with fail
  refine (q3 W4 _ (HX.out.later B4.out)).mono ?_
  rintro e W5 ⟨rfl, b5⟩
  have z5 := b5.size
  have B5 := Ke.b B4 b5
  have r_a5 := Ke.r r_a4 b5
  have r_q5 := Ke.r r_q4 b5
  have r_res5 := Ke.r r_res4 b5
  have r_out5 := Ke.r r_out4 b5
  have o_s5 := Ke.o o_s4 b5
  have o_p5 := Ke.o o_p4 b5
  have c_a5 := Ke.c r_a5
  have c_q5 := Ke.c r_q5
  have c_res5 := Ke.c r_res5
  have c_out5 := Ke.c r_out5
  clear r_a4 c_a4 r_q4 c_q4 r_res4 c_res4 r_out4 c_out4 o_s4 o_p4
  cases C
  ·
   have HN : Hid (R = (⟨id, ⟨l, h, b, s⟩, g⟩, [])) := by show _ = _; rw [← HR.out]; unfold hear; rw [if_neg (fun q => by rw [HC.out] at q; cases q.2.1)]
   have rk := r_out5
   have a_a5 := Ke.a r_a5
   have a_q5 := Ke.a r_q5
   have a_res5 := Ke.a r_res5
   have a_out5 := Ke.a r_out5
   obtain ⟨W6, HW6, b6, y6, hS6, r_emp6⟩ := Ke.l1 W5 #[] 52
   have z6 := b6.size
   have B6 := Ke.b B5 b6
   have r_a6 := Ke.r r_a5 b6
   have r_q6 := Ke.r r_q5 b6
   have r_res6 := Ke.r r_res5 b6
   have r_out6 := Ke.r r_out5 b6
   have o_s6 := Ke.o o_s5 b6
   have o_p6 := Ke.o o_p5 b6
   have c_a6 := Ke.c r_a6
   have c_q6 := Ke.c r_q6
   have c_res6 := Ke.c r_res6
   have c_out6 := Ke.c r_out6
   clear r_a5 c_a5 r_q5 c_q5 r_res5 c_res5 r_out5 c_out5 o_s5 o_p5
   go_wp2_with (first | (refine wpList_load_row rfl 44 _ rfl (W2.heap.size) rfl 44 (mq id (.slice ao_s L_s cap_s) h (.slice ao_p L_p cap_p) s g) (0, 0) _ rk.out Tryz.underlying44 rfl (sizeQ _ _ _ _ _ _) ?_) | ((try rw [HW6.out]); refine wpList_store_row rfl 44 _ _ rfl (w.heap.size + 1 + 1) (mq id (.slice ao_s L_s cap_s) h (.slice ao_p L_p cap_p) s g) rfl rfl 44 _ r_res6.out (sizeQ _ _ _ _ _ _) rfl (oneQ _ _ _ _ rfl rfl) ?_))
   refine bodyPost_ret (res_row_tmp rfl _ _ (w.heap.size + 1 + 1) 44 (mq id (.slice ao_s L_s cap_s) h (.slice ao_p L_p cap_p) s g) (0, 0) _ rfl (setRow_heap _ _ _ _ _ (0, 0) r_res6.out) Tryz.underlying44 rfl (sizeQ _ _ _ _ _ _)) rfl ⟨.slice ao_s L_s cap_s, .slice ao_p L_p cap_p, _, W5.heap.size, by rw [HN.out]; rfl, ?_, ?_, ?_, ?_, ?_, below_setRow B6.out (by omega) _⟩
   ·
    omega
   ·
    rw [size_setRow]; omega
   ·
    rw [HN.out]
    exact (Own.setRow o_s6.out _ (by omega)).mono (by omega) (by omega)
   ·
    rw [HN.out]
    exact (Own.setRow o_p6.out _ (by omega)).mono (by omega) (by omega)
   ·
    rw [HN.out]
    exact Om.nil _ _ _ _ _
  ·
   by_cases hti : tt = id
   ·
    have nt : (tt != id) = false := by simp [hti]
    have HN0 : Hid (R = hear1 ⟨id, ⟨l, h, b, s⟩, g⟩ t ⟨k, f, tt, hq, n, x⟩) := by show _ = _; rw [← HR.out]; unfold hear; rw [if_pos ⟨HA.out, HC.out, hti⟩]
    clear hti
    have q5 : ∀ v1 v2, W5.heap[W2.heap.size]? = some (.cells (mq id v1 h v2 s g) 44 (0, 0)) → Own W5 W1.heap.size (W2.heap.size) 9 v1 (ss l) → Own W5 W1.heap.size (W2.heap.size) 5 v2 (bs b) → _ := fun v1 v2 hr h9 h5 => hear1_spec W5 (W2.heap.size) W1.heap.size v1 v2 (.slice ao2 t.length cap2) (.slice ao3 x.length cap3) ⟨id, ⟨l, h, b, s⟩, g⟩ t ⟨k, f, tt, hq, n, x⟩ (by omega) (by omega) hr h9 h5 (fun W2 h2 => Sh.later HT.out (B5.out.trans (h2.mono (by omega)))) (fun W2 h2 => Sl.later HX.out (B5.out.trans (h2.mono (by omega)))) hl hbl htl hxl hz hzx htx hdr HC.out
    obtain ⟨⟨i2, ⟨Lx, Hx, Bx, Sx⟩, Gx⟩, Nx, hH⟩ : ∃ a9 b9, hear1 ⟨id, ⟨l, h, b, s⟩, g⟩ t ⟨k, f, tt, hq, n, x⟩ = (a9, b9) := ⟨_, _, rfl⟩
    simp only [hH] at q5
    have HN : Hid (R = (⟨i2, ⟨Lx, Hx, Bx, Sx⟩, Gx⟩, Nx)) := HN0.out.trans hH
    clear hH HN0 hz hzx
    go_wp2_with fail
    refine (q5 _ _ r_out5.out (o_s5.out.mono (by omega) (by omega)) (o_p5.out.mono (by omega) (by omega))).mono ?_
    rintro e W6 ⟨v_n, v_np, v_o, mid, rfl, rm, dm1, dm2, on, onp, om, bb⟩
    obtain ⟨ao_n, L_n, cap_n, rfl, _, _⟩ := Mem.Own.form on
    obtain ⟨ao_np, L_np, cap_np, rfl, _, _⟩ := Mem.Own.form onp
    obtain ⟨ao_o, L_o, cap_o, rfl, hL8, hL9⟩ := om.form
    clear hL8 hL9 q5
    have B6 := Ke.h (B5.out.trans (bb.mono (show w.heap.size ≤ W2.heap.size by omega)))
    have z6 := bb.size
    have r_res6 := Ke.h ((bb.block (w.heap.size + 1 + 1) (by omega)).trans r_res5.out)
    have r_out6 := Ke.h rm
    have o_n6 := Ke.h on
    have o_np6 := Ke.h onp
    have OM := Ke.h om
    clear rm on onp om bb
    clear r_a5 c_a5
    clear r_q5 c_q5
    clear o_s5
    clear o_p5
    clear r_res5 c_res5 r_out5 c_out5
    go_wp2_with (first | (refine wpList_load_row rfl 44 _ rfl (W2.heap.size) rfl 44 (mq i2 (.slice ao_n L_n cap_n) Hx (.slice ao_np L_np cap_np) Sx Gx) (0, 0) _ r_out6.out Tryz.underlying44 rfl (sizeQ _ _ _ _ _ _) ?_) | (refine wpList_store_row rfl 44 _ _ rfl (w.heap.size + 1 + 1) (mq i2 (.slice ao_n L_n cap_n) Hx (.slice ao_np L_np cap_np) Sx Gx) rfl rfl 44 _ r_res6.out (sizeQ _ _ _ _ _ _) rfl (oneQ _ _ _ _ rfl rfl) ?_))
    refine bodyPost_ret (res_row_tmp rfl _ _ (w.heap.size + 1 + 1) 44 (mq i2 (.slice ao_n L_n cap_n) Hx (.slice ao_np L_np cap_np) Sx Gx) (0, 0) _ rfl (setRow_heap _ _ _ _ _ (0, 0) r_res6.out) Tryz.underlying44 rfl (sizeQ _ _ _ _ _ _)) rfl ⟨.slice ao_n L_n cap_n, .slice ao_np L_np cap_np, _, mid, by rw [HN.out]; rfl, ?_, ?_, ?_, ?_, ?_, below_setRow B6.out (by omega) _⟩
    ·
     omega
    ·
     rw [size_setRow]; omega
    ·
     rw [HN.out]
     exact (Own.setRow o_n6.out _ (by omega)).mono (by omega) (by omega)
    ·
     rw [HN.out]
     exact (Own.setRow o_np6.out _ (by omega)).mono (by omega) (by omega)
    ·
     rw [HN.out]
     exact (OM.out.setRow _ (by omega)).mono (Nat.le_refl _) (by rw [size_setRow]; omega) (Nat.le_refl _)
   ·
    have nt : (tt != id) = true := by simp [hti]
    have ck2 := (c_q5 2)
    have ck0 := (c_a5 0)
    have HN : Hid (R = (⟨id, ⟨l, h, b, s⟩, g⟩, [])) := by show _ = _; rw [← HR.out]; unfold hear; rw [if_neg (fun q => hti q.2.2)]
    have rk := r_out5
    have a_a5 := Ke.a r_a5
    have a_q5 := Ke.a r_q5
    have a_res5 := Ke.a r_res5
    have a_out5 := Ke.a r_out5
    obtain ⟨W6, HW6, b6, y6, hS6, r_emp6⟩ := Ke.l1 W5 #[] 52
    have z6 := b6.size
    have B6 := Ke.b B5 b6
    have r_a6 := Ke.r r_a5 b6
    have r_q6 := Ke.r r_q5 b6
    have r_res6 := Ke.r r_res5 b6
    have r_out6 := Ke.r r_out5 b6
    have o_s6 := Ke.o o_s5 b6
    have o_p6 := Ke.o o_p5 b6
    have c_a6 := Ke.c r_a6
    have c_q6 := Ke.c r_q6
    have c_res6 := Ke.c r_res6
    have c_out6 := Ke.c r_out6
    clear r_a5 c_a5 r_q5 c_q5 r_res5 c_res5 r_out5 c_out5 o_s5 o_p5
    go_wp2_with (first | (refine wpList_load_row rfl 44 _ rfl (W2.heap.size) rfl 44 (mq id (.slice ao_s L_s cap_s) h (.slice ao_p L_p cap_p) s g) (0, 0) _ rk.out Tryz.underlying44 rfl (sizeQ _ _ _ _ _ _) ?_) | ((try rw [HW6.out]); refine wpList_store_row rfl 44 _ _ rfl (w.heap.size + 1 + 1) (mq id (.slice ao_s L_s cap_s) h (.slice ao_p L_p cap_p) s g) rfl rfl 44 _ r_res6.out (sizeQ _ _ _ _ _ _) rfl (oneQ _ _ _ _ rfl rfl) ?_))
    refine bodyPost_ret (res_row_tmp rfl _ _ (w.heap.size + 1 + 1) 44 (mq id (.slice ao_s L_s cap_s) h (.slice ao_p L_p cap_p) s g) (0, 0) _ rfl (setRow_heap _ _ _ _ _ (0, 0) r_res6.out) Tryz.underlying44 rfl (sizeQ _ _ _ _ _ _)) rfl ⟨.slice ao_s L_s cap_s, .slice ao_p L_p cap_p, _, W5.heap.size, by rw [HN.out]; rfl, ?_, ?_, ?_, ?_, ?_, below_setRow B6.out (by omega) _⟩
    ·
     omega
    ·
     rw [size_setRow]; omega
    ·
     rw [HN.out]
     exact (Own.setRow o_s6.out _ (by omega)).mono (by omega) (by omega)
    ·
     rw [HN.out]
     exact (Own.setRow o_p6.out _ (by omega)).mono (by omega) (by omega)
    ·
     rw [HN.out]
     exact Om.nil _ _ _ _ _
end Go.Proofs.YtchonoonclllbabGreatDoor.Mi
namespace Go.Proofs.YtchonoonclllbabGreatDoor.Ed
open Go.RowKit Go.Proofs.YtchonoonclllbabGreatDoor.Mem Go.Proofs.YtchonoonclllbabGreatDoor.Laws Go.Proofs.YtchonoonclllbabGreatDoor.Sha Go.Proofs.YtchonoonclllbabGreatDoor.Tr
set_option linter.unusedVariables false
set_option linter.unusedSimpArgs false
def top (n : Nat) : Nat := half (n + 1)
theorem top_ok {n : Nat} (h : 1 ≤ n) : Pow (top n) ∧ top n ≤ n ∧ n < 2 * top n := by
 obtain ⟨a, b, c⟩ := half_ok (n := n + 1) (by omega)
 exact ⟨a, by unfold top; omega, by unfold top; omega⟩
theorem top_pos {n : Nat} (h : 1 ≤ n) : 1 ≤ top n := by have := (top_ok h).2.2; omega
def edgeF : Nat → List ByteArray → List ByteArray
 | 0, _ => []
 | f + 1, l => if 1 ≤ l.length then root (l.take (top l.length)) :: edgeF f (l.drop (top l.length)) else []
theorem dropT_lt {l : List ByteArray} (h : 1 ≤ l.length) : (l.drop (top l.length)).length < l.length := by
 rw [List.length_drop]; have := top_pos h; omega
theorem edgeF_any : ∀ (f g : Nat) (l : List ByteArray), l.length < f → l.length < g → edgeF f l = edgeF g l := by
 intro f
 induction f with
 | zero => intro g l hf; omega
 | succ f ih =>
  intro g l hf hg
  cases g with
  | zero => omega
  | succ g =>
   by_cases h : 1 ≤ l.length
   ·
    have h1 := dropT_lt h
    rw [edgeF, edgeF, if_pos h, if_pos h, ih g (l.drop (top l.length)) (by omega) (by omega)]
   ·
    rw [edgeF, edgeF, if_neg h, if_neg h]
def edge (l : List ByteArray) : List ByteArray := edgeF (l.length + 1) l
theorem edge_nil : edge [] = [] := by unfold edge; rw [edgeF]; simp
theorem edge_some {l : List ByteArray} (h : 1 ≤ l.length) : edge l = root (l.take (top l.length)) :: edge (l.drop (top l.length)) := by
 have h1 := dropT_lt h
 unfold edge
 rw [edgeF, if_pos h, edgeF_any l.length ((l.drop (top l.length)).length + 1) (l.drop (top l.length)) (by omega) (by omega)]
def eroot : List ByteArray → ByteArray
 | [] => Plain.txt (digest [])
 | [h] => h
 | h :: g :: r => nodeH h (eroot (g :: r))
theorem eroot_cons {h : ByteArray} {r : List ByteArray} (hr : r ≠ []) : eroot (h :: r) = nodeH h (eroot r) := by
 cases r with
 | nil => exact absurd rfl hr
 | cons g r => rfl
theorem edge_ne {l : List ByteArray} (h : 1 ≤ l.length) : edge l ≠ [] := by rw [edge_some h]; simp
theorem eroot_edge (l : List ByteArray) : eroot (edge l) = root l := by
 refine lenRec (P := fun l => eroot (edge l) = root l) ?_ l
 intro l ih
 by_cases h : 1 ≤ l.length
 ·
  obtain ⟨hp, h1, h2⟩ := top_ok h
  have hpos := top_pos h
  rw [edge_some h]
  by_cases he : top l.length = l.length
  ·
   rw [he, List.take_length, List.drop_length, edge_nil]
   rfl
  ·
   have hd : 1 ≤ (l.drop (top l.length)).length := by rw [List.length_drop]; omega
   have h3 : 2 ≤ l.length := by omega
   rw [eroot_cons (edge_ne hd), ih (l.drop (top l.length)) (dropT_lt h), root_more h3]
   obtain ⟨a, b, c⟩ := half_ok h3
   rw [pow_one a hp b c (by omega) (by omega)]
 ·
  obtain rfl : l = [] := List.eq_nil_of_length_eq_zero (by omega)
  rw [edge_nil, root_nil]
  rfl
def carryF : Nat → Nat → List ByteArray → ByteArray → List ByteArray
 | 0, _, _, _ => []
 | f + 1, n, hs, h => if n % 2 = 1 then carryF f (n / 2) hs.dropLast (nodeH (hs.getLastD ⟨#[]⟩) h) else hs ++ [h]
theorem carryF_any : ∀ (f g n : Nat) (hs : List ByteArray) (h : ByteArray), n < f → n < g → carryF f n hs h = carryF g n hs h := by
 intro f
 induction f with
 | zero => intro g n hs h hf; omega
 | succ f ih =>
  intro g n hs h hf hg
  cases g with
  | zero => omega
  | succ g =>
   by_cases h0 : n % 2 = 1
   ·
    rw [carryF, carryF, if_pos h0, if_pos h0, ih g (n / 2) _ _ (by omega) (by omega)]
   ·
    rw [carryF, carryF, if_neg h0, if_neg h0]
def carry (n : Nat) (hs : List ByteArray) (h : ByteArray) : List ByteArray := carryF (n + 1) n hs h
theorem carry_if (n : Nat) (hs : List ByteArray) (h : ByteArray) : carry n hs h = if n % 2 = 1 then carry (n / 2) hs.dropLast (nodeH (hs.getLastD ⟨#[]⟩) h) else hs ++ [h] := by
 unfold carry
 by_cases h0 : n % 2 = 1
 ·
  rw [carryF, if_pos h0, if_pos h0, carryF_any n (n / 2 + 1) (n / 2) _ _ (by omega) (by omega)]
 ·
  rw [carryF, if_neg h0, if_neg h0]
theorem carry_even {n : Nat} (h0 : ¬ n % 2 = 1) (hs : List ByteArray) (h : ByteArray) : carry n hs h = hs ++ [h] := by rw [carry_if, if_neg h0]
theorem carry_odd {n : Nat} (h0 : n % 2 = 1) (hs : List ByteArray) (g h : ByteArray) : carry n (hs ++ [g]) h = carry (n / 2) hs (nodeH g h) := by
 rw [carry_if, if_pos h0]; simp
theorem pow_half (j : Nat) : half (2 ^ (j + 1)) = 2 ^ j := by
 have h1 : 1 ≤ 2 ^ j := Nat.one_le_two_pow
 have e : 2 ^ (j + 1) = 2 * 2 ^ j := by rw [Nat.pow_succ]; omega
 obtain ⟨a, b, c⟩ := half_ok (n := 2 ^ (j + 1)) (by omega)
 exact pow_one a ⟨j, rfl⟩ b c (by omega) (by omega)
theorem root_two {u t : List ByteArray} {j : Nat} (hu : u.length = 2 ^ j) (ht : t.length = 2 ^ j) : root (u ++ t) = nodeH (root u) (root t) := by
 have h1 : 1 ≤ 2 ^ j := Nat.one_le_two_pow
 have e : 2 ^ (j + 1) = 2 * 2 ^ j := by rw [Nat.pow_succ]; omega
 have hl : (u ++ t).length = 2 ^ (j + 1) := by rw [List.length_append]; omega
 rw [root_more (by omega), hl, pow_half, ← hu, List.take_left, List.drop_left]
theorem top_pow (j : Nat) : top (2 ^ j) = 2 ^ j := by
 have h1 : 1 ≤ 2 ^ j := Nat.one_le_two_pow
 obtain ⟨a, b, c⟩ := top_ok h1
 exact pow_one (n := 2 ^ j + 1) a ⟨j, rfl⟩ (by omega) (by omega) (by omega) (by omega)
theorem edge_pow {t : List ByteArray} {j : Nat} (ht : t.length = 2 ^ j) : edge t = [root t] := by
 have h1 : 1 ≤ 2 ^ j := Nat.one_le_two_pow
 rw [edge_some (by omega), ht, top_pow, ← ht, List.take_length, List.drop_length, edge_nil]
theorem edge_snoc {j : Nat} {t : List ByteArray} (ht : t.length = 2 ^ j) (l : List ByteArray) : ∀ (hl : 2 ^ (j + 1) ∣ l.length), edge (l ++ t) = edge l ++ [root t] := by
 refine lenRec (P := fun l => ∀ (hl : 2 ^ (j + 1) ∣ l.length), edge (l ++ t) = edge l ++ [root t]) ?_ l
 intro l ihl hl
 have h1 : 1 ≤ 2 ^ j := Nat.one_le_two_pow
 have e : 2 ^ (j + 1) = 2 * 2 ^ j := by rw [Nat.pow_succ]; omega
 by_cases h : 1 ≤ l.length
 ·
  obtain ⟨⟨d, hp⟩, a, b⟩ := top_ok h
  have hpos := top_pos h
  have hle : 2 ^ (j + 1) ≤ l.length := Nat.le_of_dvd (by omega) hl
  have hjd : j + 1 ≤ d := by
   have h4 : 2 ^ (j + 1) < 2 ^ (d + 1) := by rw [Nat.pow_succ 2 d]; omega
   have := (Nat.pow_lt_pow_iff_right (by omega : 1 < 2)).1 h4
   omega
  have hdvd : 2 ^ (j + 1) ∣ top l.length := by rw [hp]; exact Nat.pow_dvd_pow 2 hjd
  have hdrop : 2 ^ (j + 1) ∣ (l.drop (top l.length)).length := by rw [List.length_drop]; exact Nat.dvd_sub hl hdvd
  have hlt : l.length + 2 ^ j < 2 * top l.length := by
   have h5 : 2 ^ (j + 1) ∣ 2 * top l.length - l.length := Nat.dvd_sub (Nat.dvd_trans hdvd (Nat.dvd_mul_left _ _)) hl
   have h6 := Nat.le_of_dvd (by omega) h5
   omega
  have hlen : (l ++ t).length = l.length + 2 ^ j := by rw [List.length_append, ht]
  have htop : top (l ++ t).length = top l.length := by
   obtain ⟨a', b', c'⟩ := top_ok (n := (l ++ t).length) (by omega)
   exact pow_one (n := (l ++ t).length + 1) a' ⟨d, hp⟩ (by omega) (by omega) (by omega) (by omega)
  have ih := ihl (l.drop (top l.length)) (dropT_lt h) hdrop
  rw [edge_some (l := l ++ t) (by omega), htop, List.take_append_of_le_length a, List.drop_append_of_le_length a, ih, edge_some h]
  rfl
 ·
  obtain rfl : l = [] := List.eq_nil_of_length_eq_zero (by omega)
  rw [List.nil_append, edge_pow ht, edge_nil]
  rfl
theorem carry_edge (n : Nat) : ∀ (j : Nat) (l t : List ByteArray), l.length = n * 2 ^ j → t.length = 2 ^ j → carry n (edge l) (root t) = edge (l ++ t) := by
 refine natRec (P := fun n => ∀ (j : Nat) (l t : List ByteArray), l.length = n * 2 ^ j → t.length = 2 ^ j → carry n (edge l) (root t) = edge (l ++ t)) ?_ n
 intro n ihn j l t hl ht
 have h1 : 1 ≤ 2 ^ j := Nat.one_le_two_pow
 have e : 2 ^ (j + 1) = 2 * 2 ^ j := by rw [Nat.pow_succ]; omega
 by_cases hn : n % 2 = 1
 ·
  have hm : n * 2 ^ j = (n / 2) * 2 ^ (j + 1) + 2 ^ j := by
   have : n = 2 * (n / 2) + 1 := by omega
   generalize n / 2 = m at this
   rw [this, e, Nat.add_mul, Nat.one_mul, Nat.mul_comm 2 m, Nat.mul_assoc]
  have h2 : (l.take ((n / 2) * 2 ^ (j + 1))).length = (n / 2) * 2 ^ (j + 1) := by rw [List.length_take]; omega
  have h3 : (l.drop ((n / 2) * 2 ^ (j + 1))).length = 2 ^ j := by rw [List.length_drop]; omega
  have h4 : edge l = edge (l.take ((n / 2) * 2 ^ (j + 1))) ++ [root (l.drop ((n / 2) * 2 ^ (j + 1)))] := by
   have := edge_snoc h3 (l.take ((n / 2) * 2 ^ (j + 1))) (by rw [h2]; exact Nat.dvd_mul_left _ _)
   rwa [List.take_append_drop] at this
  rw [h4, carry_odd hn, ← root_two h3 ht, ihn (n / 2) (by omega) (j + 1) _ (l.drop ((n / 2) * 2 ^ (j + 1)) ++ t) h2 (by rw [List.length_append]; omega), ← List.append_assoc, List.take_append_drop]
 ·
  have hm : l.length = (n / 2) * 2 ^ (j + 1) := by
   have : n = 2 * (n / 2) := by omega
   generalize n / 2 = m at this
   rw [hl, this, e, Nat.mul_comm 2 m, Nat.mul_assoc]
  rw [carry_even hn, edge_snoc ht l (by rw [hm]; exact Nat.dvd_mul_left _ _)]
theorem carry_one (l : List ByteArray) (s : ByteArray) : carry l.length (edge l) (leafH s) = edge (l ++ [s]) := by
 rw [← root_one]
 exact carry_edge l.length 0 l [s] (by simp) (by simp)
def popcF : Nat → Nat → Nat
 | 0, _ => 0
 | f + 1, n => if n = 0 then 0 else n % 2 + popcF f (n / 2)
theorem popcF_any : ∀ (f g n : Nat), n < f → n < g → popcF f n = popcF g n := by
 intro f
 induction f with
 | zero => intro g n hf; omega
 | succ f ih =>
  intro g n hf hg
  cases g with
  | zero => omega
  | succ g =>
   by_cases h0 : n = 0
   ·
    rw [popcF, popcF, if_pos h0, if_pos h0]
   ·
    rw [popcF, popcF, if_neg h0, if_neg h0, ih g (n / 2) (by omega) (by omega)]
def popc (n : Nat) : Nat := popcF (n + 1) n
theorem popc_zero : popc 0 = 0 := rfl
theorem popc_step {n : Nat} (h : n ≠ 0) : popc n = n % 2 + popc (n / 2) := by
 unfold popc
 rw [popcF, if_neg h, popcF_any n (n / 2 + 1) (n / 2) (by omega) (by omega)]
theorem carry_len (n : Nat) : ∀ (hs : List ByteArray) (h : ByteArray), hs.length = popc n → (carry n hs h).length = popc (n + 1) := by
 refine natRec (P := fun n => ∀ (hs : List ByteArray) (h : ByteArray), hs.length = popc n → (carry n hs h).length = popc (n + 1)) ?_ n
 intro n ih hs h hl
 by_cases hn : n % 2 = 1
 ·
  rw [popc_step (by omega), hn] at hl
  rcases List.eq_nil_or_concat hs with rfl | ⟨q, g, rfl⟩
  ·
   simp at hl
   omega
  ·
   rw [List.concat_eq_append] at *
   have hq : q.length = popc (n / 2) := by simp at hl; omega
   rw [carry_odd hn, ih (n / 2) (by omega) q _ hq, popc_step (n := n + 1) (by omega), show (n + 1) % 2 = 0 by omega, show (n + 1) / 2 = n / 2 + 1 by omega]
   omega
 ·
  rw [carry_even hn, List.length_append, hl, popc_step (n := n + 1) (by omega), show (n + 1) % 2 = 1 by omega, show (n + 1) / 2 = n / 2 by omega]
  by_cases h0 : n = 0
  ·
   subst h0; simp [popc_zero]
  ·
   rw [popc_step h0, show n % 2 = 0 by omega]; simp; omega
theorem carry_sizes (n : Nat) : ∀ (hs : List ByteArray) (h : ByteArray), (∀ s ∈ hs, s.size = 32) → h.size = 32 → ∀ s ∈ carry n hs h, s.size = 32 := by
 refine natRec (P := fun n => ∀ (hs : List ByteArray) (h : ByteArray), (∀ s ∈ hs, s.size = 32) → h.size = 32 → ∀ s ∈ carry n hs h, s.size = 32) ?_ n
 intro n ih hs h hl h32
 by_cases hn : n % 2 = 1
 ·
  rw [carry_if, if_pos hn]
  exact ih (n / 2) (by omega) _ _ (fun s hs' => hl s (List.dropLast_subset _ hs')) (nodeH_size _ _)
 ·
  rw [carry_even hn]
  intro s hs'
  rcases List.mem_append.1 hs' with h1 | h1
  ·
   exact hl s h1
  ·
   simp at h1; rw [h1]; exact h32
theorem edge_sizes (l : List ByteArray) : ∀ s ∈ edge l, s.size = 32 := by
 refine lenRec (P := fun l => ∀ s ∈ edge l, s.size = 32) ?_ l
 intro l ih
 by_cases h : 1 ≤ l.length
 ·
  have hp := top_pos h
  rw [edge_some h]
  intro s hs
  rcases List.mem_cons.1 hs with rfl | hs
  ·
   exact root_size _
  ·
   exact ih _ (dropT_lt h) s hs
 ·
  obtain rfl : l = [] := List.eq_nil_of_length_eq_zero (by omega)
  rw [edge_nil]; intro s hs; cases hs
theorem edge_lenN : ∀ (N : Nat) (l : List ByteArray), l.length = N → (edge l).length = popc N := by
 intro N
 induction N with
 | zero =>
  intro l h
  obtain rfl : l = [] := List.eq_nil_of_length_eq_zero h
  rw [edge_nil, popc_zero]; rfl
 | succ n ih =>
  intro l h
  rcases List.eq_nil_or_concat l with rfl | ⟨q, s, rfl⟩
  ·
   cases h
  ·
   rw [List.concat_eq_append] at *
   have hq : q.length = n := by simp at h; exact h
   rw [← carry_one, hq, carry_len _ _ _ (ih q hq)]
theorem edge_len (l : List ByteArray) : (edge l).length = popc l.length := edge_lenN _ l rfl
theorem popc_le : ∀ n : Fin 256, popc n.val ≤ 8 := by decide +kernel
def okE (n : Int) (hs : List ByteArray) : Bool := decide (0 ≤ n ∧ n ≤ 200) && decide (hs.length = popc n.toNat) && hs.all (fun s => decide (s.size = 32))
def addE (n : Int) (hs : List ByteArray) (s : ByteArray) : Int × List ByteArray × Bool :=
 if okE n hs = true ∧ n ≠ 200 then (n + 1, carry n.toNat hs (leafH s), true) else (n, hs, false)
def rootE (n : Int) (hs : List ByteArray) : ByteArray := if okE n hs = true then eroot hs else ⟨#[]⟩
def goE (n : Int) (hs : List ByteArray) : List ByteArray → Option (Int × List ByteArray)
 | [] => some (n, hs)
 | s :: r => if (addE n hs s).2.2 = true then goE (addE n hs s).1 (addE n hs s).2.1 r else none
def allE (n : Int) (hs l : List ByteArray) : Int × List ByteArray × Bool := match goE n hs l with
 | some (m, r) => (m, r, true)
 | none => (n, hs, false)
theorem okE_iff {n : Int} {hs : List ByteArray} : okE n hs = true ↔ (0 ≤ n ∧ n ≤ 200) ∧ hs.length = popc n.toNat ∧ ∀ s ∈ hs, s.size = 32 := by
 unfold okE
 simp [and_assoc]
theorem okE_edge {l : List ByteArray} (h : l.length ≤ 200) : okE (l.length : Int) (edge l) = true :=
 okE_iff.2 ⟨by omega, by rw [edge_len, Int.toNat_natCast], edge_sizes l⟩
theorem addE_yes {n : Int} {hs : List ByteArray} (h : okE n hs = true) (h2 : n ≠ 200) (s : ByteArray) : addE n hs s = (n + 1, carry n.toNat hs (leafH s), true) := by
 unfold addE; rw [if_pos ⟨h, h2⟩]
theorem addE_no {n : Int} {hs : List ByteArray} (h : ¬ (okE n hs = true ∧ n ≠ 200)) (s : ByteArray) : addE n hs s = (n, hs, false) := by
 unfold addE; rw [if_neg h]
theorem addE_ok {n : Int} {hs : List ByteArray} (h : okE n hs = true) (h2 : n ≠ 200) (s : ByteArray) : okE (n + 1) (carry n.toNat hs (leafH s)) = true := by
 obtain ⟨a, b, c⟩ := okE_iff.1 h
 refine okE_iff.2 ⟨by omega, ?_, carry_sizes _ _ _ c (leafH_size s)⟩
 rw [carry_len _ _ _ b, show (n + 1).toNat = n.toNat + 1 by omega]
theorem addE_edge {l : List ByteArray} (h : l.length < 200) (s : ByteArray) : addE (l.length : Int) (edge l) s = (((l ++ [s]).length : Int), edge (l ++ [s]), true) := by
 rw [addE_yes (okE_edge (by omega)) (by omega), Int.toNat_natCast, carry_one, List.length_append]
 rfl
theorem goE_edge : ∀ (r l : List ByteArray), l.length + r.length ≤ 200 → goE (l.length : Int) (edge l) r = some (((l ++ r).length : Int), edge (l ++ r))
 | [], l, _ => by rw [List.append_nil]; rfl
 | s :: r, l, h => by
  have hl : l.length < 200 := by simp at h; omega
  rw [goE, addE_edge hl, if_pos rfl]
  have := goE_edge r (l ++ [s]) (by simp at h ⊢; omega)
  rw [this, List.append_assoc]
  rfl
theorem allE_edge {l r : List ByteArray} (h : l.length + r.length ≤ 200) : allE (l.length : Int) (edge l) r = (((l ++ r).length : Int), edge (l ++ r), true) := by
 unfold allE; rw [goE_edge r l h]
theorem rootE_edge {l : List ByteArray} (h : l.length ≤ 200) : rootE (l.length : Int) (edge l) = root l := by
 unfold rootE; rw [if_pos (okE_edge h), eroot_edge]
end Go.Proofs.YtchonoonclllbabGreatDoor.Ed
