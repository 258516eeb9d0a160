/- Texts in one: Mi8, Mi9. -/
import Derived.Test.YtchonoonclllbaaGreatDoorPh23
import Derived.Test.YtchonoonclllbaaGreatDoorPh24
set_option maxHeartbeats 16000000
set_option linter.unusedVariables false
set_option linter.unusedSimpArgs false
namespace Go.Proofs.YtchonoonclllbaaGreatDoor.Mi
open Go.RowKit Mem Laws Bytes Sha Tr He Lg Sr Mg
set_option maxRecDepth 1000000 in
theorem hear1_spec (w : World) (gm lo : Nat) (v vb vt vx : Value) (m : Mr) (t : List Hd) (q : Ms) (hg : gm < w.heap.size) (hlo : lo ≤ gm) (hr : w.heap[gm]? = some (.cells (mq m.id v m.st.h vb m.st.s m.b) 32 (0, 0))) (h9 : Own w lo gm 9 v (ss m.st.l)) (h5 : Own w lo gm 5 vb (bs m.st.b)) (hst : ∀ W, Below gm w W → Sh W vt t) (hx : ∀ W, Below gm w W → Sl W vx (ss q.x)) (hl : m.st.l.length ≤ 1000000000) (hbl : m.st.b.length ≤ 1000000000) (htl : t.length ≤ 1000000000) (hxl : q.x.length ≤ 1000000000) (hz : ∀ s ∈ m.st.l, s.size ≤ 10000000000) (hzx : ∀ s ∈ q.x, s.size ≤ 10000000000) (htx : Puts.tot q.x ≤ 100000000000) (hdr : q.h.r.size ≤ 100000000000) (hok : msgOk q = true) :
  Calls Tryz.prog 47 #[.pointer (some ⟨gm, 0, none⟩), vt, .agg #[.int .i64 q.k, .int .i64 q.f, .int .i64 q.t, .int .i64 q.h.n, .string q.h.r, .int .i64 q.n, vx]] w fun e w' => ∃ v' vb' vq mid, e = .returned vq ∧ w'.heap[gm]? = some (.cells (mq (hear1 m t q).1.id v' (hear1 m t q).1.st.h vb' (hear1 m t q).1.st.s (hear1 m t q).1.b) 32 (0, 0)) ∧ w.heap.size ≤ mid ∧ mid ≤ w'.heap.size ∧ Own w' lo mid 9 v' (ss (hear1 m t q).1.st.l) ∧ Own w' lo mid 5 vb' (bs (hear1 m t q).1.st.b) ∧ Om w' mid w'.heap.size vq (hear1 m t q).2 ∧ Below gm w w' := by
 obtain ⟨R, hR⟩ : ∃ R, hear1 m t q = R := ⟨_, rfl⟩
 have HR : Hid (hear1 m t q = R) := hR
 rw [hR]
 obtain ⟨id, ⟨l, h, b, s⟩, g⟩ := m
 obtain ⟨k, f, tt, hq, n, x⟩ := q
 simp only at *
 have HT : Hid (∀ W, Below gm w W → Sh W vt t) := hst
 have HX : Hid (∀ W, Below gm w W → Sl W vx (ss x)) := hx
 obtain ⟨ao2, cap2, rfl, hc2⟩ := (hst w (Below.refl _ _)).form
 obtain ⟨ao3, cap3, rfl, hc3⟩ := (hx w (Below.refl _ _)).form
 obtain ⟨ao_v, L_v, cap_v, rfl, hv1, hv2⟩ := Mem.Own.form h9
 obtain ⟨ao_p, L_p, cap_p, rfl, hp1, hp2⟩ := Mem.Own.form h5
 simp only [ss_len, bs_len] at *
 obtain rfl : L_v = l.length := by omega
 obtain rfl : L_p = b.length := by omega
 have B0 : Hid (Below gm w w) := Below.refl _ _
 have r_m0 : Hid (w.heap[gm]? = some (.cells #[.int .i64 id, .slice ao_v l.length cap_v, .int .i64 h.n, .string h.r, .slice ao_p b.length cap_p, .int .i64 s, .int .i64 g.n, .string g.r] 32 (0, 0))) := hr
 have o_v0 : Hid (Own w lo gm 9 (.slice ao_v l.length cap_v) (ss l)) := h9
 have o_p0 : Hid (Own w lo gm 5 (.slice ao_p b.length cap_p) (bs b)) := h5
 clear hst hx hR hr h9 h5 hv1 hv2 hp1 hp2
 have c_m0 := Ke.c r_m0
 have a_m0 := Ke.a r_m0
 obtain ⟨W1, HW1, b1, y1, hS1, r_q1⟩ := Ke.l1 w #[.int .i64 k, .int .i64 f, .int .i64 tt, .int .i64 hq.n, .string hq.r, .int .i64 n, .slice ao3 x.length cap3] 35
 have z1 := b1.size
 have B1 : Hid (Below gm w W1) := B0.out.trans (b1.mono (by have := B0.out.size; omega))
 have r_m1 := Ke.r r_m0 b1
 have o_v1 := Ke.o o_v0 b1
 have o_p1 := Ke.o o_p0 b1
 have c_m1 := Ke.c r_m1
 have c_q1 := Ke.c r_q1
 clear r_m0 c_m0 o_v0 o_p0
 have HOK : Hid (msgOk ⟨k, f, tt, hq, n, x⟩ = true) := hok
 clear hok
 have q1 : ∀ W v1, Sh W v1 t → _ := fun W v1 h1 => signed_spec W v1 t hq h1 (by omega)
 obtain ⟨A, hA⟩ : ∃ A, signed t hq = A := ⟨_, rfl⟩
 simp only [hA] at q1
 have HA : Hid (signed t hq = A) := hA
 clear hA
 go_enter Tryz.func47, Tryz.ntmps47
 by_cases hk1 : k = 1
 ·have nk : (k == 1) = true := by simp [hk1]
  have HK : Hid (k = 1) := hk1
  clear hk1
  go_wp2_with fail
  rw [HW1.out]
  clear a_m0
  refine (q1 W1 _ (HT.out _ B1.out)).mono ?_
  rintro e W2 ⟨rfl, b2⟩
  have z2 := b2.size
  have B2 : Hid (Below gm w W2) := B1.out.trans (b2.mono (by have := B1.out.size; omega))
  have r_m2 := Ke.r r_m1 b2
  have r_q2 := Ke.r r_q1 b2
  have o_v2 := Ke.o o_v1 b2
  have o_p2 := Ke.o o_p1 b2
  have c_m2 := Ke.c r_m2
  have c_q2 := Ke.c r_q2
  clear r_m1 c_m1 r_q1 c_q1 o_v1 o_p1
  cases A
  ·have HN : Hid (R = (⟨id, ⟨l, h, b, s⟩, g⟩, [])) := by show _ = _; rw [← HR.out]; unfold hear1; simp only; rw [if_pos HK.out, HA.out]; rfl
   go_wp2
   go_ret
   refine ⟨.slice ao_v l.length cap_v, .slice ao_p b.length cap_p, _, w.heap.size, rfl, ?_, ?_, ?_, ?_, ?_, ?_, B2.out.alloc (by have := B2.out.size; omega) _⟩
   ·rw [HN.out]
    exact rowKeep r_m2.out ((Below.refl _ _).alloc (Nat.le_refl _) _)
   ·first | omega | (simp; done) | (simp; omega)
   ·first | omega | (simp; done) | (simp; omega)
   ·rw [HN.out]
    exact (Own.later o_v2.out ((Below.refl _ _).alloc (Nat.le_refl _) _) (by omega)).mono (by omega) (by first | omega | (simp; done) | (simp; omega))
   ·rw [HN.out]
    exact (Own.later o_p2.out ((Below.refl _ _).alloc (Nat.le_refl _) _) (by omega)).mono (by omega) (by first | omega | (simp; done) | (simp; omega))
   ·rw [HN.out]
    exact Om.nil _ _ _ _ _
  ·have hff : (0 ≤ f ∧ f ≤ 20) := (msg_parts HOK.out).1
   go_wp2_with fail
   refine wp_region_held_drew (S := fun w' => (∀ j, w'.cell? ⟨gm, j, none⟩ = #[.int .i64 id, .slice ao_v l.length cap_v, .int .i64 h.n, .string h.r, .slice ao_p b.length cap_p, .int .i64 s, .int .i64 g.n, .string g.r][j]?) ∧ (∀ j, w'.cell? ⟨w.heap.size, j, none⟩ = #[.int .i64 k, .int .i64 f, .int .i64 tt, .int .i64 hq.n, .string hq.r, .int .i64 n, .slice ao3 x.length cap3][j]?)) (by kernel_rfl) ⟨c_m2, c_q2⟩ (fun hHeld => ?_)
   refine Ke.q 0 ?_; try simp only [Act.put, pq]
   refine Ke.q 1 ?_; try simp only [Act.put, pq]
   refine Ke.q 2 ?_; try simp only [Act.put, pq]
   refine Ke.q 3 ?_; try simp only [Act.put, pq]
   refine Ke.q 4 ?_; try simp only [Act.put, pq]
   refine Ke.q 5 ?_; try simp only [Act.put, pq]
   refine Ke.q 6 ?_; try simp only [Act.put, pq]
   refine Ke.q 7 ?_; try simp only [Act.put, pq]
   refine Ke.q 8 ?_; try simp only [Act.put, pq]
   refine wpAnyH_done (by kernel_rfl) ?_ _
   clear hHeld
   obtain ⟨W3, HW3, b3⟩ := Ke.v W2
   rw [HW3.out]
   have z3 := b3.size
   have B3 : Hid (Below gm w W3) := B2.out.trans (b3.mono (by have := B2.out.size; omega))
   have r_m3 := Ke.r r_m2 b3
   have r_q3 := Ke.r r_q2 b3
   have o_v3 := Ke.o o_v2 b3
   have o_p3 := Ke.o o_p2 b3
   have c_m3 := Ke.c r_m3
   have c_q3 := Ke.c r_q3
   clear r_m2 c_m2 r_q2 c_q2 o_v2 o_p2
   by_cases hb : g.n < hq.n
   ·go_wp2_with (refine wpl_partG rfl 26 _ _ rfl (gm) 6 (hc hq) rfl rfl [.int .i64 id, .slice ao_v l.length cap_v, .int .i64 h.n, .string h.r, .slice ao_p b.length cap_p, .int .i64 s, .int .i64 g.n, .string g.r] 32 r_m3.out (Nat.le_of_ble_eq_true rfl) (sizeH _) (oneH _) [.int .i64 id, .slice ao_v l.length cap_v, .int .i64 h.n, .string h.r, .slice ao_p b.length cap_p, .int .i64 s, .int .i64 hq.n, .string hq.r] rfl ?_)
    intro W4 r_m4 g4
    have r_m4 := Ke.h r_m4
    have z4 := g4.size
    have B4 : Hid (Below gm w W4) := belowGro B3.out g4 (by have := B3.out.size; omega) (fun k9 h9 => by injection h9 with h9; have := B3.out.size; omega)
    have r_q4 := Ke.s r_q3 g4
    have o_v4 := Ke.t o_v3 r_m3 g4
    have o_p4 := Ke.t o_p3 r_m3 g4
    have c_m4 := Ke.c r_m4
    have c_q4 := Ke.c r_q4
    clear r_q3 c_q3 o_v3 o_p3
    clear r_m3 c_m3
    clear g4
    have HN : Hid (R = (⟨id, ⟨l, h, b, s⟩, hq⟩, ask ⟨id, ⟨l, h, b, s⟩, hq⟩ f)) := by show _ = _; rw [← HR.out]; unfold hear1 better; simp only; rw [if_pos HK.out, HA.out, if_pos rfl, if_pos hb]
    have q2 : ∀ W v1 v2, Sl W v1 (ss l) → Sl W v2 (bs b) → _ := fun W v1 v2 h1 h2 => ask_spec W v1 v2 ⟨id, ⟨l, h, b, s⟩, hq⟩ f h1 h2
    obtain ⟨N, hN⟩ : ∃ N, ask ⟨id, ⟨l, h, b, s⟩, hq⟩ f = N := ⟨_, rfl⟩
    simp only [hN] at q2
    rw [hN] at HN
    clear hN
    go_wp2_with fail
    refine wp_region_held_drew (S := fun w' => (∀ j, w'.cell? ⟨gm, j, none⟩ = #[.int .i64 id, .slice ao_v l.length cap_v, .int .i64 h.n, .string h.r, .slice ao_p b.length cap_p, .int .i64 s, .int .i64 hq.n, .string hq.r][j]?) ∧ (∀ j, w'.cell? ⟨w.heap.size, j, none⟩ = #[.int .i64 k, .int .i64 f, .int .i64 tt, .int .i64 hq.n, .string hq.r, .int .i64 n, .slice ao3 x.length cap3][j]?)) (by kernel_rfl) ⟨c_m4, c_q4⟩ (fun hHeld => ?_)
    refine Ke.q 0 ?_; try simp only [Act.put, pq]
    refine Ke.q 1 ?_; try simp only [Act.put, pq]
    refine Ke.q 2 ?_; try simp only [Act.put, pq]
    refine Ke.q 3 ?_; try simp only [Act.put, pq]
    refine Ke.q 4 ?_; try simp only [Act.put, pq]
    refine Ke.z 5 rfl (fun K hK => ?_)
    go_simp
    refine (q2 W4.drew _ _ (Sl.later (w := W4) o_v4.out.sl (Below.drew (Below.refl _ _))) (Sl.later (w := W4) o_p4.out.sl (Below.drew (Below.refl _ _)))).mono ?_
    rintro e W5 ⟨v_o, rfl, om5, b5⟩
    have b5 : Below W4.heap.size W4 W5 := (Below.drew (Below.refl _ _)).trans b5
    obtain ⟨ao_o, L_o, cap_o, rfl, hL8, hL9⟩ := om5.form
    clear hL8 hL9
    have OM : Hid (Om W5 W4.heap.size W5.heap.size (.slice ao_o L_o cap_o) N) := om5
    clear om5
    refine hK.out _ _ ⟨(Ke.k (W := W4) hHeld.1 b5), (Ke.k (W := W4) hHeld.2 b5)⟩ (fun hHeld => ?_)
    clear hK K
    try simp only [Act.put, pq]
    have z5 := b5.size
    have B5 : Hid (Below gm w W5) := B4.out.trans (b5.mono (by have := B4.out.size; omega))
    have r_m5 := Ke.r r_m4 b5
    have r_q5 := Ke.r r_q4 b5
    have o_v5 := Ke.o o_v4 b5
    have o_p5 := Ke.o o_p4 b5
    have c_m5 := Ke.c r_m5
    have c_q5 := Ke.c r_q5
    clear r_m4 c_m4 r_q4 c_q4 o_v4 o_p4
    refine Ke.q 6 ?_; try simp only [Act.put, pq]
    refine wpAnyH_done (by kernel_rfl) ?_ _
    clear hHeld
    go_wp2
    go_ret
    refine ⟨.slice ao_v l.length cap_v, .slice ao_p b.length cap_p, _, W4.heap.size, rfl, ?_, ?_, ?_, ?_, ?_, ?_, B5.out⟩
    ·rw [HN.out]
     exact r_m5.out
    ·omega
    ·first | omega | (simp; done) | (simp; omega)
    ·rw [HN.out]
     exact o_v5.out.mono (by omega) (by omega)
    ·rw [HN.out]
     exact o_p5.out.mono (by omega) (by omega)
    ·rw [HN.out]
     exact OM.out
   ·have HN : Hid (R = (⟨id, ⟨l, h, b, s⟩, g⟩, ask ⟨id, ⟨l, h, b, s⟩, g⟩ f)) := by show _ = _; rw [← HR.out]; unfold hear1 better; simp only; rw [if_pos HK.out, HA.out, if_pos rfl, if_neg hb]
    have q2 : ∀ W v1 v2, Sl W v1 (ss l) → Sl W v2 (bs b) → _ := fun W v1 v2 h1 h2 => ask_spec W v1 v2 ⟨id, ⟨l, h, b, s⟩, g⟩ f h1 h2
    obtain ⟨N, hN⟩ : ∃ N, ask ⟨id, ⟨l, h, b, s⟩, g⟩ f = N := ⟨_, rfl⟩
    simp only [hN] at q2
    rw [hN] at HN
    clear hN
    go_wp2_with fail
    refine wp_region_held_drew (S := fun w' => (∀ j, w'.cell? ⟨gm, j, none⟩ = #[.int .i64 id, .slice ao_v l.length cap_v, .int .i64 h.n, .string h.r, .slice ao_p b.length cap_p, .int .i64 s, .int .i64 g.n, .string g.r][j]?) ∧ (∀ j, w'.cell? ⟨w.heap.size, j, none⟩ = #[.int .i64 k, .int .i64 f, .int .i64 tt, .int .i64 hq.n, .string hq.r, .int .i64 n, .slice ao3 x.length cap3][j]?)) (by kernel_rfl) ⟨c_m3, c_q3⟩ (fun hHeld => ?_)
    refine Ke.q 0 ?_; try simp only [Act.put, pq]
    refine Ke.q 1 ?_; try simp only [Act.put, pq]
    refine Ke.q 2 ?_; try simp only [Act.put, pq]
    refine Ke.q 3 ?_; try simp only [Act.put, pq]
    refine Ke.q 4 ?_; try simp only [Act.put, pq]
    refine Ke.z 5 rfl (fun K hK => ?_)
    go_simp
    refine (q2 W3.drew _ _ (Sl.later (w := W3) o_v3.out.sl (Below.drew (Below.refl _ _))) (Sl.later (w := W3) o_p3.out.sl (Below.drew (Below.refl _ _)))).mono ?_
    rintro e W4 ⟨v_o, rfl, om4, b4⟩
    have b4 : Below W3.heap.size W3 W4 := (Below.drew (Below.refl _ _)).trans b4
    obtain ⟨ao_o, L_o, cap_o, rfl, hL8, hL9⟩ := om4.form
    clear hL8 hL9
    have OM : Hid (Om W4 W3.heap.size W4.heap.size (.slice ao_o L_o cap_o) N) := om4
    clear om4
    refine hK.out _ _ ⟨(Ke.k (W := W3) hHeld.1 b4), (Ke.k (W := W3) hHeld.2 b4)⟩ (fun hHeld => ?_)
    clear hK K
    try simp only [Act.put, pq]
    have z4 := b4.size
    have B4 : Hid (Below gm w W4) := B3.out.trans (b4.mono (by have := B3.out.size; omega))
    have r_m4 := Ke.r r_m3 b4
    have r_q4 := Ke.r r_q3 b4
    have o_v4 := Ke.o o_v3 b4
    have o_p4 := Ke.o o_p3 b4
    have c_m4 := Ke.c r_m4
    have c_q4 := Ke.c r_q4
    clear r_m3 c_m3 r_q3 c_q3 o_v3 o_p3
    refine Ke.q 6 ?_; try simp only [Act.put, pq]
    refine wpAnyH_done (by kernel_rfl) ?_ _
    clear hHeld
    go_wp2
    go_ret
    refine ⟨.slice ao_v l.length cap_v, .slice ao_p b.length cap_p, _, W3.heap.size, rfl, ?_, ?_, ?_, ?_, ?_, ?_, B4.out⟩
    ·rw [HN.out]
     exact r_m4.out
    ·omega
    ·first | omega | (simp; done) | (simp; omega)
    ·rw [HN.out]
     exact o_v4.out.mono (by omega) (by omega)
    ·rw [HN.out]
     exact o_p4.out.mono (by omega) (by omega)
    ·rw [HN.out]
     exact OM.out
 ·have nk : (k == 1) = false := by simp [hk1]
  by_cases hk2 : k = 2
  ·have nk2 : (k == 2) = true := by simp [hk2]
   have HK : Hid (k = 2) := hk2
   clear hk2 q1
   have hn : 0 ≤ n ∧ n < hq.n := by
    have h1 := msg_parts HOK.out
    have h2 := h1.2.2.2.2.2
    unfold Mg.kindOk at h2
    simp only at h2
    rw [if_neg hk1, if_pos HK.out] at h2
    simp only [Bool.and_eq_true, decide_eq_true_eq] at h2
    exact ⟨h1.2.2.2.2.1.1, h2.1⟩
   have HN : Hid (R = (⟨id, ⟨l, h, b, s⟩, g⟩, answer ⟨id, ⟨l, h, b, s⟩, g⟩ ⟨k, f, tt, hq, n, x⟩)) := by show _ = _; rw [← HR.out]; unfold hear1; simp only; rw [if_neg hk1, if_pos HK.out]
   have q2 : ∀ W v1 v2 v3, Sl W v1 (ss l) → Sl W v2 (bs b) → Sl W v3 (ss x) → _ := fun W v1 v2 v3 h1 h2 h3 => answer_spec W v1 v2 v3 ⟨id, ⟨l, h, b, s⟩, g⟩ ⟨k, f, tt, hq, n, x⟩ h1 h2 h3 hl hz hn.1 hn.2
   obtain ⟨N, hN⟩ : ∃ N, answer ⟨id, ⟨l, h, b, s⟩, g⟩ ⟨k, f, tt, hq, n, x⟩ = N := ⟨_, rfl⟩
   simp only [hN] at q2
   rw [hN] at HN
   clear hN
   go_wp2_with fail
   rw [HW1.out]
   clear a_m0
   refine wp_region_held_drew (S := fun w' => (∀ j, w'.cell? ⟨gm, j, none⟩ = #[.int .i64 id, .slice ao_v l.length cap_v, .int .i64 h.n, .string h.r, .slice ao_p b.length cap_p, .int .i64 s, .int .i64 g.n, .string g.r][j]?) ∧ (∀ j, w'.cell? ⟨w.heap.size, j, none⟩ = #[.int .i64 k, .int .i64 f, .int .i64 tt, .int .i64 hq.n, .string hq.r, .int .i64 n, .slice ao3 x.length cap3][j]?)) (by kernel_rfl) ⟨c_m1, c_q1⟩ (fun hHeld => ?_)
   refine Ke.q 0 ?_; try simp only [Act.put, pq]
   refine Ke.q 1 ?_; try simp only [Act.put, pq]
   refine Ke.q 2 ?_; try simp only [Act.put, pq]
   refine Ke.q 3 ?_; try simp only [Act.put, pq]
   refine Ke.z 4 rfl (fun K hK => ?_)
   go_simp
   refine (q2 W1.drew _ _ _ (Sl.later (w := W1) o_v1.out.sl (Below.drew (Below.refl _ _))) (Sl.later (w := W1) o_p1.out.sl (Below.drew (Below.refl _ _))) (Sl.later (w := W1) (HX.out _ B1.out) (Below.drew (Below.refl _ _)))).mono ?_
   rintro e W2 ⟨v_o, rfl, om2, b2⟩
   have b2 : Below W1.heap.size W1 W2 := (Below.drew (Below.refl _ _)).trans b2
   obtain ⟨ao_o, L_o, cap_o, rfl, hL8, hL9⟩ := om2.form
   clear hL8 hL9
   have OM : Hid (Om W2 W1.heap.size W2.heap.size (.slice ao_o L_o cap_o) N) := om2
   clear om2
   refine hK.out _ _ ⟨(Ke.k (W := W1) hHeld.1 b2), (Ke.k (W := W1) hHeld.2 b2)⟩ (fun hHeld => ?_)
   clear hK K
   try simp only [Act.put, pq]
   have z2 := b2.size
   have B2 : Hid (Below gm w W2) := B1.out.trans (b2.mono (by have := B1.out.size; omega))
   have r_m2 := Ke.r r_m1 b2
   have r_q2 := Ke.r r_q1 b2
   have o_v2 := Ke.o o_v1 b2
   have o_p2 := Ke.o o_p1 b2
   have c_m2 := Ke.c r_m2
   have c_q2 := Ke.c r_q2
   clear r_m1 c_m1 r_q1 c_q1 o_v1 o_p1
   refine Ke.q 5 ?_; try simp only [Act.put, pq]
   refine wpAnyH_done (by kernel_rfl) ?_ _
   clear hHeld
   go_wp2
   go_ret
   refine ⟨.slice ao_v l.length cap_v, .slice ao_p b.length cap_p, _, W1.heap.size, rfl, ?_, ?_, ?_, ?_, ?_, ?_, B2.out⟩
   ·rw [HN.out]
    exact r_m2.out
   ·omega
   ·first | omega | (simp; done) | (simp; omega)
   ·rw [HN.out]
    exact o_v2.out.mono (by omega) (by omega)
   ·rw [HN.out]
    exact o_p2.out.mono (by omega) (by omega)
   ·rw [HN.out]
    exact OM.out
  ·have nk2 : (k == 2) = false := by simp [hk2]
   clear q1
   have q3 : ∀ W v1 v2, Below gm w W → W.heap[gm]? = some (.cells (mq id v1 h v2 s g) 32 (0, 0)) → Own W lo gm 9 v1 (ss l) → Own W lo gm 5 v2 (bs b) → _ := fun W v1 v2 hB hr h9 h5 => takes_spec W gm lo v1 v2 (.slice ao2 t.length cap2) (.slice ao3 x.length cap3) ⟨id, ⟨l, h, b, s⟩, g⟩ t ⟨k, f, tt, hq, n, x⟩ (Nat.lt_of_lt_of_le hg hB.size) hlo hr h9 h5 (fun W2 h2 => HT.out W2 (hB.trans h2)) (fun W2 h2 => HX.out W2 (hB.trans h2)) hl hbl htl hxl hz hzx htx hdr
   obtain ⟨T2, hT⟩ : ∃ T2, takes ⟨id, ⟨l, h, b, s⟩, g⟩ t ⟨k, f, tt, hq, n, x⟩ = T2 := ⟨_, rfl⟩
   have HN : Hid (R = (T2, [])) := by show _ = _; rw [← HR.out]; unfold hear1; simp only; rw [if_neg hk1, if_neg hk2, hT]
   simp only [hT] at q3
   clear hT hz hzx
   go_wp2_with fail
   rw [HW1.out]
   clear a_m0
   refine (q3 W1 _ _ B1.out r_m1.out o_v1.out o_p1.out).mono ?_
   rintro e W2 ⟨v_n, v_np, rfl, rm, on, onp, bb⟩
   obtain ⟨ao_n, L_n, cap_n, rfl, _, _⟩ := Mem.Own.form on
   obtain ⟨ao_np, L_np, cap_np, rfl, _, _⟩ := Mem.Own.form onp
   have r_m2 := Ke.h rm
   have o_n2 := Ke.h on
   have o_np2 := Ke.h onp
   have B2 := Ke.h (B1.out.trans bb)
   have z2 := bb.size
   clear rm on onp bb q3 
   clear r_m1 c_m1 o_v1 o_p1 r_q1 c_q1
   go_wp2
   go_ret
   refine ⟨.slice ao_n L_n cap_n, .slice ao_np L_np cap_np, _, W2.heap.size, rfl, ?_, ?_, ?_, ?_, ?_, ?_, B2.out.alloc (by have := B2.out.size; omega) _⟩
   ·rw [HN.out]
    exact rowKeep r_m2.out ((Below.refl _ _).alloc (Nat.le_refl _) _)
   ·first | omega | (simp; done) | (simp; omega)
   ·first | omega | (simp; done) | (simp; omega)
   ·rw [HN.out]
    exact (Own.later o_n2.out ((Below.refl _ _).alloc (Nat.le_refl _) _) (by omega)).mono (by omega) (by first | omega | (simp; done) | (simp; omega))
   ·rw [HN.out]
    exact (Own.later o_np2.out ((Below.refl _ _).alloc (Nat.le_refl _) _) (by omega)).mono (by omega) (by first | omega | (simp; done) | (simp; omega))
   ·rw [HN.out]
    exact Om.nil _ _ _ _ _
set_option maxRecDepth 1000000 in
theorem hear_spec (w : World) (v vb vt vx : Value) (m : Mr) (t : List Hd) (q : Ms) (hs : Sl w v (ss m.st.l)) (hb : Sl w vb (bs m.st.b)) (hby : Byt m.st.b) (hst : Sh w vt t) (hl : m.st.l.length ≤ 1000000000) (hbl : m.st.b.length ≤ 1000000000) (htl : t.length ≤ 1000000000) (hz : ∀ s ∈ m.st.l, s.size ≤ 10000000000) (hx : Sl w vx (ss q.x)) (hxl : q.x.length ≤ 1000000000) (hzx : ∀ s ∈ q.x, s.size ≤ 10000000000) (htx : Puts.tot q.x ≤ 100000000000) (hdr : q.h.r.size ≤ 100000000000) :
  Calls Tryz.prog 11 #[.agg #[.int .i64 m.id, v, .int .i64 m.st.h.n, .string m.st.h.r, vb, .int .i64 m.st.s, .int .i64 m.b.n, .string m.b.r], vt, .agg #[.int .i64 q.k, .int .i64 q.f, .int .i64 q.t, .int .i64 q.h.n, .string q.h.r, .int .i64 q.n, vx]] w fun e w' => ∃ v' vb' vq mid, e = .returned (.tuple #[.agg #[.int .i64 (hear m t q).1.id, v', .int .i64 (hear m t q).1.st.h.n, .string (hear m t q).1.st.h.r, vb', .int .i64 (hear m t q).1.st.s, .int .i64 (hear m t q).1.b.n, .string (hear m t q).1.b.r], vq]) ∧ w.heap.size ≤ mid ∧ mid ≤ w'.heap.size ∧ Own w' w.heap.size mid 9 v' (ss (hear m t q).1.st.l) ∧ Own w' w.heap.size mid 5 vb' (bs (hear m t q).1.st.b) ∧ Om w' mid w'.heap.size vq (hear m t q).2 ∧ Below w.heap.size w w' := by
 obtain ⟨R, hR⟩ : ∃ R, hear m t q = R := ⟨_, rfl⟩
 have HR : Hid (hear m t q = R) := hR
 rw [hR]
 obtain ⟨id, ⟨l, h, b, s⟩, g⟩ := m
 obtain ⟨k, f, tt, hq, n, x⟩ := q
 simp only at *
 have HS : Hid (Sl w v (ss l)) := hs
 have HSB : Hid (Sl w vb (bs b)) := hb
 have HBY : Hid (Byt b) := hby
 have HT : Hid (Sh w vt t) := hst
 have HX : Hid (Sl w vx (ss x)) := hx
 obtain ⟨ao0, cap0, rfl, hc0⟩ := hs.form
 obtain ⟨ao1, cap1, rfl, hc1⟩ := hb.form
 obtain ⟨ao2, cap2, rfl, hc2⟩ := hst.form
 obtain ⟨ao3, cap3, rfl, hc3⟩ := hx.form
 simp only [ss_len, bs_len] at *
 clear hs hb hby hst hx hR
 have B0 : Hid (Below w.heap.size w w) := Below.refl _ _
 obtain ⟨W1, HW1, b1, y1, hS1, r_a1, r_q1, r_res1⟩ := Ke.l3 w #[.int .i64 id, .slice ao0 l.length cap0, .int .i64 h.n, .string h.r, .slice ao1 b.length cap1, .int .i64 s, .int .i64 g.n, .string g.r] 32 #[.int .i64 k, .int .i64 f, .int .i64 tt, .int .i64 hq.n, .string hq.r, .int .i64 n, .slice ao3 x.length cap3] 35 #[.int .i64 0, .slice none 0 0, .int .i64 0, .string ⟨#[]⟩, .slice none 0 0, .int .i64 0, .int .i64 0, .string ⟨#[]⟩] 32
 have z1 := b1.size
 have B1 := Ke.b B0 b1
 have q1 : ∀ W v1 v2, Sl W v1 (ss l) → Sl W v2 (bs b) → _ := fun W v1 v2 h1 h2 => mcopy_spec W v1 v2 ⟨id, ⟨l, h, b, s⟩, g⟩ h1 h2 hl hbl
 simp only at q1
 have q2 : ∀ W v1 v2 v3, Sl W v1 (ss l) → Sl W v2 (bs b) → Sh W v3 t → _ := fun W v1 v2 v3 h1 h2 h3 => mirrorok_spec W v1 v2 v3 ⟨id, ⟨l, h, b, s⟩, g⟩ t h1 h2 HBY.out h3 hl hbl htl hz
 obtain ⟨A, hA⟩ : ∃ A, mirrorOk ⟨id, ⟨l, h, b, s⟩, g⟩ t = A := ⟨_, rfl⟩
 simp only [hA] at q2
 have q3 : ∀ W v1, Sl W v1 (ss x) → _ := fun W v1 h1 => msgok_spec W v1 ⟨k, f, tt, hq, n, x⟩ h1 (by simp only; omega)
 obtain ⟨C, hC⟩ : ∃ C, msgOk ⟨k, f, tt, hq, n, x⟩ = C := ⟨_, rfl⟩
 simp only [hC] at q3
 have HA : Hid (mirrorOk ⟨id, ⟨l, h, b, s⟩, g⟩ t = A) := hA
 have HC : Hid (msgOk ⟨k, f, tt, hq, n, x⟩ = C) := hC
 clear hA hC
 go_enter Tryz.func11, Tryz.ntmps11
 go_wp2_with fail
 rw [HW1.out]
 refine (q1 W1 _ _ (HS.out.later B1.out) (HSB.out.later B1.out)).mono ?_
 rintro e W2 ⟨v_s, v_p, rfl, o_s2, o_p2, b2⟩
 obtain ⟨lo_s, hi_s, lo_p, hi_p, d1_s, d2_s, d3_s, d4_s, d5_s, d6_s, d7_s, oo_s, oo_p⟩ := Sr.pairN o_s2 o_p2 b2.size
 clear o_s2 o_p2
 obtain ⟨ao_s, L_s, cap_s, rfl, _, _⟩ := oo_s.form
 obtain ⟨ao_p, L_p, cap_p, rfl, _, _⟩ := oo_p.form
 have o_s2 : Hid (Own W2 lo_s hi_s 9 (.slice ao_s L_s cap_s) (ss l)) := oo_s
 have o_p2 : Hid (Own W2 lo_p hi_p 5 (.slice ao_p L_p cap_p) (bs b)) := oo_p
 clear oo_s oo_p
 have z2 := b2.size
 have B2 := Ke.b B1 b2
 have r_a2 := Ke.r r_a1 b2
 have r_q2 := Ke.r r_q1 b2
 have r_res2 := Ke.r r_res1 b2
 clear r_a1 r_q1 r_res1
 have a_a2 := Ke.a r_a2
 obtain ⟨W3, HW3, b3, y3, hS3, r_out3⟩ := Ke.l1 W2 #[.int .i64 id, .slice ao_s L_s cap_s, .int .i64 h.n, .string h.r, .slice ao_p L_p cap_p, .int .i64 s, .int .i64 g.n, .string g.r] 32
 have z3 := b3.size
 have B3 := Ke.b B2 b3
 have r_a3 := Ke.r r_a2 b3
 have r_q3 := Ke.r r_q2 b3
 have r_res3 := Ke.r r_res2 b3
 have o_s3 := Ke.o o_s2 b3
 have o_p3 := Ke.o o_p2 b3
 clear r_a2 r_q2 r_res2 o_s2 o_p2
 go_wp2_with fail
 rw [HW3.out]
 clear a_a2
 refine (q2 W3 _ _ _ (HS.out.later B3.out) (HSB.out.later B3.out) (HT.out.later B3.out)).mono ?_
 rintro e W4 ⟨rfl, b4⟩
 have z4 := b4.size
 have B4 := Ke.b B3 b4
 have r_a4 := Ke.r r_a3 b4
 have r_q4 := Ke.r r_q3 b4
 have r_res4 := Ke.r r_res3 b4
 have r_out4 := Ke.r r_out3 b4
 have o_s4 := Ke.o o_s3 b4
 have o_p4 := Ke.o o_p3 b4
 have c_q4 := Ke.c r_q4
 clear r_a3 r_q3 r_res3 r_out3 o_s3 o_p3
 cases A
 ·have HN : Hid (R = (⟨id, ⟨l, h, b, s⟩, g⟩, [])) := by show _ = _; rw [← HR.out]; unfold hear; rw [if_neg (fun q => by rw [HA.out] at q; cases q.1)]
  have rk := r_out4
  obtain ⟨W5, HW5, b5, y5, hS5, r_emp5⟩ := Ke.l1 W4 #[] 35
  have z5 := b5.size
  have B5 := Ke.b B4 b5
  have r_a5 := Ke.r r_a4 b5
  have r_q5 := Ke.r r_q4 b5
  have r_res5 := Ke.r r_res4 b5
  have r_out5 := Ke.r r_out4 b5
  have o_s5 := Ke.o o_s4 b5
  have o_p5 := Ke.o o_p4 b5
  have c_a5 := Ke.c r_a5
  have c_q5 := Ke.c r_q5
  clear r_a4 r_q4 c_q4 r_res4 r_out4 o_s4 o_p4
  go_wp2_with (first | (refine wpList_load_row rfl 32 _ rfl (W2.heap.size) rfl 32 (mq id (.slice ao_s L_s cap_s) h (.slice ao_p L_p cap_p) s g) (0, 0) _ rk.out Tryz.underlying32 rfl (sizeQ _ _ _ _ _ _) ?_) | ((try rw [HW5.out]); refine wpList_store_row rfl 32 _ _ rfl (w.heap.size + 1 + 1) (mq id (.slice ao_s L_s cap_s) h (.slice ao_p L_p cap_p) s g) rfl rfl 32 _ r_res5.out (sizeQ _ _ _ _ _ _) rfl (oneQ _ _ _ _ rfl rfl) ?_))
  refine bodyPost_ret (res_row_tmp rfl _ _ (w.heap.size + 1 + 1) 32 (mq id (.slice ao_s L_s cap_s) h (.slice ao_p L_p cap_p) s g) (0, 0) _ rfl (setRow_heap _ _ _ _ _ (0, 0) r_res5.out) Tryz.underlying32 rfl (sizeQ _ _ _ _ _ _)) rfl ⟨.slice ao_s L_s cap_s, .slice ao_p L_p cap_p, _, W4.heap.size, by rw [HN.out]; rfl, ?_, ?_, ?_, ?_, ?_, below_setRow B5.out (by omega) _⟩
  ·omega
  ·rw [size_setRow]; omega
  ·rw [HN.out]
   exact (Own.setRow o_s5.out _ (by omega)).mono (by omega) (by omega)
  ·rw [HN.out]
   exact (Own.setRow o_p5.out _ (by omega)).mono (by omega) (by omega)
  ·rw [HN.out]
   exact Om.nil _ _ _ _ _
 ·go_wp2_with fail
  refine (q3 W4 _ (HX.out.later B4.out)).mono ?_
  rintro e W5 ⟨rfl, b5⟩
  have z5 := b5.size
  have B5 := Ke.b B4 b5
  have r_a5 := Ke.r r_a4 b5
  have r_q5 := Ke.r r_q4 b5
  have r_res5 := Ke.r r_res4 b5
  have r_out5 := Ke.r r_out4 b5
  have o_s5 := Ke.o o_s4 b5
  have o_p5 := Ke.o o_p4 b5
  have c_a5 := Ke.c r_a5
  have c_q5 := Ke.c r_q5
  clear r_a4 r_q4 c_q4 r_res4 r_out4 o_s4 o_p4
  cases C
  ·have HN : Hid (R = (⟨id, ⟨l, h, b, s⟩, g⟩, [])) := by show _ = _; rw [← HR.out]; unfold hear; rw [if_neg (fun q => by rw [HC.out] at q; cases q.2.1)]
   have rk := r_out5
   obtain ⟨W6, HW6, b6, y6, hS6, r_emp6⟩ := Ke.l1 W5 #[] 35
   have z6 := b6.size
   have B6 := Ke.b B5 b6
   have r_res6 := Ke.r r_res5 b6
   have r_out6 := Ke.r r_out5 b6
   have o_s6 := Ke.o o_s5 b6
   have o_p6 := Ke.o o_p5 b6
   clear r_a5 c_a5 r_q5 c_q5 r_res5 r_out5 o_s5 o_p5
   go_wp2_with (first | (refine wpList_load_row rfl 32 _ rfl (W2.heap.size) rfl 32 (mq id (.slice ao_s L_s cap_s) h (.slice ao_p L_p cap_p) s g) (0, 0) _ rk.out Tryz.underlying32 rfl (sizeQ _ _ _ _ _ _) ?_) | ((try rw [HW6.out]); refine wpList_store_row rfl 32 _ _ rfl (w.heap.size + 1 + 1) (mq id (.slice ao_s L_s cap_s) h (.slice ao_p L_p cap_p) s g) rfl rfl 32 _ r_res6.out (sizeQ _ _ _ _ _ _) rfl (oneQ _ _ _ _ rfl rfl) ?_))
   refine bodyPost_ret (res_row_tmp rfl _ _ (w.heap.size + 1 + 1) 32 (mq id (.slice ao_s L_s cap_s) h (.slice ao_p L_p cap_p) s g) (0, 0) _ rfl (setRow_heap _ _ _ _ _ (0, 0) r_res6.out) Tryz.underlying32 rfl (sizeQ _ _ _ _ _ _)) rfl ⟨.slice ao_s L_s cap_s, .slice ao_p L_p cap_p, _, W5.heap.size, by rw [HN.out]; rfl, ?_, ?_, ?_, ?_, ?_, below_setRow B6.out (by omega) _⟩
   ·omega
   ·rw [size_setRow]; omega
   ·rw [HN.out]
    exact (Own.setRow o_s6.out _ (by omega)).mono (by omega) (by omega)
   ·rw [HN.out]
    exact (Own.setRow o_p6.out _ (by omega)).mono (by omega) (by omega)
   ·rw [HN.out]
    exact Om.nil _ _ _ _ _
  ·by_cases hti : tt = id
   ·have nt : (tt != id) = false := by simp [hti]
    have HN0 : Hid (R = hear1 ⟨id, ⟨l, h, b, s⟩, g⟩ t ⟨k, f, tt, hq, n, x⟩) := by show _ = _; rw [← HR.out]; unfold hear; rw [if_pos ⟨HA.out, HC.out, hti⟩]
    clear hti
    have q5 : ∀ v1 v2, W5.heap[W2.heap.size]? = some (.cells (mq id v1 h v2 s g) 32 (0, 0)) → Own W5 W1.heap.size (W2.heap.size) 9 v1 (ss l) → Own W5 W1.heap.size (W2.heap.size) 5 v2 (bs b) → _ := fun v1 v2 hr h9 h5 => hear1_spec W5 (W2.heap.size) W1.heap.size v1 v2 (.slice ao2 t.length cap2) (.slice ao3 x.length cap3) ⟨id, ⟨l, h, b, s⟩, g⟩ t ⟨k, f, tt, hq, n, x⟩ (by omega) (by omega) hr h9 h5 (fun W2 h2 => Sh.later HT.out (B5.out.trans (h2.mono (by omega)))) (fun W2 h2 => Sl.later HX.out (B5.out.trans (h2.mono (by omega)))) hl hbl htl hxl hz hzx htx hdr HC.out
    obtain ⟨⟨i2, ⟨Lx, Hx, Bx, Sx⟩, Gx⟩, Nx, hH⟩ : ∃ a9 b9, hear1 ⟨id, ⟨l, h, b, s⟩, g⟩ t ⟨k, f, tt, hq, n, x⟩ = (a9, b9) := ⟨_, _, rfl⟩
    simp only [hH] at q5
    have HN : Hid (R = (⟨i2, ⟨Lx, Hx, Bx, Sx⟩, Gx⟩, Nx)) := HN0.out.trans hH
    clear hH HN0 hz hzx
    go_wp2_with fail
    refine (q5 _ _ r_out5.out (o_s5.out.mono (by omega) (by omega)) (o_p5.out.mono (by omega) (by omega))).mono ?_
    rintro e W6 ⟨v_n, v_np, v_o, mid, rfl, rm, dm1, dm2, on, onp, om, bb⟩
    obtain ⟨ao_n, L_n, cap_n, rfl, _, _⟩ := Mem.Own.form on
    obtain ⟨ao_np, L_np, cap_np, rfl, _, _⟩ := Mem.Own.form onp
    obtain ⟨ao_o, L_o, cap_o, rfl, hL8, hL9⟩ := om.form
    clear hL8 hL9 q5
    have B6 := Ke.h (B5.out.trans (bb.mono (show w.heap.size ≤ W2.heap.size by omega)))
    have z6 := bb.size
    have r_res6 := Ke.h ((bb.block (w.heap.size + 1 + 1) (by omega)).trans r_res5.out)
    have r_out6 := Ke.h rm
    have o_n6 := Ke.h on
    have o_np6 := Ke.h onp
    have OM := Ke.h om
    clear rm on onp om bb
    clear r_a5 c_a5
    clear r_q5 c_q5
    clear o_s5
    clear o_p5
    clear r_res5 r_out5
    go_wp2_with (first | (refine wpList_load_row rfl 32 _ rfl (W2.heap.size) rfl 32 (mq i2 (.slice ao_n L_n cap_n) Hx (.slice ao_np L_np cap_np) Sx Gx) (0, 0) _ r_out6.out Tryz.underlying32 rfl (sizeQ _ _ _ _ _ _) ?_) | (refine wpList_store_row rfl 32 _ _ rfl (w.heap.size + 1 + 1) (mq i2 (.slice ao_n L_n cap_n) Hx (.slice ao_np L_np cap_np) Sx Gx) rfl rfl 32 _ r_res6.out (sizeQ _ _ _ _ _ _) rfl (oneQ _ _ _ _ rfl rfl) ?_))
    refine bodyPost_ret (res_row_tmp rfl _ _ (w.heap.size + 1 + 1) 32 (mq i2 (.slice ao_n L_n cap_n) Hx (.slice ao_np L_np cap_np) Sx Gx) (0, 0) _ rfl (setRow_heap _ _ _ _ _ (0, 0) r_res6.out) Tryz.underlying32 rfl (sizeQ _ _ _ _ _ _)) rfl ⟨.slice ao_n L_n cap_n, .slice ao_np L_np cap_np, _, mid, by rw [HN.out]; rfl, ?_, ?_, ?_, ?_, ?_, below_setRow B6.out (by omega) _⟩
    ·omega
    ·rw [size_setRow]; omega
    ·rw [HN.out]
     exact (Own.setRow o_n6.out _ (by omega)).mono (by omega) (by omega)
    ·rw [HN.out]
     exact (Own.setRow o_np6.out _ (by omega)).mono (by omega) (by omega)
    ·rw [HN.out]
     exact (OM.out.setRow _ (by omega)).mono (Nat.le_refl _) (by rw [size_setRow]; omega) (Nat.le_refl _)
   ·have nt : (tt != id) = true := by simp [hti]
    have ck2 := (c_q5 2)
    have ck0 := (c_a5 0)
    have HN : Hid (R = (⟨id, ⟨l, h, b, s⟩, g⟩, [])) := by show _ = _; rw [← HR.out]; unfold hear; rw [if_neg (fun q => hti q.2.2)]
    have rk := r_out5
    obtain ⟨W6, HW6, b6, y6, hS6, r_emp6⟩ := Ke.l1 W5 #[] 35
    have z6 := b6.size
    have B6 := Ke.b B5 b6
    have r_res6 := Ke.r r_res5 b6
    have r_out6 := Ke.r r_out5 b6
    have o_s6 := Ke.o o_s5 b6
    have o_p6 := Ke.o o_p5 b6
    clear r_a5 c_a5 r_q5 c_q5 r_res5 r_out5 o_s5 o_p5
    go_wp2_with (first | (refine wpList_load_row rfl 32 _ rfl (W2.heap.size) rfl 32 (mq id (.slice ao_s L_s cap_s) h (.slice ao_p L_p cap_p) s g) (0, 0) _ rk.out Tryz.underlying32 rfl (sizeQ _ _ _ _ _ _) ?_) | ((try rw [HW6.out]); refine wpList_store_row rfl 32 _ _ rfl (w.heap.size + 1 + 1) (mq id (.slice ao_s L_s cap_s) h (.slice ao_p L_p cap_p) s g) rfl rfl 32 _ r_res6.out (sizeQ _ _ _ _ _ _) rfl (oneQ _ _ _ _ rfl rfl) ?_))
    refine bodyPost_ret (res_row_tmp rfl _ _ (w.heap.size + 1 + 1) 32 (mq id (.slice ao_s L_s cap_s) h (.slice ao_p L_p cap_p) s g) (0, 0) _ rfl (setRow_heap _ _ _ _ _ (0, 0) r_res6.out) Tryz.underlying32 rfl (sizeQ _ _ _ _ _ _)) rfl ⟨.slice ao_s L_s cap_s, .slice ao_p L_p cap_p, _, W5.heap.size, by rw [HN.out]; rfl, ?_, ?_, ?_, ?_, ?_, below_setRow B6.out (by omega) _⟩
    ·omega
    ·rw [size_setRow]; omega
    ·rw [HN.out]
     exact (Own.setRow o_s6.out _ (by omega)).mono (by omega) (by omega)
    ·rw [HN.out]
     exact (Own.setRow o_p6.out _ (by omega)).mono (by omega) (by omega)
    ·rw [HN.out]
     exact Om.nil _ _ _ _ _
end Go.Proofs.YtchonoonclllbaaGreatDoor.Mi
