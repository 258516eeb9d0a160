/- Texts in one: Mi7. -/
import Derived.Test.YtchonoonclllbaaGreatDoorPh22
set_option maxHeartbeats 16000000
set_option linter.unusedVariables false
set_option linter.unusedSimpArgs false
namespace Go.Proofs.YtchonoonclllbaaGreatDoor.Mi
open Go.RowKit Mem Laws Bytes Sha Tr He Lg Sr Mg
set_option maxRecDepth 1000000 in
theorem takes_spec (w : World) (gm lo : Nat) (v vb vt vx : Value) (m : Mr) (t : List Hd) (q : Ms) (hg : gm < w.heap.size) (hlo : lo ≤ gm) (hr : w.heap[gm]? = some (.cells (mq m.id v m.st.h vb m.st.s m.b) 32 (0, 0))) (h9 : Own w lo gm 9 v (ss m.st.l)) (h5 : Own w lo gm 5 vb (bs m.st.b)) (hst : ∀ W, Below gm w W → Sh W vt t) (hx : ∀ W, Below gm w W → Sl W vx (ss q.x)) (hl : m.st.l.length ≤ 1000000000) (hbl : m.st.b.length ≤ 1000000000) (htl : t.length ≤ 1000000000) (hxl : q.x.length ≤ 1000000000) (hz : ∀ s ∈ m.st.l, s.size ≤ 10000000000) (hzx : ∀ s ∈ q.x, s.size ≤ 10000000000) (htx : Puts.tot q.x ≤ 100000000000) (hdr : q.h.r.size ≤ 100000000000) :
  Calls Tryz.prog 93 #[.pointer (some ⟨gm, 0, none⟩), vt, .agg #[.int .i64 q.k, .int .i64 q.f, .int .i64 q.t, .int .i64 q.h.n, .string q.h.r, .int .i64 q.n, vx]] w fun e w' => ∃ v' vb', e = .returned (.tuple #[]) ∧ w'.heap[gm]? = some (.cells (mq (takes m t q).id v' (takes m t q).st.h vb' (takes m t q).st.s (takes m t q).b) 32 (0, 0)) ∧ Own w' lo w'.heap.size 9 v' (ss (takes m t q).st.l) ∧ Own w' lo w'.heap.size 5 vb' (bs (takes m t q).st.b) ∧ Below gm w w' := by
 obtain ⟨R, hR⟩ : ∃ R, takes m t q = R := ⟨_, rfl⟩
 have HR : Hid (takes m t q = R) := hR
 rw [hR]
 obtain ⟨id, ⟨l, h, b, s⟩, g⟩ := m
 obtain ⟨k, f, tt, hq, n, x⟩ := q
 simp only at *
 have HT : Hid (∀ W, Below gm w W → Sh W vt t) := hst
 have HX : Hid (∀ W, Below gm w W → Sl W vx (ss x)) := hx
 obtain ⟨ao2, cap2, rfl, hc2⟩ := (hst w (Below.refl _ _)).form
 obtain ⟨ao3, cap3, rfl, hc3⟩ := (hx w (Below.refl _ _)).form
 obtain ⟨ao_v, L_v, cap_v, rfl, hv1, hv2⟩ := Mem.Own.form h9
 obtain ⟨ao_p, L_p, cap_p, rfl, hp1, hp2⟩ := Mem.Own.form h5
 simp only [ss_len, bs_len] at *
 obtain rfl : L_v = l.length := by omega
 obtain rfl : L_p = b.length := by omega
 have B0 : Hid (Below gm w w) := Below.refl _ _
 have r_m0 : Hid (w.heap[gm]? = some (.cells #[.int .i64 id, .slice ao_v l.length cap_v, .int .i64 h.n, .string h.r, .slice ao_p b.length cap_p, .int .i64 s, .int .i64 g.n, .string g.r] 32 (0, 0))) := hr
 have o_v0 : Hid (Own w lo gm 9 (.slice ao_v l.length cap_v) (ss l)) := h9
 have o_p0 : Hid (Own w lo gm 5 (.slice ao_p b.length cap_p) (bs b)) := h5
 clear hst hx hR hr h9 h5 hv1 hv2 hp1 hp2
 have c_m0 := Ke.c r_m0
 have a_m0 := Ke.a r_m0
 obtain ⟨W1, HW1, b1, y1, hS1, r_q1⟩ := Ke.l1 w #[.int .i64 k, .int .i64 f, .int .i64 tt, .int .i64 hq.n, .string hq.r, .int .i64 n, .slice ao3 x.length cap3] 35
 have z1 := b1.size
 have B1 : Hid (Below gm w W1) := B0.out.trans (b1.mono (by have := B0.out.size; omega))
 have r_m1 := Ke.r r_m0 b1
 have o_v1 := Ke.o o_v0 b1
 have o_p1 := Ke.o o_p0 b1
 have c_m1 := Ke.c r_m1
 have c_q1 := Ke.c r_q1
 clear r_m0 c_m0 o_v0 o_p0
 have q1 : ∀ W v1, Sl W v1 (ss x) → _ := fun W v1 h1 => put_spec W hq v1 x h1 hxl htx hdr
 obtain ⟨P, hP⟩ : ∃ P, put hq x = P := ⟨_, rfl⟩
 simp only [hP] at q1
 have hPl : P.length ≤ 1000000000000 := by
  rw [← hP]
  have h1 := put_len hq x
  have h2 := body_len hq x
  omega
 have q2 : ∀ W v1 v2 v3 v4, Sl W v1 (ss l) → Sl W v2 (bs b) → Sh W v3 t → Sl W v4 (ss x) → _ := fun W v1 v2 v3 v4 h1 h2 h3 h4 => commit1_spec W v1 v2 v3 v4 ⟨l, h, b, s⟩ t hq x h1 h2 h3 h4 hl hbl htl hxl hz hzx htx hdr
 obtain ⟨Lx, Hx, Bx, Sx, c, hC⟩ : ∃ L H B S c, commit1 ⟨l, h, b, s⟩ t hq x = (⟨L, H, B, S⟩, c) := ⟨_, _, _, _, _, rfl⟩
 simp only [hC] at q2
 have HD : Hid (R = if n = (l.length : Int) ∧ b.length + P.length ≤ 60000 ∧ c = 0 then better ⟨id, ⟨Lx, Hx, Bx, Sx⟩, g⟩ hq else ⟨id, ⟨l, h, b, s⟩, g⟩) := by show _ = _; rw [← HR.out]; unfold takes; simp only; rw [hP, hC]
 clear HR hP hC hz hzx
 go_enter Tryz.func93, Tryz.ntmps93
 by_cases hnl : n = (l.length : Int)
 ·have nq : (n != (l.length : Int)) = false := by simp [hnl]
  have HNL : Hid (n = (l.length : Int)) := hnl
  clear hnl
  go_wp2_with fail
  rw [HW1.out]
  clear a_m0
  refine wp_region_held_drew (S := fun w' => (∀ j, w'.cell? ⟨gm, j, none⟩ = #[.int .i64 id, .slice ao_v l.length cap_v, .int .i64 h.n, .string h.r, .slice ao_p b.length cap_p, .int .i64 s, .int .i64 g.n, .string g.r][j]?) ∧ (∀ j, w'.cell? ⟨w.heap.size, j, none⟩ = #[.int .i64 k, .int .i64 f, .int .i64 tt, .int .i64 hq.n, .string hq.r, .int .i64 n, .slice ao3 x.length cap3][j]?)) (by kernel_rfl) ⟨c_m1, c_q1⟩ (fun hHeld => ?_)
  refine Ke.q 0 ?_; try simp only [Act.put, pq]
  refine Ke.q 1 ?_; try simp only [Act.put, pq]
  refine Ke.q 2 ?_; try simp only [Act.put, pq]
  refine Ke.q 3 ?_; try simp only [Act.put, pq]
  refine Ke.q 4 ?_; try simp only [Act.put, pq]
  refine Ke.q 5 ?_; try simp only [Act.put, pq]
  refine Ke.q 6 ?_; try simp only [Act.put, pq]
  refine Ke.q 7 ?_; try simp only [Act.put, pq]
  refine Ke.q 8 ?_; try simp only [Act.put, pq]
  refine Ke.q 9 ?_; try simp only [Act.put, pq]
  refine Ke.q 10 ?_; try simp only [Act.put, pq]
  refine Ke.q 11 ?_; try simp only [Act.put, pq]
  refine Ke.q 12 ?_; try simp only [Act.put, pq]
  refine Ke.q 13 ?_; try simp only [Act.put, pq]
  refine Ke.q 14 ?_; try simp only [Act.put, pq]
  refine Ke.q 15 ?_; try simp only [Act.put, pq]
  refine Ke.q 16 ?_; try simp only [Act.put, pq]
  refine Ke.q 17 ?_; try simp only [Act.put, pq]
  refine Ke.q 18 ?_; try simp only [Act.put, pq]
  refine Ke.q 19 ?_; try simp only [Act.put, pq]
  refine Ke.q 20 ?_; try simp only [Act.put, pq]
  refine Ke.z 21 rfl (fun K hK => ?_)
  go_simp
  refine (q1 W1.drew _ (Sl.later (w := W1) (HX.out _ B1.out) (Below.drew (Below.refl _ _)))).mono ?_
  rintro e W2 ⟨v_u, rfl, o_u2, b2⟩
  have b2 : Below W1.heap.size W1 W2 := (Below.drew (Below.refl _ _)).trans b2
  refine hK.out _ _ ⟨(Ke.k (W := W1) hHeld.1 b2), (Ke.k (W := W1) hHeld.2 b2)⟩ (fun hHeld => ?_)
  clear hK K
  try simp only [Act.put, pq]
  have o_u2 : Own W2 W1.heap.size W2.heap.size 5 _ _ := o_u2
  obtain ⟨ao_u, L_u, cap_u, rfl, hL_u, hM_u⟩ := o_u2.form
  have o_u2 : Hid (Own W2 W1.heap.size W2.heap.size 5 (.slice ao_u L_u cap_u) (bs P)) := o_u2
  clear hL_u hM_u
  have z2 := b2.size
  have B2 : Hid (Below gm w W2) := B1.out.trans (b2.mono (by have := B1.out.size; omega))
  have r_m2 := Ke.r r_m1 b2
  have r_q2 := Ke.r r_q1 b2
  have o_v2 := Ke.o o_v1 b2
  have o_p2 := Ke.o o_p1 b2
  have c_m2 := Ke.c r_m2
  have c_q2 := Ke.c r_q2
  clear r_m1 c_m1 r_q1 c_q1 o_v1 o_p1
  obtain rfl : L_u = P.length := by obtain ⟨a9, L9, c9, he, h1, h2⟩ := Mem.Own.form o_u2.out; injection he with _ he2 _; rw [bs_len] at h1 h2; omega
  have wr : IntKind.i64.wrap ((b.length : Int) + (P.length : Int)) = (b.length : Int) + (P.length : Int) := by rw [IntKind.wrap_i64]; omega
  by_cases h6 : b.length + P.length ≤ 60000
  ·have d6 : ¬ (60000 : Int) < (b.length : Int) + (P.length : Int) := by omega
   refine Ke.q 22 ?_; try simp only [Act.put, pq]
   refine Ke.q 23 ?_; try simp only [Act.put, pq]
   refine Ke.q 24 ?_; try simp only [Act.put, pq]
   refine Ke.q 25 ?_; try simp only [Act.put, pq]
   refine wpAnyH_done (by kernel_rfl) ?_ _
   clear hHeld
   clear o_u2
   clear q1 wr d6
   go_wp2_with fail
   refine wp_region_held_drew (S := fun w' => (∀ j, w'.cell? ⟨gm, j, none⟩ = #[.int .i64 id, .slice ao_v l.length cap_v, .int .i64 h.n, .string h.r, .slice ao_p b.length cap_p, .int .i64 s, .int .i64 g.n, .string g.r][j]?) ∧ (∀ j, w'.cell? ⟨w.heap.size, j, none⟩ = #[.int .i64 k, .int .i64 f, .int .i64 tt, .int .i64 hq.n, .string hq.r, .int .i64 n, .slice ao3 x.length cap3][j]?)) (by kernel_rfl) ⟨c_m2, c_q2⟩ (fun hHeld => ?_)
   refine Ke.q 0 ?_; try simp only [Act.put, pq]
   refine Ke.q 1 ?_; try simp only [Act.put, pq]
   refine Ke.q 2 ?_; try simp only [Act.put, pq]
   refine Ke.q 3 ?_; try simp only [Act.put, pq]
   refine Ke.q 4 ?_; try simp only [Act.put, pq]
   refine Ke.q 5 ?_; try simp only [Act.put, pq]
   refine Ke.q 6 ?_; try simp only [Act.put, pq]
   refine Ke.q 7 ?_; try simp only [Act.put, pq]
   refine Ke.q 8 ?_; try simp only [Act.put, pq]
   have D2 : Hid (Below W2.heap.size W2 W2) := Below.refl _ _
   refine wpAnyH_ready (rs := [9, 13]) (by kernel_rfl) (by simp) ?_
   refine AllReadyH.cons rfl (fun K hK => ?_) (AllReadyH.cons rfl (fun K hK => ?_) AllReadyH.nil)
   ·go_simp
    refine (q2 W2.drew _ _ _ _ (Sl.later (w := W2) (Own.sl o_v2.out) (Below.drew (Below.refl _ _))) (Sl.later (w := W2) (Own.sl o_p2.out) (Below.drew (Below.refl _ _))) (Sh.later (w := W2) (HT.out _ B2.out) (Below.drew (Below.refl _ _))) (Sl.later (w := W2) (HX.out _ B2.out) (Below.drew (Below.refl _ _)))).mono ?_
    rintro e W3 ⟨v_n, v_np, rfl, o_n3, o_np3, b3⟩
    have b3 : Below W2.heap.size W2 W3 := (Below.drew (Below.refl _ _)).trans b3
    have o_n3 : Own W3 W2.heap.size W3.heap.size 9 _ _ := o_n3
    have o_np3 : Own W3 W2.heap.size W3.heap.size 5 _ _ := o_np3
    refine hK.out _ _ ⟨(Ke.k (W := W2) hHeld.1 b3), (Ke.k (W := W2) hHeld.2 b3)⟩ (fun hHeld => ?_)
    clear hK K
    try simp only [Act.put, pq]
    obtain ⟨lo_n, hi_n, lo_np, hi_np, d1_n, d2_n, d3_n, d4_n, d5_n, d6_n, d7_n, oo_n, oo_np⟩ := Sr.pairN o_n3 o_np3 b3.size
    clear o_n3 o_np3
    obtain ⟨ao_n, L_n, cap_n, rfl, _, _⟩ := oo_n.form
    obtain ⟨ao_np, L_np, cap_np, rfl, _, _⟩ := oo_np.form
    have o_n3 : Hid (Own W3 lo_n hi_n 9 (.slice ao_n L_n cap_n) (ss Lx)) := oo_n
    have o_np3 : Hid (Own W3 lo_np hi_np 5 (.slice ao_np L_np cap_np) (bs Bx)) := oo_np
    clear oo_n oo_np
    have z3 := b3.size
    have B3 : Hid (Below gm w W3) := B2.out.trans (b3.mono (by have := B2.out.size; omega))
    have r_m3 := Ke.r r_m2 b3
    have r_q3 := Ke.r r_q2 b3
    have o_v3 := Ke.o o_v2 b3
    have o_p3 := Ke.o o_p2 b3
    have c_m3 := Ke.c r_m3
    have c_q3 := Ke.c r_q3
    clear r_m2 c_m2 r_q2 c_q2 o_v2 o_p2
    have D3 := Ke.b D2 b3
    refine Ke.q 10 ?_; try simp only [Act.put, pq]
    refine Ke.q 11 ?_; try simp only [Act.put, pq]
    refine Ke.q 12 ?_; try simp only [Act.put, pq]
    refine Ke.z 13 rfl (fun K hK => ?_)
    go_simp
    refine hK.out _ _ ⟨(Ke.k (W := W3) hHeld.1 ((Below.refl _ _).alloc (Nat.le_refl _) _)), (Ke.k (W := W3) hHeld.2 ((Below.refl _ _).alloc (Nat.le_refl _) _))⟩ (fun hHeld => ?_)
    clear hK K
    try simp only [Act.put, pq]
    obtain ⟨W4, HW4, b4, y4, r_st4⟩ : ∃ X, Hid ((W3.alloc (.cells #[.slice none 0 0, .int .i64 0, .string ⟨#[]⟩, .slice none 0 0, .int .i64 0] 30)) = X) ∧ Below W3.heap.size W3 X ∧ W3.heap.size + 1 ≤ X.heap.size ∧ Hid (X.heap[W3.heap.size]? = some (.cells #[.slice none 0 0, .int .i64 0, .string ⟨#[]⟩, .slice none 0 0, .int .i64 0] 30 (0, 0))) := ⟨_, rfl, ((Below.refl _ _).alloc (Nat.le_refl _) _), (by show _ ≤ (W3.heap.push _).size; simp), heap_alloc_new W3 _⟩
    have HHW4 := HW4.out
    rw [HHW4] at hHeld ⊢
    clear HHW4
    have z4 := b4.size
    have B4 : Hid (Below gm w W4) := B3.out.trans (b4.mono (by have := B3.out.size; omega))
    have r_m4 := Ke.r r_m3 b4
    have r_q4 := Ke.r r_q3 b4
    have o_v4 := Ke.o o_v3 b4
    have o_p4 := Ke.o o_p3 b4
    have o_n4 := Ke.o o_n3 b4
    have o_np4 := Ke.o o_np3 b4
    have c_m4 := Ke.c r_m4
    have c_q4 := Ke.c r_q4
    have c_st4 := Ke.c r_st4
    clear r_m3 c_m3 r_q3 c_q3 o_v3 o_p3 o_n3 o_np3
    have D4 := Ke.b D3 b4
    refine Ke.z 14 rfl (fun K hK => ?_)
    rw [if_pos (by rfl)]
    refine wp_store_row 30 _ _ rfl (W3.heap.size) (sc (.slice ao_n L_n cap_n) Hx (.slice ao_np L_np cap_np) Sx) rfl rfl 30 _ r_st4.out (sizeS _ _ _ _) rfl (oneS _ _ rfl rfl) ?_
    refine hK.out _ _ ⟨(Ke.w (by show gm ≠ W3.heap.size; omega) hHeld.1), (Ke.w (by show w.heap.size ≠ W3.heap.size; omega) hHeld.2)⟩ (fun hHeld => ?_)
    clear hK K
    try simp only [Act.put, pq]
    have D5a : Below W2.heap.size W2 (W4.setRow (W3.heap.size) (sc (.slice ao_n L_n cap_n) Hx (.slice ao_np L_np cap_np) Sx)) := below_setRow D4.out (by omega) _
    obtain ⟨W5, HW5⟩ : ∃ X, Hid (W4.setRow (W3.heap.size) (sc (.slice ao_n L_n cap_n) Hx (.slice ao_np L_np cap_np) Sx) = X) := ⟨_, rfl⟩
    have z5 : W4.heap.size ≤ W5.heap.size := by rw [← HW5.out]; simp
    have B5 : Hid (Below gm w W5) := by show Below _ _ _; rw [← HW5.out]; exact below_setRow B4.out (by have := B4.out.size; omega) _
    have r_m5 : Hid (W5.heap[gm]? = some (.cells #[.int .i64 id, .slice ao_v l.length cap_v, .int .i64 h.n, .string h.r, .slice ao_p b.length cap_p, .int .i64 s, .int .i64 g.n, .string g.r] 32 (0, 0))) := by show _ = _; rw [← HW5.out]; exact (setRow_other _ _ _ _ (by omega)).trans r_m4.out
    have r_q5 : Hid (W5.heap[w.heap.size]? = some (.cells #[.int .i64 k, .int .i64 f, .int .i64 tt, .int .i64 hq.n, .string hq.r, .int .i64 n, .slice ao3 x.length cap3] 35 (0, 0))) := by show _ = _; rw [← HW5.out]; exact (setRow_other _ _ _ _ (by omega)).trans r_q4.out
    have o_v5 : Hid (Own W5 (lo) (gm) 9 (.slice ao_v l.length cap_v) (ss l)) := by show Own _ _ _ _ _ _; rw [← HW5.out]; exact Own.setRow o_v4.out _ (by omega)
    have o_p5 : Hid (Own W5 (lo) (gm) 5 (.slice ao_p b.length cap_p) (bs b)) := by show Own _ _ _ _ _ _; rw [← HW5.out]; exact Own.setRow o_p4.out _ (by omega)
    have o_n5 : Hid (Own W5 (lo_n) (hi_n) 9 (.slice ao_n L_n cap_n) (ss Lx)) := by show Own _ _ _ _ _ _; rw [← HW5.out]; exact Own.setRow o_n4.out _ (by omega)
    have o_np5 : Hid (Own W5 (lo_np) (hi_np) 5 (.slice ao_np L_np cap_np) (bs Bx)) := by show Own _ _ _ _ _ _; rw [← HW5.out]; exact Own.setRow o_np4.out _ (by omega)
    have r_st5 : Hid (W5.heap[W3.heap.size]? = some (.cells #[.slice ao_n L_n cap_n, .int .i64 Hx.n, .string Hx.r, .slice ao_np L_np cap_np, .int .i64 Sx] 30 (0, 0))) := by show _ = _; rw [← HW5.out]; exact setRow_heap _ _ _ _ _ (0, 0) r_st4.out
    rw [HW5.out]
    clear r_m4 c_m4 r_q4 c_q4 r_st4 c_st4 o_v4 o_p4 o_n4 o_np4
    have c_m5 := Ke.c r_m5
    have c_q5 := Ke.c r_q5
    have c_st5 := Ke.c r_st5
    rw [HW5.out] at hHeld
    have D5 : Hid (Below W2.heap.size W2 W5) := by show Below _ _ _; rw [← HW5.out]; exact D5a
    refine Ke.q 15 ?_; try simp only [Act.put, pq]
    refine wpAnyH_done (by kernel_rfl) ?_ _
    clear hHeld
    by_cases hc : c = 0
    ·have HD1 : Hid (R = better ⟨id, ⟨Lx, Hx, Bx, Sx⟩, g⟩ hq) := by show _ = _; rw [HD.out, if_pos ⟨HNL.out, h6, hc⟩]
     subst hc
     go_wp2_with (first | (refine wpList_load_row rfl 30 _ rfl (W3.heap.size) rfl 30 (sc (.slice ao_n L_n cap_n) Hx (.slice ao_np L_np cap_np) Sx) (0, 0) _ r_st5.out Tryz.underlying30 rfl (sizeS _ _ _ _) ?_) | (refine wpl_partG rfl 30 _ _ rfl gm 1 (sc (.slice ao_n L_n cap_n) Hx (.slice ao_np L_np cap_np) Sx) rfl rfl [.int .i64 id, .slice ao_v l.length cap_v, .int .i64 h.n, .string h.r, .slice ao_p b.length cap_p, .int .i64 s, .int .i64 g.n, .string g.r] 32 r_m5.out (Nat.le_of_ble_eq_true rfl) (sizeS _ _ _ _) (oneS _ _ rfl rfl) [.int .i64 id, .slice ao_n L_n cap_n, .int .i64 Hx.n, .string Hx.r, .slice ao_np L_np cap_np, .int .i64 Sx, .int .i64 g.n, .string g.r] rfl ?_))
     intro W6 r_m6 g6
     have r_m6 := Ke.h r_m6
     have z6 := g6.size
     have B6 : Hid (Below gm w W6) := belowGro B5.out g6 (by have := B5.out.size; omega) (fun k9 h9 => by injection h9 with h9; have := B5.out.size; omega)
     have r_q6 := Ke.s r_q5 g6
     have r_st6 := Ke.s r_st5 g6
     have o_v6 := Ke.t o_v5 r_m5 g6
     have o_p6 := Ke.t o_p5 r_m5 g6
     have o_n6 := Ke.t o_n5 r_m5 g6
     have o_np6 := Ke.t o_np5 r_m5 g6
     have c_m6 := Ke.c r_m6
     have c_q6 := Ke.c r_q6
     have c_st6 := Ke.c r_st6
     clear r_q5 c_q5 r_st5 c_st5 o_v5 o_p5 o_n5 o_np5
     clear r_m5 c_m5
     clear g6
     go_wp2_with fail
     refine wp_region_held_drew (S := fun w' => (∀ j, w'.cell? ⟨gm, j, none⟩ = #[.int .i64 id, .slice ao_n L_n cap_n, .int .i64 Hx.n, .string Hx.r, .slice ao_np L_np cap_np, .int .i64 Sx, .int .i64 g.n, .string g.r][j]?) ∧ (∀ j, w'.cell? ⟨w.heap.size, j, none⟩ = #[.int .i64 k, .int .i64 f, .int .i64 tt, .int .i64 hq.n, .string hq.r, .int .i64 n, .slice ao3 x.length cap3][j]?)) (by kernel_rfl) ⟨c_m6, c_q6⟩ (fun hHeld => ?_)
     refine Ke.q 0 ?_; try simp only [Act.put, pq]
     refine Ke.q 1 ?_; try simp only [Act.put, pq]
     refine Ke.q 2 ?_; try simp only [Act.put, pq]
     refine Ke.q 3 ?_; try simp only [Act.put, pq]
     refine Ke.q 4 ?_; try simp only [Act.put, pq]
     refine Ke.q 5 ?_; try simp only [Act.put, pq]
     refine Ke.q 6 ?_; try simp only [Act.put, pq]
     refine Ke.q 7 ?_; try simp only [Act.put, pq]
     refine Ke.q 8 ?_; try simp only [Act.put, pq]
     refine wpAnyH_done (by kernel_rfl) ?_ _
     clear hHeld
     obtain ⟨W7, HW7, b7⟩ := Ke.v W6
     rw [HW7.out]
     have z7 := b7.size
     have B7 : Hid (Below gm w W7) := B6.out.trans (b7.mono (by have := B6.out.size; omega))
     have r_m7 := Ke.r r_m6 b7
     have r_q7 := Ke.r r_q6 b7
     have r_st7 := Ke.r r_st6 b7
     have o_v7 := Ke.o o_v6 b7
     have o_p7 := Ke.o o_p6 b7
     have o_n7 := Ke.o o_n6 b7
     have o_np7 := Ke.o o_np6 b7
     have c_m7 := Ke.c r_m7
     have c_q7 := Ke.c r_q7
     have c_st7 := Ke.c r_st7
     clear r_m6 c_m6 r_q6 c_q6 r_st6 c_st6 o_v6 o_p6 o_n6 o_np6
     by_cases hb : g.n < hq.n
     ·have HN : Hid (R = ⟨id, ⟨Lx, Hx, Bx, Sx⟩, hq⟩) := by show _ = _; rw [HD1.out]; unfold better; simp only; rw [if_pos hb]
      go_wp2_with (refine wpl_partG rfl 26 _ _ rfl (gm) 6 (hc hq) rfl rfl [.int .i64 id, .slice ao_n L_n cap_n, .int .i64 Hx.n, .string Hx.r, .slice ao_np L_np cap_np, .int .i64 Sx, .int .i64 g.n, .string g.r] 32 r_m7.out (Nat.le_of_ble_eq_true rfl) (sizeH _) (oneH _) [.int .i64 id, .slice ao_n L_n cap_n, .int .i64 Hx.n, .string Hx.r, .slice ao_np L_np cap_np, .int .i64 Sx, .int .i64 hq.n, .string hq.r] rfl ?_)
      intro W8 r_m8 g8
      have r_m8 := Ke.h r_m8
      have z8 := g8.size
      have B8 : Hid (Below gm w W8) := belowGro B7.out g8 (by have := B7.out.size; omega) (fun k9 h9 => by injection h9 with h9; have := B7.out.size; omega)
      have r_q8 := Ke.s r_q7 g8
      have r_st8 := Ke.s r_st7 g8
      have o_v8 := Ke.t o_v7 r_m7 g8
      have o_p8 := Ke.t o_p7 r_m7 g8
      have o_n8 := Ke.t o_n7 r_m7 g8
      have o_np8 := Ke.t o_np7 r_m7 g8
      have c_m8 := Ke.c r_m8
      have c_q8 := Ke.c r_q8
      have c_st8 := Ke.c r_st8
      clear r_q7 c_q7 r_st7 c_st7 o_v7 o_p7 o_n7 o_np7
      clear r_m7 c_m7
      clear g8
      go_wp2
      first | (refine bodyPost_ret (results_none rfl _ _ _) rfl ?_) | (refine bodyPost_end (results_none rfl _ _ _) rfl ?_)
      first | refine ⟨.slice ao_n L_n cap_n, .slice ao_np L_np cap_np, rfl, ?_, ?_, ?_, B8.out⟩ | refine ⟨rfl, .slice ao_n L_n cap_n, .slice ao_np L_np cap_np, ?_, ?_, ?_, B8.out⟩
      ·rw [HN.out]
       exact r_m8.out
      ·rw [HN.out]
       exact o_n8.out.mono (by omega) (by omega)
      ·rw [HN.out]
       exact o_np8.out.mono (by omega) (by omega)
     ·have HN : Hid (R = ⟨id, ⟨Lx, Hx, Bx, Sx⟩, g⟩) := by show _ = _; rw [HD1.out]; unfold better; simp only; rw [if_neg hb]
      go_wp2
      first | (refine bodyPost_ret (results_none rfl _ _ _) rfl ?_) | (refine bodyPost_end (results_none rfl _ _ _) rfl ?_)
      first | refine ⟨.slice ao_n L_n cap_n, .slice ao_np L_np cap_np, rfl, ?_, ?_, ?_, B7.out⟩ | refine ⟨rfl, .slice ao_n L_n cap_n, .slice ao_np L_np cap_np, ?_, ?_, ?_, B7.out⟩
      ·rw [HN.out]
       exact r_m7.out
      ·rw [HN.out]
       exact o_n7.out.mono (by omega) (by omega)
      ·rw [HN.out]
       exact o_np7.out.mono (by omega) (by omega)
    ·have nc : (c != 0) = true := by simp [hc]
     have HN : Hid (R = ⟨id, ⟨l, h, b, s⟩, g⟩) := by show _ = _; rw [HD.out, if_neg (fun q => hc q.2.2)]
     go_wp2
     first | (refine bodyPost_ret (results_none rfl _ _ _) rfl ?_) | (refine bodyPost_end (results_none rfl _ _ _) rfl ?_)
     refine ⟨.slice ao_v l.length cap_v, .slice ao_p b.length cap_p, rfl, ?_, ?_, ?_, B5.out⟩
     ·rw [HN.out]
      exact r_m5.out
     ·rw [HN.out]
      exact o_v5.out.mono (Nat.le_refl _) (by omega)
     ·rw [HN.out]
      exact o_p5.out.mono (Nat.le_refl _) (by omega)
   ·go_simp
    refine hK.out _ _ ⟨(Ke.k (W := W2.drew) hHeld.1 ((Below.refl _ _).alloc (Nat.le_refl _) _)), (Ke.k (W := W2.drew) hHeld.2 ((Below.refl _ _).alloc (Nat.le_refl _) _))⟩ (fun hHeld => ?_)
    clear hK K
    try simp only [Act.put, pq]
    obtain ⟨W3, HW3, b3, y3, r_st3⟩ : ∃ X, Hid ((W2.alloc (.cells #[.slice none 0 0, .int .i64 0, .string ⟨#[]⟩, .slice none 0 0, .int .i64 0] 30)).drew = X) ∧ Below W2.heap.size W2 X ∧ W2.heap.size + 1 ≤ X.heap.size ∧ Hid (X.heap[W2.heap.size]? = some (.cells #[.slice none 0 0, .int .i64 0, .string ⟨#[]⟩, .slice none 0 0, .int .i64 0] 30 (0, 0))) := ⟨_, rfl, (Below.drew ((Below.refl _ _).alloc (Nat.le_refl _) _)), (by show _ ≤ (W2.heap.push _).size; simp), heap_alloc_new W2 _⟩
    have HHW3 := HW3.out
    rw [HHW3] at hHeld ⊢
    clear HHW3
    have z3 := b3.size
    have B3 : Hid (Below gm w W3) := B2.out.trans (b3.mono (by have := B2.out.size; omega))
    have r_m3 := Ke.r r_m2 b3
    have r_q3 := Ke.r r_q2 b3
    have o_v3 := Ke.o o_v2 b3
    have o_p3 := Ke.o o_p2 b3
    have c_m3 := Ke.c r_m3
    have c_q3 := Ke.c r_q3
    have c_st3 := Ke.c r_st3
    clear r_m2 c_m2 r_q2 c_q2 o_v2 o_p2
    have D3 := Ke.b D2 b3
    refine Ke.z 9 rfl (fun K hK => ?_)
    go_simp
    refine (q2 W3 _ _ _ _ (Own.sl o_v3.out) (Own.sl o_p3.out) (HT.out _ B3.out) (HX.out _ B3.out)).mono ?_
    rintro e W4 ⟨v_n, v_np, rfl, o_n4, o_np4, b4⟩
    refine hK.out _ _ ⟨(Ke.k (W := W3) hHeld.1 b4), (Ke.k (W := W3) hHeld.2 b4)⟩ (fun hHeld => ?_)
    clear hK K
    try simp only [Act.put, pq]
    obtain ⟨lo_n, hi_n, lo_np, hi_np, d1_n, d2_n, d3_n, d4_n, d5_n, d6_n, d7_n, oo_n, oo_np⟩ := Sr.pairN o_n4 o_np4 b4.size
    clear o_n4 o_np4
    obtain ⟨ao_n, L_n, cap_n, rfl, _, _⟩ := oo_n.form
    obtain ⟨ao_np, L_np, cap_np, rfl, _, _⟩ := oo_np.form
    have o_n4 : Hid (Own W4 lo_n hi_n 9 (.slice ao_n L_n cap_n) (ss Lx)) := oo_n
    have o_np4 : Hid (Own W4 lo_np hi_np 5 (.slice ao_np L_np cap_np) (bs Bx)) := oo_np
    clear oo_n oo_np
    have z4 := b4.size
    have B4 : Hid (Below gm w W4) := B3.out.trans (b4.mono (by have := B3.out.size; omega))
    have r_m4 := Ke.r r_m3 b4
    have r_q4 := Ke.r r_q3 b4
    have r_st4 := Ke.r r_st3 b4
    have o_v4 := Ke.o o_v3 b4
    have o_p4 := Ke.o o_p3 b4
    have c_m4 := Ke.c r_m4
    have c_q4 := Ke.c r_q4
    have c_st4 := Ke.c r_st4
    clear r_m3 c_m3 r_q3 c_q3 r_st3 c_st3 o_v3 o_p3
    have D4 := Ke.b D3 b4
    refine Ke.q 10 ?_; try simp only [Act.put, pq]
    refine Ke.q 11 ?_; try simp only [Act.put, pq]
    refine Ke.q 12 ?_; try simp only [Act.put, pq]
    refine Ke.z 14 rfl (fun K hK => ?_)
    rw [if_pos (by rfl)]
    refine wp_store_row 30 _ _ rfl (W2.heap.size) (sc (.slice ao_n L_n cap_n) Hx (.slice ao_np L_np cap_np) Sx) rfl rfl 30 _ r_st4.out (sizeS _ _ _ _) rfl (oneS _ _ rfl rfl) ?_
    refine hK.out _ _ ⟨(Ke.w (by show gm ≠ W2.heap.size; omega) hHeld.1), (Ke.w (by show w.heap.size ≠ W2.heap.size; omega) hHeld.2)⟩ (fun hHeld => ?_)
    clear hK K
    try simp only [Act.put, pq]
    have D5a : Below W2.heap.size W2 (W4.setRow (W2.heap.size) (sc (.slice ao_n L_n cap_n) Hx (.slice ao_np L_np cap_np) Sx)) := below_setRow D4.out (by omega) _
    obtain ⟨W5, HW5⟩ : ∃ X, Hid (W4.setRow (W2.heap.size) (sc (.slice ao_n L_n cap_n) Hx (.slice ao_np L_np cap_np) Sx) = X) := ⟨_, rfl⟩
    have z5 : W4.heap.size ≤ W5.heap.size := by rw [← HW5.out]; simp
    have B5 : Hid (Below gm w W5) := by show Below _ _ _; rw [← HW5.out]; exact below_setRow B4.out (by have := B4.out.size; omega) _
    have r_m5 : Hid (W5.heap[gm]? = some (.cells #[.int .i64 id, .slice ao_v l.length cap_v, .int .i64 h.n, .string h.r, .slice ao_p b.length cap_p, .int .i64 s, .int .i64 g.n, .string g.r] 32 (0, 0))) := by show _ = _; rw [← HW5.out]; exact (setRow_other _ _ _ _ (by omega)).trans r_m4.out
    have r_q5 : Hid (W5.heap[w.heap.size]? = some (.cells #[.int .i64 k, .int .i64 f, .int .i64 tt, .int .i64 hq.n, .string hq.r, .int .i64 n, .slice ao3 x.length cap3] 35 (0, 0))) := by show _ = _; rw [← HW5.out]; exact (setRow_other _ _ _ _ (by omega)).trans r_q4.out
    have o_v5 : Hid (Own W5 (lo) (gm) 9 (.slice ao_v l.length cap_v) (ss l)) := by show Own _ _ _ _ _ _; rw [← HW5.out]; exact Own.setRow o_v4.out _ (by omega)
    have o_p5 : Hid (Own W5 (lo) (gm) 5 (.slice ao_p b.length cap_p) (bs b)) := by show Own _ _ _ _ _ _; rw [← HW5.out]; exact Own.setRow o_p4.out _ (by omega)
    have o_n5 : Hid (Own W5 (lo_n) (hi_n) 9 (.slice ao_n L_n cap_n) (ss Lx)) := by show Own _ _ _ _ _ _; rw [← HW5.out]; exact Own.setRow o_n4.out _ (by omega)
    have o_np5 : Hid (Own W5 (lo_np) (hi_np) 5 (.slice ao_np L_np cap_np) (bs Bx)) := by show Own _ _ _ _ _ _; rw [← HW5.out]; exact Own.setRow o_np4.out _ (by omega)
    have r_st5 : Hid (W5.heap[W2.heap.size]? = some (.cells #[.slice ao_n L_n cap_n, .int .i64 Hx.n, .string Hx.r, .slice ao_np L_np cap_np, .int .i64 Sx] 30 (0, 0))) := by show _ = _; rw [← HW5.out]; exact setRow_heap _ _ _ _ _ (0, 0) r_st4.out
    rw [HW5.out]
    clear r_m4 c_m4 r_q4 c_q4 r_st4 c_st4 o_v4 o_p4 o_n4 o_np4
    have c_m5 := Ke.c r_m5
    have c_q5 := Ke.c r_q5
    have c_st5 := Ke.c r_st5
    rw [HW5.out] at hHeld
    have D5 : Hid (Below W2.heap.size W2 W5) := by show Below _ _ _; rw [← HW5.out]; exact D5a
    refine Ke.q 15 ?_; try simp only [Act.put, pq]
    refine wpAnyH_done (by kernel_rfl) ?_ _
    clear hHeld
    by_cases hc : c = 0
    ·have HD1 : Hid (R = better ⟨id, ⟨Lx, Hx, Bx, Sx⟩, g⟩ hq) := by show _ = _; rw [HD.out, if_pos ⟨HNL.out, h6, hc⟩]
     subst hc
     go_wp2_with (first | (refine wpList_load_row rfl 30 _ rfl (W2.heap.size) rfl 30 (sc (.slice ao_n L_n cap_n) Hx (.slice ao_np L_np cap_np) Sx) (0, 0) _ r_st5.out Tryz.underlying30 rfl (sizeS _ _ _ _) ?_) | (refine wpl_partG rfl 30 _ _ rfl gm 1 (sc (.slice ao_n L_n cap_n) Hx (.slice ao_np L_np cap_np) Sx) rfl rfl [.int .i64 id, .slice ao_v l.length cap_v, .int .i64 h.n, .string h.r, .slice ao_p b.length cap_p, .int .i64 s, .int .i64 g.n, .string g.r] 32 r_m5.out (Nat.le_of_ble_eq_true rfl) (sizeS _ _ _ _) (oneS _ _ rfl rfl) [.int .i64 id, .slice ao_n L_n cap_n, .int .i64 Hx.n, .string Hx.r, .slice ao_np L_np cap_np, .int .i64 Sx, .int .i64 g.n, .string g.r] rfl ?_))
     intro W6 r_m6 g6
     have r_m6 := Ke.h r_m6
     have z6 := g6.size
     have B6 : Hid (Below gm w W6) := belowGro B5.out g6 (by have := B5.out.size; omega) (fun k9 h9 => by injection h9 with h9; have := B5.out.size; omega)
     have r_q6 := Ke.s r_q5 g6
     have r_st6 := Ke.s r_st5 g6
     have o_v6 := Ke.t o_v5 r_m5 g6
     have o_p6 := Ke.t o_p5 r_m5 g6
     have o_n6 := Ke.t o_n5 r_m5 g6
     have o_np6 := Ke.t o_np5 r_m5 g6
     have c_m6 := Ke.c r_m6
     have c_q6 := Ke.c r_q6
     have c_st6 := Ke.c r_st6
     clear r_q5 c_q5 r_st5 c_st5 o_v5 o_p5 o_n5 o_np5
     clear r_m5 c_m5
     clear g6
     go_wp2_with fail
     refine wp_region_held_drew (S := fun w' => (∀ j, w'.cell? ⟨gm, j, none⟩ = #[.int .i64 id, .slice ao_n L_n cap_n, .int .i64 Hx.n, .string Hx.r, .slice ao_np L_np cap_np, .int .i64 Sx, .int .i64 g.n, .string g.r][j]?) ∧ (∀ j, w'.cell? ⟨w.heap.size, j, none⟩ = #[.int .i64 k, .int .i64 f, .int .i64 tt, .int .i64 hq.n, .string hq.r, .int .i64 n, .slice ao3 x.length cap3][j]?)) (by kernel_rfl) ⟨c_m6, c_q6⟩ (fun hHeld => ?_)
     refine Ke.q 0 ?_; try simp only [Act.put, pq]
     refine Ke.q 1 ?_; try simp only [Act.put, pq]
     refine Ke.q 2 ?_; try simp only [Act.put, pq]
     refine Ke.q 3 ?_; try simp only [Act.put, pq]
     refine Ke.q 4 ?_; try simp only [Act.put, pq]
     refine Ke.q 5 ?_; try simp only [Act.put, pq]
     refine Ke.q 6 ?_; try simp only [Act.put, pq]
     refine Ke.q 7 ?_; try simp only [Act.put, pq]
     refine Ke.q 8 ?_; try simp only [Act.put, pq]
     refine wpAnyH_done (by kernel_rfl) ?_ _
     clear hHeld
     obtain ⟨W7, HW7, b7⟩ := Ke.v W6
     rw [HW7.out]
     have z7 := b7.size
     have B7 : Hid (Below gm w W7) := B6.out.trans (b7.mono (by have := B6.out.size; omega))
     have r_m7 := Ke.r r_m6 b7
     have r_q7 := Ke.r r_q6 b7
     have r_st7 := Ke.r r_st6 b7
     have o_v7 := Ke.o o_v6 b7
     have o_p7 := Ke.o o_p6 b7
     have o_n7 := Ke.o o_n6 b7
     have o_np7 := Ke.o o_np6 b7
     have c_m7 := Ke.c r_m7
     have c_q7 := Ke.c r_q7
     have c_st7 := Ke.c r_st7
     clear r_m6 c_m6 r_q6 c_q6 r_st6 c_st6 o_v6 o_p6 o_n6 o_np6
     by_cases hb : g.n < hq.n
     ·have HN : Hid (R = ⟨id, ⟨Lx, Hx, Bx, Sx⟩, hq⟩) := by show _ = _; rw [HD1.out]; unfold better; simp only; rw [if_pos hb]
      go_wp2_with (refine wpl_partG rfl 26 _ _ rfl (gm) 6 (hc hq) rfl rfl [.int .i64 id, .slice ao_n L_n cap_n, .int .i64 Hx.n, .string Hx.r, .slice ao_np L_np cap_np, .int .i64 Sx, .int .i64 g.n, .string g.r] 32 r_m7.out (Nat.le_of_ble_eq_true rfl) (sizeH _) (oneH _) [.int .i64 id, .slice ao_n L_n cap_n, .int .i64 Hx.n, .string Hx.r, .slice ao_np L_np cap_np, .int .i64 Sx, .int .i64 hq.n, .string hq.r] rfl ?_)
      intro W8 r_m8 g8
      have r_m8 := Ke.h r_m8
      have z8 := g8.size
      have B8 : Hid (Below gm w W8) := belowGro B7.out g8 (by have := B7.out.size; omega) (fun k9 h9 => by injection h9 with h9; have := B7.out.size; omega)
      have r_q8 := Ke.s r_q7 g8
      have r_st8 := Ke.s r_st7 g8
      have o_v8 := Ke.t o_v7 r_m7 g8
      have o_p8 := Ke.t o_p7 r_m7 g8
      have o_n8 := Ke.t o_n7 r_m7 g8
      have o_np8 := Ke.t o_np7 r_m7 g8
      have c_m8 := Ke.c r_m8
      have c_q8 := Ke.c r_q8
      have c_st8 := Ke.c r_st8
      clear r_q7 c_q7 r_st7 c_st7 o_v7 o_p7 o_n7 o_np7
      clear r_m7 c_m7
      clear g8
      go_wp2
      first | (refine bodyPost_ret (results_none rfl _ _ _) rfl ?_) | (refine bodyPost_end (results_none rfl _ _ _) rfl ?_)
      first | refine ⟨.slice ao_n L_n cap_n, .slice ao_np L_np cap_np, rfl, ?_, ?_, ?_, B8.out⟩ | refine ⟨rfl, .slice ao_n L_n cap_n, .slice ao_np L_np cap_np, ?_, ?_, ?_, B8.out⟩
      ·rw [HN.out]
       exact r_m8.out
      ·rw [HN.out]
       exact o_n8.out.mono (by omega) (by omega)
      ·rw [HN.out]
       exact o_np8.out.mono (by omega) (by omega)
     ·have HN : Hid (R = ⟨id, ⟨Lx, Hx, Bx, Sx⟩, g⟩) := by show _ = _; rw [HD1.out]; unfold better; simp only; rw [if_neg hb]
      go_wp2
      first | (refine bodyPost_ret (results_none rfl _ _ _) rfl ?_) | (refine bodyPost_end (results_none rfl _ _ _) rfl ?_)
      first | refine ⟨.slice ao_n L_n cap_n, .slice ao_np L_np cap_np, rfl, ?_, ?_, ?_, B7.out⟩ | refine ⟨rfl, .slice ao_n L_n cap_n, .slice ao_np L_np cap_np, ?_, ?_, ?_, B7.out⟩
      ·rw [HN.out]
       exact r_m7.out
      ·rw [HN.out]
       exact o_n7.out.mono (by omega) (by omega)
      ·rw [HN.out]
       exact o_np7.out.mono (by omega) (by omega)
    ·have nc : (c != 0) = true := by simp [hc]
     have HN : Hid (R = ⟨id, ⟨l, h, b, s⟩, g⟩) := by show _ = _; rw [HD.out, if_neg (fun q => hc q.2.2)]
     go_wp2
     first | (refine bodyPost_ret (results_none rfl _ _ _) rfl ?_) | (refine bodyPost_end (results_none rfl _ _ _) rfl ?_)
     refine ⟨.slice ao_v l.length cap_v, .slice ao_p b.length cap_p, rfl, ?_, ?_, ?_, B5.out⟩
     ·rw [HN.out]
      exact r_m5.out
     ·rw [HN.out]
      exact o_v5.out.mono (Nat.le_refl _) (by omega)
     ·rw [HN.out]
      exact o_p5.out.mono (Nat.le_refl _) (by omega)
  ·have d6 : (60000 : Int) < (b.length : Int) + (P.length : Int) := by omega
   refine Ke.q 22 ?_; try simp only [Act.put, pq]
   refine Ke.q 23 ?_; try simp only [Act.put, pq]
   refine Ke.q 24 ?_; try simp only [Act.put, pq]
   refine Ke.q 25 ?_; try simp only [Act.put, pq]
   refine wpAnyH_done (by kernel_rfl) ?_ _
   clear hHeld
   clear o_u2
   have HN : Hid (R = ⟨id, ⟨l, h, b, s⟩, g⟩) := by show _ = _; rw [HD.out, if_neg (fun q => h6 q.2.1)]
   go_wp2
   first | (refine bodyPost_ret (results_none rfl _ _ _) rfl ?_) | (refine bodyPost_end (results_none rfl _ _ _) rfl ?_)
   refine ⟨.slice ao_v l.length cap_v, .slice ao_p b.length cap_p, rfl, ?_, ?_, ?_, B2.out⟩
   ·rw [HN.out]
    exact r_m2.out
   ·rw [HN.out]
    exact o_v2.out.mono (Nat.le_refl _) (by omega)
   ·rw [HN.out]
    exact o_p2.out.mono (Nat.le_refl _) (by omega)
 ·have nq : (n != (l.length : Int)) = true := by simp [hnl]
  go_wp2_with fail
  rw [HW1.out]
  clear a_m0
  refine wp_region_held_drew (S := fun w' => (∀ j, w'.cell? ⟨gm, j, none⟩ = #[.int .i64 id, .slice ao_v l.length cap_v, .int .i64 h.n, .string h.r, .slice ao_p b.length cap_p, .int .i64 s, .int .i64 g.n, .string g.r][j]?) ∧ (∀ j, w'.cell? ⟨w.heap.size, j, none⟩ = #[.int .i64 k, .int .i64 f, .int .i64 tt, .int .i64 hq.n, .string hq.r, .int .i64 n, .slice ao3 x.length cap3][j]?)) (by kernel_rfl) ⟨c_m1, c_q1⟩ (fun hHeld => ?_)
  refine Ke.q 0 ?_; try simp only [Act.put, pq]
  refine Ke.q 1 ?_; try simp only [Act.put, pq]
  refine Ke.q 2 ?_; try simp only [Act.put, pq]
  refine Ke.q 3 ?_; try simp only [Act.put, pq]
  refine Ke.q 4 ?_; try simp only [Act.put, pq]
  refine Ke.q 5 ?_; try simp only [Act.put, pq]
  refine Ke.q 6 ?_; try simp only [Act.put, pq]
  refine Ke.q 7 ?_; try simp only [Act.put, pq]
  refine Ke.q 8 ?_; try simp only [Act.put, pq]
  refine Ke.q 9 ?_; try simp only [Act.put, pq]
  refine Ke.q 10 ?_; try simp only [Act.put, pq]
  refine Ke.p 11 ?_; try simp only [Act.put, pq]
  refine Ke.p 12 ?_; try simp only [Act.put, pq]
  refine Ke.p 13 ?_; try simp only [Act.put, pq]
  refine Ke.p 14 ?_; try simp only [Act.put, pq]
  refine Ke.p 15 ?_; try simp only [Act.put, pq]
  refine Ke.p 16 ?_; try simp only [Act.put, pq]
  refine Ke.p 17 ?_; try simp only [Act.put, pq]
  refine Ke.p 18 ?_; try simp only [Act.put, pq]
  refine Ke.p 19 ?_; try simp only [Act.put, pq]
  refine Ke.p 20 ?_; try simp only [Act.put, pq]
  refine Ke.p 21 ?_; try simp only [Act.put, pq]
  refine Ke.p 22 ?_; try simp only [Act.put, pq]
  refine Ke.p 23 ?_; try simp only [Act.put, pq]
  refine Ke.p 24 ?_; try simp only [Act.put, pq]
  refine Ke.q 25 ?_; try simp only [Act.put, pq]
  refine wpAnyH_done (by kernel_rfl) ?_ _
  clear hHeld
  obtain ⟨W2, HW2, b2⟩ := Ke.v W1
  rw [HW2.out]
  have z2 := b2.size
  have B2 : Hid (Below gm w W2) := B1.out.trans (b2.mono (by have := B1.out.size; omega))
  have r_m2 := Ke.r r_m1 b2
  have r_q2 := Ke.r r_q1 b2
  have o_v2 := Ke.o o_v1 b2
  have o_p2 := Ke.o o_p1 b2
  have c_m2 := Ke.c r_m2
  have c_q2 := Ke.c r_q2
  clear r_m1 c_m1 r_q1 c_q1 o_v1 o_p1
  have HN : Hid (R = ⟨id, ⟨l, h, b, s⟩, g⟩) := by show _ = _; rw [HD.out, if_neg (fun q => hnl q.1)]
  go_wp2
  first | (refine bodyPost_ret (results_none rfl _ _ _) rfl ?_) | (refine bodyPost_end (results_none rfl _ _ _) rfl ?_)
  refine ⟨.slice ao_v l.length cap_v, .slice ao_p b.length cap_p, rfl, ?_, ?_, ?_, B2.out⟩
  ·rw [HN.out]
   exact r_m2.out
  ·rw [HN.out]
   exact o_v2.out.mono (Nat.le_refl _) (by omega)
  ·rw [HN.out]
   exact o_p2.out.mono (Nat.le_refl _) (by omega)
end Go.Proofs.YtchonoonclllbaaGreatDoor.Mi
