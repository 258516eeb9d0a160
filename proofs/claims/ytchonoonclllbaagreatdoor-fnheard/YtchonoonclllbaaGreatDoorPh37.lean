/- Texts in one: Mj7, LhD. -/
import Derived.Test.YtchonoonclllbaaGreatDoorPh36
set_option maxHeartbeats 16000000
set_option linter.unusedVariables false
set_option linter.unusedSimpArgs false
namespace Go.Proofs.YtchonoonclllbaaGreatDoor.Mi
open Go.RowKit Mem Laws Bytes Sha Tr He Lg Sr Mg
theorem slMid15 {w : World} {b off L cap : Nat} {l : List ByteArray} (h : Sl w (.slice (some ⟨b, off, none⟩) L cap) (ss l)) (q m : Nat) (hq : q < l.length) (hm : q + m ≤ l.length) : Sl w (.slice (some ⟨b, off + q, none⟩) m (cap - q)) (ss ((l.drop q).take m)) := by
 have h1 := slBack h q (by rw [ss_len]; omega)
 have h2 := Sl.front h1 m (by rw [List.length_drop, ss_len]; omega)
 have e : ss ((l.drop q).take m) = ((ss l).drop q).take m := by unfold ss; rw [List.map_take, List.map_drop]
 rw [e]
 exact h2
theorem eqH_comm14 (a b : Hd) : eqH a b = eqH b a := by
 rw [Bool.eq_iff_iff, eqH_iff, eqH_iff]
 exact ⟨Eq.symm, Eq.symm⟩
set_option maxRecDepth 1000000 in
theorem hearask_impl (w : World) (lo : Nat) (v vb vt vx : Value) (m : Mr) (t : List Hd) (q : Ms) {a0 a1 a2 a3 : Addr} (hG : Glob w) (hF : Is.Four w a0 a1 a2 a3) (hlo : lo ≤ w.heap.size) (h9 : Own w lo w.heap.size 9 v (ss m.st.l)) (h5 : Own w lo w.heap.size 5 vb (bs m.st.b)) (hst : Sh w vt t) (hx : Sl w vx (ss q.x)) (hl : m.st.l.length ≤ 1000000000) (hbl : m.st.b.length ≤ 1000000000) (htl : t.length ≤ 1000000000) (hxl : q.x.length ≤ 1000000000) (hz : ∀ s ∈ m.st.l, s.size ≤ 10000000000) (hzx : ∀ s ∈ q.x, s.size ≤ 10000000000) (htx : Puts.tot q.x ≤ 100000000000) (hdr : q.h.r.size ≤ 100000000000) (hhr : m.st.h.r.size ≤ 1000000000000) (hgr : m.b.r.size ≤ 1000000000000) (hok : msgOk q = true) (hti : q.t = m.id) (hk : q.k = 2) :
  Calls Tryz.prog 88 #[.agg #[.int .i64 m.id, v, .int .i64 m.st.h.n, .string m.st.h.r, vb, .int .i64 m.st.s, .int .i64 m.b.n, .string m.b.r], vt, .agg #[.int .i64 q.k, .int .i64 q.f, .int .i64 q.t, .int .i64 q.h.n, .string q.h.r, .int .i64 q.n, vx]] w fun e w' => ∃ v' vb' vq mid, e = .returned (.tuple #[.agg #[.int .i64 (hear1 m t q).1.id, v', .int .i64 (hear1 m t q).1.st.h.n, .string (hear1 m t q).1.st.h.r, vb', .int .i64 (hear1 m t q).1.st.s, .int .i64 (hear1 m t q).1.b.n, .string (hear1 m t q).1.b.r], vq]) ∧ w.heap.size ≤ mid ∧ mid ≤ w'.heap.size ∧ Own w' lo mid 9 v' (ss (hear1 m t q).1.st.l) ∧ Own w' lo mid 5 vb' (bs (hear1 m t q).1.st.b) ∧ Om w' mid w'.heap.size vq (hear1 m t q).2 ∧ Below w.heap.size w w' := by
 obtain ⟨R, hR⟩ : ∃ R, hear1 m t q = R := ⟨_, rfl⟩
 have HR : Hid (hear1 m t q = R) := hR
 rw [hR]
 obtain ⟨id, ⟨l, h, b, s⟩, g⟩ := m
 obtain ⟨k, f, tt, hq, n, x⟩ := q
 simp only at *
 have HOK : Hid (msgOk ⟨k, f, tt, hq, n, x⟩ = true) := hok
 have HTI : Hid (tt = id) := hti
 have HK : Hid (k = 2) := hk
 have HS : Hid (Sl w v (ss l)) := h9.sl
 have HSB : Hid (Sl w vb (bs b)) := h5.sl
 have HT : Hid (Sh w vt t) := hst
 have HX : Hid (Sl w vx (ss x)) := hx
 have HG : Hid (Glob w) := hG
 have HF : Hid (Is.Four w a0 a1 a2 a3) := hF
 obtain ⟨ao2, cap2, rfl, hc2⟩ := hst.form
 obtain ⟨ao3, cap3, rfl, hc3⟩ := hx.form
 obtain ⟨ao_v, L_v, cap_v, rfl, hv1, hv2⟩ := Mem.Own.form h9
 obtain ⟨ao_p, L_p, cap_p, rfl, hp1, hp2⟩ := Mem.Own.form h5
 simp only [ss_len, bs_len] at *
 obtain rfl : L_v = l.length := by omega
 obtain rfl : L_p = b.length := by omega
 have o_v0 : Hid (Own w lo w.heap.size 9 (.slice ao_v l.length cap_v) (ss l)) := h9
 have o_p0 : Hid (Own w lo w.heap.size 5 (.slice ao_p b.length cap_p) (bs b)) := h5
 clear hst hx hR h9 h5 hv1 hv2 hp1 hp2 hok hti hk hG hF
 obtain ⟨hn, hr⟩ := hq
 simp only at *
 have hn9 : 0 ≤ n ∧ n < hn := by
  have h1 := msg_parts HOK.out
  have h2 := h1.2.2.2.2.2
  unfold Mg.kindOk at h2
  simp only at h2
  rw [if_neg (by rw [HK.out]; decide), if_pos HK.out] at h2
  simp only [Bool.and_eq_true, decide_eq_true_eq] at h2
  exact ⟨h1.2.2.2.2.1.1, h2.1⟩
 obtain ⟨n0, rfl⟩ : ∃ n0 : Nat, n = (n0 : Int) := ⟨n.toNat, by omega⟩
 obtain ⟨N, rfl⟩ : ∃ N : Nat, hn = (N : Int) := ⟨hn.toNat, by omega⟩
 have HR2 : Hid (R = (⟨id, ⟨l, h, b, s⟩, g⟩, answer ⟨id, ⟨l, h, b, s⟩, g⟩ ⟨k, f, tt, ⟨(N : Int), hr⟩, (n0 : Int), x⟩)) := by show _ = _; rw [← HR.out]; unfold hear1; simp only; rw [if_neg (by rw [HK.out]; decide), if_pos HK.out]
 clear HR
 by_cases hlt : (l.length : Int) < (N : Int)
 ·have HN : Hid (R = (⟨id, ⟨l, h, b, s⟩, g⟩, [])) := by show _ = _; rw [HR2.out]; unfold answer; simp only; rw [if_neg (by omega)]
  have B0 : Hid (Below w.heap.size w w) := Below.refl _ _
  obtain ⟨W1, HW1, b1, y1, hS1, r_a1, r_q1, r_res1⟩ := Ke.l3 w #[.int .i64 id, .slice ao_v l.length cap_v, .int .i64 h.n, .string h.r, .slice ao_p b.length cap_p, .int .i64 s, .int .i64 g.n, .string g.r] 32 #[.int .i64 k, .int .i64 f, .int .i64 tt, .int .i64 (N : Int), .string hr, .int .i64 (n0 : Int), .slice ao3 x.length cap3] 35 #[.int .i64 0, .slice none 0 0, .int .i64 0, .string ⟨#[]⟩, .slice none 0 0, .int .i64 0, .int .i64 0, .string ⟨#[]⟩] 32
  have z1 := b1.size
  have B1 := Ke.b B0 b1
  have o_v1 := Ke.o o_v0 b1
  have o_p1 := Ke.o o_p0 b1
  have c_a1 := Ke.c r_a1
  have c_q1 := Ke.c r_q1
  have c_res1 := Ke.c r_res1
  clear o_v0 o_p0
  go_enter Tryz.func88, Tryz.ntmps88
  go_wp2_with fail
  rw [HW1.out]
  refine wp_region_held_drew (S := fun w' => (∀ j, w'.cell? ⟨w.heap.size + 1, j, none⟩ = #[.int .i64 k, .int .i64 f, .int .i64 tt, .int .i64 (N : Int), .string hr, .int .i64 (n0 : Int), .slice ao3 x.length cap3][j]?)) (by kernel_rfl) c_q1 (fun hHeld => ?_)
  refine Ke.q 0 ?_; try simp only [Act.put, pq]
  refine Ke.q 1 ?_; try simp only [Act.put, pq]
  refine Ke.q 2 ?_; try simp only [Act.put, pq]
  refine Ke.q 3 ?_; try simp only [Act.put, pq]
  refine Ke.q 4 ?_; try simp only [Act.put, pq]
  refine Ke.q 5 ?_; try simp only [Act.put, pq]
  refine Ke.q 6 ?_; try simp only [Act.put, pq]
  refine Ke.p 7 ?_; try simp only [Act.put, pq]
  refine Ke.p 8 ?_; try simp only [Act.put, pq]
  refine Ke.p 9 ?_; try simp only [Act.put, pq]
  refine Ke.p 10 ?_; try simp only [Act.put, pq]
  refine Ke.p 11 ?_; try simp only [Act.put, pq]
  refine Ke.p 12 ?_; try simp only [Act.put, pq]
  refine Ke.p 13 ?_; try simp only [Act.put, pq]
  refine Ke.p 14 ?_; try simp only [Act.put, pq]
  refine Ke.p 15 ?_; try simp only [Act.put, pq]
  refine Ke.q 16 ?_; try simp only [Act.put, pq]
  refine wpAnyH_done (by kernel_rfl) ?_ _
  clear hHeld
  obtain ⟨W2, HW2, b2⟩ := Ke.v W1
  rw [HW2.out]
  have z2 := b2.size
  have B2 := Ke.b B1 b2
  have r_a2 := Ke.r r_a1 b2
  have r_q2 := Ke.r r_q1 b2
  have r_res2 := Ke.r r_res1 b2
  have o_v2 := Ke.o o_v1 b2
  have o_p2 := Ke.o o_p1 b2
  have c_a2 := Ke.c r_a2
  have c_q2 := Ke.c r_q2
  have c_res2 := Ke.c r_res2
  clear r_a1 c_a1 r_q1 c_q1 r_res1 c_res1 o_v1 o_p1
  go_wp2_with (first | (refine wpList_load_row rfl 32 _ rfl (w.heap.size) rfl 32 (mq id (.slice ao_v l.length cap_v) h (.slice ao_p b.length cap_p) s g) (0, 0) _ r_a2.out Tryz.underlying32 rfl (sizeQ _ _ _ _ _ _) ?_) | (refine wpList_store_row rfl 32 _ _ rfl (w.heap.size + 1 + 1) (mq id (.slice ao_v l.length cap_v) h (.slice ao_p b.length cap_p) s g) rfl rfl 32 _ r_res2.out (sizeQ _ _ _ _ _ _) rfl (oneQ _ _ _ _ rfl rfl) ?_))
  refine bodyPost_ret (res_row_tmp rfl _ _ (w.heap.size + 1 + 1) 32 (mq id (.slice ao_v l.length cap_v) h (.slice ao_p b.length cap_p) s g) (0, 0) _ rfl (setRow_heap _ _ _ _ _ (0, 0) r_res2.out) Tryz.underlying32 rfl (sizeQ _ _ _ _ _ _)) rfl ⟨.slice ao_v l.length cap_v, .slice ao_p b.length cap_p, _, w.heap.size, by rw [HN.out]; rfl, ?_, ?_, ?_, ?_, ?_, below_setRow B2.out (by omega) _⟩
  ·omega
  ·rw [size_setRow]; omega
  ·rw [HN.out]
   exact (Own.setRow o_v2.out _ (by omega)).mono (by omega) (by omega)
  ·rw [HN.out]
   exact (Own.setRow o_p2.out _ (by omega)).mono (by omega) (by omega)
  ·rw [HN.out]
   exact Om.nil _ _ _ _ _
 ·obtain ⟨ga, of, cap0, hve, hc0⟩ := slForm HS.out (by rw [ss_len]; omega)
  simp only [Value.slice.injEq] at hve
  obtain ⟨rfl, _, rfl⟩ := hve
  simp only [ss_len] at *
  have hN : N ≤ l.length := by omega
  have hn2 : n0 < N := by omega
  have hNc : N ≤ cap_v := by omega
  have hn3 : n0 ≤ N := by omega
  have hcn : ¬ cap_v = n0 := by omega
  have d1 : ¬ l.length < N := by omega
  have hlt2 : decide (l.length < N) = false := decide_eq_false d1
  have HFF : Hid (∀ W, Below w.heap.size w W → Sl W (.slice (some ⟨ga, of, none⟩) N cap_v) (ss (l.take N)) ∧ Sl W (.slice (some ⟨ga, of + n0, none⟩) (N - n0) (cap_v - n0)) (ss ((l.take N).drop n0))) := by
   intro W hW
   have h9 := HS.out.later hW
   refine ⟨?_, ?_⟩
   ·have h8 := Sl.front h9 N (by rw [ss_len]; omega)
    have e8 : ss (l.take N) = (ss l).take N := by { unfold ss; rw [List.map_take] }
    rw [e8]; exact h8
   ·rw [List.drop_take]
    exact slMid15 h9 n0 (N - n0) (by omega) (by omega)
  obtain ⟨Xs, hX⟩ : ∃ Xs, (l.take N).drop n0 = Xs := ⟨_, rfl⟩
  have hXl : Xs.length ≤ 1000000000 := by rw [← hX, List.length_drop, List.length_take]; omega
  have hXz : ∀ s ∈ Xs, s.size ≤ 1000000000000 := fun s hs => Nat.le_trans (hz s (List.mem_of_mem_take (List.mem_of_mem_drop (by rw [hX]; exact hs)))) (by omega)
  rw [hX] at HFF
  obtain ⟨M, hM⟩ : ∃ M, headOf (l.take N) = M := ⟨_, rfl⟩
  obtain ⟨E, hE⟩ : ∃ E, eqH ⟨(N : Int), hr⟩ M = E := ⟨_, rfl⟩
  have e1 : ∀ W, (binOp .neq 26 (.agg #[.int .i64 M.n, .string M.r]) (.agg #[.int .i64 (N : Int), .string hr])).run Tryz.prog W = .ok (.bool (!E)) W := fun W => by have h9 := neqH W M ⟨(N : Int), hr⟩; rw [eqH_comm14, hE] at h9; exact h9
  have e2 : ∀ W op y z xs ys, _ := fun W op y z xs ys => grdH W op y z xs ys
  have q1 : ∀ W v1, Glob W → Sl W v1 (ss (l.take N)) → _ := fun W v1 hG h1 => headOf_impl W v1 (l.take N) hG h1 (by rw [List.length_take]; omega) (fun s hs => hz s (List.mem_of_mem_take hs))
  simp only [hM] at q1
  have q2 : ∀ W v1, Sl W v1 (ss Xs) → _ := fun W v1 h1 => Ed.texts_impl W v1 Xs h1 hXl hXz
  have q3 : ∀ W, _ := fun W => own_impl W ⟨(N : Int), hr⟩ (by simp only; omega)
  simp only at q3
  have HD : Hid (R = (⟨id, ⟨l, h, b, s⟩, g⟩, if E = true then [⟨3, id, f, ⟨(N : Int), hr⟩, (n0 : Int), Xs⟩] else [])) := by
   show _ = _
   rw [HR2.out]
   unfold answer
   simp only [Int.toNat_natCast]
   rw [hM, hX, hE]
   cases E
   ·rw [if_neg (by simp), if_neg (by simp)]
   ·rw [if_pos ⟨by omega, rfl⟩, if_pos rfl]
  clear HR2 hX hM hE hz
  have B0 : Hid (Below w.heap.size w w) := Below.refl _ _
  obtain ⟨W1, HW1, b1, y1, hS1, r_a1, r_q1, r_res1⟩ := Ke.l3 w #[.int .i64 id, .slice (some ⟨ga, of, none⟩) l.length cap_v, .int .i64 h.n, .string h.r, .slice ao_p b.length cap_p, .int .i64 s, .int .i64 g.n, .string g.r] 32 #[.int .i64 k, .int .i64 f, .int .i64 tt, .int .i64 (N : Int), .string hr, .int .i64 (n0 : Int), .slice ao3 x.length cap3] 35 #[.int .i64 0, .slice none 0 0, .int .i64 0, .string ⟨#[]⟩, .slice none 0 0, .int .i64 0, .int .i64 0, .string ⟨#[]⟩] 32
  have z1 := b1.size
  have B1 := Ke.b B0 b1
  have o_v1 := Ke.o o_v0 b1
  have o_p1 := Ke.o o_p0 b1
  have c_a1 := Ke.c r_a1
  have c_q1 := Ke.c r_q1
  have c_res1 := Ke.c r_res1
  clear o_v0 o_p0
  go_enter Tryz.func88, Tryz.ntmps88
  go_wp2_with fail
  rw [HW1.out]
  refine wp_region_held_drew (S := fun w' => (∀ j, w'.cell? ⟨w.heap.size + 1, j, none⟩ = #[.int .i64 k, .int .i64 f, .int .i64 tt, .int .i64 (N : Int), .string hr, .int .i64 (n0 : Int), .slice ao3 x.length cap3][j]?)) (by kernel_rfl) c_q1 (fun hHeld => ?_)
  refine Ke.q 0 ?_; try simp only [Act.put, pq]
  refine Ke.q 1 ?_; try simp only [Act.put, pq]
  refine Ke.q 2 ?_; try simp only [Act.put, pq]
  refine Ke.q 3 ?_; try simp only [Act.put, pq]
  refine Ke.q 4 ?_; try simp only [Act.put, pq]
  refine Ke.q 5 ?_; try simp only [Act.put, pq]
  refine Ke.q 6 ?_; try simp only [Act.put, pq]
  refine Ke.q 7 ?_; try simp only [Act.put, pq]
  refine Ke.q 8 ?_; try simp only [Act.put, pq]
  refine Ke.q 9 ?_; try simp only [Act.put, pq]
  refine Ke.q 10 ?_; try simp only [Act.put, pq]
  refine Ke.q 11 ?_; try simp only [Act.put, pq]
  refine Ke.q 13 ?_; try simp only [Act.put, pq]
  refine Ke.q 14 ?_; try simp only [Act.put, pq]
  refine Ke.z 12 rfl (fun K hK => ?_)
  go_simp
  refine (q1 W1.drew _ ((HG.out.later B1.out).later (Below.drew (Below.refl _ _))) (HFF.out _ (Below.drew B1.out)).1).mono ?_
  rintro e W2 ⟨rfl, b2⟩
  have b2 : Below W1.heap.size W1 W2 := (Below.drew (Below.refl _ _)).trans b2
  refine hK.out _ _ (Ke.k (W := W1) hHeld b2) (fun hHeld => ?_)
  clear hK K
  try simp only [Act.put, pq]
  have z2 := b2.size
  have B2 := Ke.b B1 b2
  have r_a2 := Ke.r r_a1 b2
  have r_q2 := Ke.r r_q1 b2
  have r_res2 := Ke.r r_res1 b2
  have o_v2 := Ke.o o_v1 b2
  have o_p2 := Ke.o o_p1 b2
  have c_a2 := Ke.c r_a2
  have c_q2 := Ke.c r_q2
  have c_res2 := Ke.c r_res2
  clear r_a1 c_a1 r_q1 c_q1 r_res1 c_res1 o_v1 o_p1
  refine Ke.q 15 ?_; try simp only [Act.put, pq]
  refine Ke.q 16 ?_; try simp only [Act.put, pq]
  refine wpAnyH_done (by kernel_rfl) ?_ _
  clear hHeld
  clear q1
  cases E
  ·have HN : Hid (R = (⟨id, ⟨l, h, b, s⟩, g⟩, [])) := by show _ = _; rw [HD.out]; rfl
   go_wp2_with (first | (refine wpList_load_row rfl 32 _ rfl (w.heap.size) rfl 32 (mq id (.slice (some ⟨ga, of, none⟩) l.length cap_v) h (.slice ao_p b.length cap_p) s g) (0, 0) _ r_a2.out Tryz.underlying32 rfl (sizeQ _ _ _ _ _ _) ?_) | (refine wpList_store_row rfl 32 _ _ rfl (w.heap.size + 1 + 1) (mq id (.slice (some ⟨ga, of, none⟩) l.length cap_v) h (.slice ao_p b.length cap_p) s g) rfl rfl 32 _ r_res2.out (sizeQ _ _ _ _ _ _) rfl (oneQ _ _ _ _ rfl rfl) ?_))
   refine bodyPost_ret (res_row_tmp rfl _ _ (w.heap.size + 1 + 1) 32 (mq id (.slice (some ⟨ga, of, none⟩) l.length cap_v) h (.slice ao_p b.length cap_p) s g) (0, 0) _ rfl (setRow_heap _ _ _ _ _ (0, 0) r_res2.out) Tryz.underlying32 rfl (sizeQ _ _ _ _ _ _)) rfl ⟨.slice (some ⟨ga, of, none⟩) l.length cap_v, .slice ao_p b.length cap_p, _, w.heap.size, by rw [HN.out]; rfl, ?_, ?_, ?_, ?_, ?_, below_setRow B2.out (by omega) _⟩
   ·omega
   ·rw [size_setRow]; omega
   ·rw [HN.out]
    exact (Own.setRow o_v2.out _ (by omega)).mono (by omega) (by omega)
   ·rw [HN.out]
    exact (Own.setRow o_p2.out _ (by omega)).mono (by omega) (by omega)
   ·rw [HN.out]
    exact Om.nil _ _ _ _ _
  ·have HN : Hid (R = (⟨id, ⟨l, h, b, s⟩, g⟩, [⟨3, id, f, ⟨(N : Int), hr⟩, (n0 : Int), Xs⟩])) := by show _ = _; rw [HD.out]; rfl
   go_wp2_with fail
   refine (q2 W2 _ (HFF.out _ B2.out).2).mono ?_
   rintro e W3 ⟨v_u, rfl, o_u3, b3⟩
   obtain ⟨ao_u, L_u, cap_u, rfl, hL_u, hM_u⟩ := o_u3.form
   have o_u3 : Hid (Own W3 W2.heap.size W3.heap.size 9 (.slice ao_u L_u cap_u) (ss Xs)) := o_u3
   clear hL_u hM_u
   have z3 := b3.size
   have B3 := Ke.b B2 b3
   have r_a3 := Ke.r r_a2 b3
   have r_q3 := Ke.r r_q2 b3
   have r_res3 := Ke.r r_res2 b3
   have o_v3 := Ke.o o_v2 b3
   have o_p3 := Ke.o o_p2 b3
   have c_a3 := Ke.c r_a3
   have c_q3 := Ke.c r_q3
   have c_res3 := Ke.c r_res3
   clear r_a2 c_a2 r_q2 c_q2 r_res2 c_res2 o_v2 o_p2
   go_wp2_with fail
   refine wp_region_held_drew (S := fun w' => (∀ j, w'.cell? ⟨w.heap.size, j, none⟩ = #[.int .i64 id, .slice (some ⟨ga, of, none⟩) l.length cap_v, .int .i64 h.n, .string h.r, .slice ao_p b.length cap_p, .int .i64 s, .int .i64 g.n, .string g.r][j]?) ∧ (∀ j, w'.cell? ⟨w.heap.size + 1, j, none⟩ = #[.int .i64 k, .int .i64 f, .int .i64 tt, .int .i64 (N : Int), .string hr, .int .i64 (n0 : Int), .slice ao3 x.length cap3][j]?)) (by kernel_rfl) ⟨c_a3, c_q3⟩ (fun hHeld => ?_)
   refine Ke.q 0 ?_; try simp only [Act.put, pq]
   refine Ke.q 1 ?_; try simp only [Act.put, pq]
   refine Ke.q 2 ?_; try simp only [Act.put, pq]
   refine Ke.q 3 ?_; try simp only [Act.put, pq]
   refine Ke.q 4 ?_; try simp only [Act.put, pq]
   refine Ke.q 5 ?_; try simp only [Act.put, pq]
   refine Ke.q 6 ?_; try simp only [Act.put, pq]
   refine Ke.q 8 ?_; try simp only [Act.put, pq]
   refine Ke.q 9 ?_; try simp only [Act.put, pq]
   refine Ke.q 10 ?_; try simp only [Act.put, pq]
   refine Ke.z 7 rfl (fun K hK => ?_)
   go_simp
   refine (q3 W3.drew).mono ?_
   rintro e W4 ⟨rfl, b4⟩
   have b4 : Below W3.heap.size W3 W4 := (Below.drew (Below.refl _ _)).trans b4
   refine hK.out _ _ ⟨(Ke.k (W := W3) hHeld.1 b4), (Ke.k (W := W3) hHeld.2 b4)⟩ (fun hHeld => ?_)
   clear hK K
   try simp only [Act.put, pq]
   have z4 := b4.size
   have B4 := Ke.b B3 b4
   have r_a4 := Ke.r r_a3 b4
   have r_q4 := Ke.r r_q3 b4
   have r_res4 := Ke.r r_res3 b4
   have o_v4 := Ke.o o_v3 b4
   have o_p4 := Ke.o o_p3 b4
   have o_u4 := Ke.o o_u3 b4
   have c_a4 := Ke.c r_a4
   have c_q4 := Ke.c r_q4
   have c_res4 := Ke.c r_res4
   clear r_a3 c_a3 r_q3 c_q3 r_res3 c_res3 o_v3 o_p3 o_u3
   refine Ke.q 11 ?_; try simp only [Act.put, pq]
   refine wpAnyH_ready (rs := [12, 13]) (by kernel_rfl) (by simp) ?_
   refine AllReadyH.cons rfl (fun K hK => ?_) (AllReadyH.cons rfl (fun K hK => ?_) AllReadyH.nil)
   ·go_simp
    refine hK.out _ _ ⟨(Ke.k (W := W4) hHeld.1 ((Below.refl _ _).alloc (Nat.le_refl _) _)), (Ke.k (W := W4) hHeld.2 ((Below.refl _ _).alloc (Nat.le_refl _) _))⟩ (fun hHeld => ?_)
    clear hK K
    try simp only [Act.put, pq]
    obtain ⟨W5, HW5, b5, ff5⟩ : ∃ X, Hid ((W4.alloc (.cells #[.int .i64 3, .int .i64 id, .int .i64 f, .int .i64 (N : Int), .string hr, .int .i64 (n0 : Int), .slice ao_u L_u cap_u] 35)) = X) ∧ Below W4.heap.size W4 X ∧ Hid (Om X W2.heap.size X.heap.size (.slice (some ⟨W4.heap.size, 0, none⟩) 1 1) [⟨3, id, f, ⟨(N : Int), hr⟩, (n0 : Int), Xs⟩]) := ⟨_, rfl, ((Below.refl _ _).alloc (Nat.le_refl _) _), Om.one ⟨3, id, f, ⟨(N : Int), hr⟩, (n0 : Int), Xs⟩ (Own.mono o_u4.out (by omega) (by omega)) (by omega)⟩
    have HHW5 := HW5.out
    rw [HHW5] at hHeld ⊢
    clear HHW5
    have z5 := b5.size
    have B5 := Ke.b B4 b5
    have r_a5 := Ke.r r_a4 b5
    have r_q5 := Ke.r r_q4 b5
    have r_res5 := Ke.r r_res4 b5
    have o_v5 := Ke.o o_v4 b5
    have o_p5 := Ke.o o_p4 b5
    have o_u5 := Ke.o o_u4 b5
    have c_a5 := Ke.c r_a5
    have c_q5 := Ke.c r_q5
    have c_res5 := Ke.c r_res5
    clear r_a4 c_a4 r_q4 c_q4 r_res4 c_res4 o_v4 o_p4 o_u4
    have f_om5 : Hid (Om W5 W2.heap.size W5.heap.size (.slice (some ⟨W4.heap.size, 0, none⟩) 1 1) [⟨3, id, f, ⟨(N : Int), hr⟩, (n0 : Int), Xs⟩]) := ff5.out
    clear ff5
    have OM := f_om5
    refine Ke.z 13 rfl (fun K hK => ?_)
    rw [if_pos (by rfl)]
    refine wp_store_row 32 _ _ rfl (w.heap.size + 1 + 1) (mq id (.slice (some ⟨ga, of, none⟩) l.length cap_v) h (.slice ao_p b.length cap_p) s g) rfl rfl 32 _ r_res5.out (sizeQ _ _ _ _ _ _) rfl (oneQ _ _ _ _ rfl rfl) ?_
    refine hK.out _ _ ⟨(Ke.w (by show w.heap.size ≠ w.heap.size + 1 + 1; omega) hHeld.1), (Ke.w (by show w.heap.size + 1 ≠ w.heap.size + 1 + 1; omega) hHeld.2)⟩ (fun hHeld => ?_)
    clear hK K
    try simp only [Act.put, pq]
    refine Ke.q 14 ?_; try simp only [Act.put, pq]
    refine wpAnyH_done (by kernel_rfl) ?_ _
    clear hHeld
    go_wp2
    refine bodyPost_ret (res_row_tmp rfl _ _ (w.heap.size + 1 + 1) 32 (mq id (.slice (some ⟨ga, of, none⟩) l.length cap_v) h (.slice ao_p b.length cap_p) s g) (0, 0) _ rfl (setRow_heap _ _ _ _ _ (0, 0) r_res5.out) Tryz.underlying32 rfl (sizeQ _ _ _ _ _ _)) rfl ⟨.slice (some ⟨ga, of, none⟩) l.length cap_v, .slice ao_p b.length cap_p, _, W2.heap.size, by rw [HN.out]; rfl, ?_, ?_, ?_, ?_, ?_, below_setRow B5.out (by omega) _⟩
    ·omega
    ·rw [size_setRow]; omega
    ·rw [HN.out]
     exact (Own.setRow o_v5.out _ (by omega)).mono (by omega) (by omega)
    ·rw [HN.out]
     exact (Own.setRow o_p5.out _ (by omega)).mono (by omega) (by omega)
    ·rw [HN.out]
     exact (OM.out.setRow _ (by omega)).mono (Nat.le_refl _) (by rw [size_setRow]; omega) (Nat.le_refl _)
   ·have D4 : Hid (Below W4.heap.size W4 W4) := Below.refl _ _
    rw [if_pos (by rfl)]
    refine wp_store_row 32 _ _ rfl (w.heap.size + 1 + 1) (mq id (.slice (some ⟨ga, of, none⟩) l.length cap_v) h (.slice ao_p b.length cap_p) s g) rfl rfl 32 _ r_res4.out (sizeQ _ _ _ _ _ _) rfl (oneQ _ _ _ _ rfl rfl) ?_
    refine hK.out _ _ ⟨(Ke.w (by show w.heap.size ≠ w.heap.size + 1 + 1; omega) hHeld.1), (Ke.w (by show w.heap.size + 1 ≠ w.heap.size + 1 + 1; omega) hHeld.2)⟩ (fun hHeld => ?_)
    clear hK K
    try simp only [Act.put, pq]
    obtain ⟨W5, HW5⟩ : ∃ X, Hid (W4.setRow (w.heap.size + 1 + 1) (mq id (.slice (some ⟨ga, of, none⟩) l.length cap_v) h (.slice ao_p b.length cap_p) s g) = X) := ⟨_, rfl⟩
    have z5 : W4.heap.size ≤ W5.heap.size := by rw [← HW5.out]; simp
    have B5 : Hid (Below w.heap.size w W5) := by show Below _ _ _; rw [← HW5.out]; exact below_setRow B4.out (by have := B4.out.size; omega) _
    have r_a5 : Hid (W5.heap[w.heap.size]? = some (.cells #[.int .i64 id, .slice (some ⟨ga, of, none⟩) l.length cap_v, .int .i64 h.n, .string h.r, .slice ao_p b.length cap_p, .int .i64 s, .int .i64 g.n, .string g.r] 32 (0, 0))) := by show _ = _; rw [← HW5.out]; exact (setRow_other _ _ _ _ (by omega)).trans r_a4.out
    have r_q5 : Hid (W5.heap[w.heap.size + 1]? = some (.cells #[.int .i64 k, .int .i64 f, .int .i64 tt, .int .i64 (N : Int), .string hr, .int .i64 (n0 : Int), .slice ao3 x.length cap3] 35 (0, 0))) := by show _ = _; rw [← HW5.out]; exact (setRow_other _ _ _ _ (by omega)).trans r_q4.out
    have o_v5 : Hid (Own W5 (lo) (w.heap.size) 9 (.slice (some ⟨ga, of, none⟩) l.length cap_v) (ss l)) := by show Own _ _ _ _ _ _; rw [← HW5.out]; exact Own.setRow o_v4.out _ (by omega)
    have o_p5 : Hid (Own W5 (lo) (w.heap.size) 5 (.slice ao_p b.length cap_p) (bs b)) := by show Own _ _ _ _ _ _; rw [← HW5.out]; exact Own.setRow o_p4.out _ (by omega)
    have o_u5 : Hid (Own W5 (W2.heap.size) (W3.heap.size) 9 (.slice ao_u L_u cap_u) (ss Xs)) := by show Own _ _ _ _ _ _; rw [← HW5.out]; exact Own.setRow o_u4.out _ (by omega)
    have r_res5 : Hid (W5.heap[w.heap.size + 1 + 1]? = some (.cells #[.int .i64 id, .slice (some ⟨ga, of, none⟩) l.length cap_v, .int .i64 h.n, .string h.r, .slice ao_p b.length cap_p, .int .i64 s, .int .i64 g.n, .string g.r] 32 (0, 0))) := by show _ = _; rw [← HW5.out]; exact setRow_heap _ _ _ _ _ (0, 0) r_res4.out
    rw [HW5.out]
    clear r_a4 c_a4 r_q4 c_q4 r_res4 c_res4 o_v4 o_p4 o_u4
    have c_a5 := Ke.c r_a5
    have c_q5 := Ke.c r_q5
    have c_res5 := Ke.c r_res5
    rw [HW5.out] at hHeld
    refine Ke.z 12 rfl (fun K hK => ?_)
    go_simp
    refine hK.out _ _ ⟨(Ke.k (W := W5) hHeld.1 ((Below.refl _ _).alloc (Nat.le_refl _) _)), (Ke.k (W := W5) hHeld.2 ((Below.refl _ _).alloc (Nat.le_refl _) _))⟩ (fun hHeld => ?_)
    clear hK K
    try simp only [Act.put, pq]
    obtain ⟨W6, HW6, b6, ff6⟩ : ∃ X, Hid ((W5.alloc (.cells #[.int .i64 3, .int .i64 id, .int .i64 f, .int .i64 (N : Int), .string hr, .int .i64 (n0 : Int), .slice ao_u L_u cap_u] 35)) = X) ∧ Below W5.heap.size W5 X ∧ Hid (Om X W2.heap.size X.heap.size (.slice (some ⟨W5.heap.size, 0, none⟩) 1 1) [⟨3, id, f, ⟨(N : Int), hr⟩, (n0 : Int), Xs⟩]) := ⟨_, rfl, ((Below.refl _ _).alloc (Nat.le_refl _) _), Om.one ⟨3, id, f, ⟨(N : Int), hr⟩, (n0 : Int), Xs⟩ (Own.mono o_u5.out (by omega) (by omega)) (by omega)⟩
    have HHW6 := HW6.out
    rw [HHW6] at hHeld ⊢
    clear HHW6
    have z6 := b6.size
    have B6 := Ke.b B5 b6
    have r_a6 := Ke.r r_a5 b6
    have r_q6 := Ke.r r_q5 b6
    have r_res6 := Ke.r r_res5 b6
    have o_v6 := Ke.o o_v5 b6
    have o_p6 := Ke.o o_p5 b6
    have o_u6 := Ke.o o_u5 b6
    have c_a6 := Ke.c r_a6
    have c_q6 := Ke.c r_q6
    have c_res6 := Ke.c r_res6
    clear r_a5 c_a5 r_q5 c_q5 r_res5 c_res5 o_v5 o_p5 o_u5
    have f_om6 : Hid (Om W6 W2.heap.size W6.heap.size (.slice (some ⟨W5.heap.size, 0, none⟩) 1 1) [⟨3, id, f, ⟨(N : Int), hr⟩, (n0 : Int), Xs⟩]) := ff6.out
    clear ff6
    refine Ke.q 14 ?_; try simp only [Act.put, pq]
    refine wpAnyH_done (by kernel_rfl) ?_ _
    clear hHeld
    go_wp2
    refine bodyPost_ret (res_row_tmp rfl _ _ (w.heap.size + 1 + 1) 32 (mq id (.slice (some ⟨ga, of, none⟩) l.length cap_v) h (.slice ao_p b.length cap_p) s g) (0, 0) _ rfl r_res6.out Tryz.underlying32 rfl (sizeQ _ _ _ _ _ _)) rfl ⟨.slice (some ⟨ga, of, none⟩) l.length cap_v, .slice ao_p b.length cap_p, _, W2.heap.size, by rw [HN.out]; rfl, ?_, ?_, ?_, ?_, ?_, B6.out⟩
    ·omega
    ·omega
    ·rw [HN.out]
     exact o_v6.out.mono (by omega) (by omega)
    ·rw [HN.out]
     exact o_p6.out.mono (by omega) (by omega)
    ·rw [HN.out]
     exact f_om6.out
end Go.Proofs.YtchonoonclllbaaGreatDoor.Mi
namespace Go.Proofs.YtchonoonclllbaaGreatDoor.Lg
open Go.RowKit Mem Laws Bytes Sha Tr He
def why (a0 a1 a2 a3 : Addr) (c : Int) (a : Addr) : Prop := (c = 1 ∧ a = a0) ∨ (c = 2 ∧ a = a1) ∨ (c = 3 ∧ a = a2) ∨ (c = 4 ∧ a = a3)
theorem globLt {w : World} {g : Nat} {a : Addr} (h : Is.At w g a) : g < w.heap.size := World.block_lt_of_cell? w _ h.1
set_option maxRecDepth 1000000 in
theorem extended_impl (w : World) (v vt vx : Value) (l x : List ByteArray) (hd h : Hd) (t : List Hd) {a0 a1 a2 a3 : Addr} (hG : Glob w) (hF : Is.Four w a0 a1 a2 a3) (hs : Sl w v (ss l)) (ht : Sh w vt t) (hsx : Sl w vx (ss x)) (hl : l.length ≤ 1000000000) (htl : t.length ≤ 1000000000) (hx : x.length ≤ 1000000000) (hz : ∀ s ∈ l, s.size ≤ 10000000000) (hzx : ∀ s ∈ x, s.size ≤ 10000000000) (hhr : h.r.size ≤ 1000000000000) :
  Calls Tryz.prog 148 #[.agg #[v, .int .i64 hd.n, .string hd.r], vt, .agg #[.int .i64 h.n, .string h.r], vx] w fun e w' => ((∃ c a, why a0 a1 a2 a3 c a ∧ extend l hd t h x = (l, hd, c) ∧ e = .returned (.tuple #[.agg #[.slice none 0 0, .int .i64 0, .string ⟨#[]⟩], Is.refV h.n h.r a])) ∨
   (∃ v', extend l hd t h x = (l ++ x, h, 0) ∧ e = .returned (.tuple #[.agg #[v', .int .i64 h.n, .string h.r], .nilIface]) ∧ Own w' w.heap.size w'.heap.size 9 v' (ss (l ++ x)))) ∧ Below w.heap.size w w' := by
 have HS : Hid (Sl w v (ss l)) := hs
 have HSX : Hid (Sl w vx (ss x)) := hsx
 have HT : Hid (Sh w vt t) := ht
 have HG : Hid (Glob w) := hG
 have HF : Hid (Is.Four w a0 a1 a2 a3) := hF
 obtain ⟨ao0, cap0, rfl, hc0⟩ := hs.form
 obtain ⟨ao1, cap1, rfl, hc1⟩ := hsx.form
 obtain ⟨ao2, cap2, rfl, hc2⟩ := ht.form
 simp only [ss_len] at *
 clear hs hsx ht hG hF
 have B0 : Hid (Below w.heap.size w w) := Below.refl _ _
 obtain ⟨i9, hi9, hz9a, hz9b, hz9c⟩ := info_parts info9t
 obtain ⟨W1, HW1, b1, y1, hS1, r_a1, r_h1, r_res1⟩ := Ke.l3 w #[.slice ao0 l.length cap0, .int .i64 hd.n, .string hd.r] 28 #[.int .i64 h.n, .string h.r] 26 #[.slice none 0 0, .int .i64 0, .string ⟨#[]⟩] 28
 have z1 := b1.size
 have B1 := Ke.b B0 b1
 have hqA : ∀ W v1, Glob W → Sl W v1 (ss l) → _ := fun W v1 h0 h1 => logok_impl W v1 l hd h0 h1 (by omega) hz
 have hqO : ∀ W v1, Glob W → Sl W v1 (ss (l ++ x)) → _ := fun W v1 h0 h1 => logof_impl W v1 (l ++ x) h0 h1 (by rw [List.length_append]; omega) (size_app hz hzx)
 have hqH : ∀ W, _ := fun W => ok_impl W h hhr
 have hqS : ∀ W v1, Sh W v1 t → _ := fun W v1 h1 => signed_impl W v1 t h h1 (by omega)
 have hqT : ∀ W v1, Sl W v1 (ss l) → _ := fun W v1 h1 => Ed.texts_impl W v1 l h1 hl (fun s hs => by have := hz s hs; omega)
 have hqU : ∀ W v1, Sl W v1 (ss x) → _ := fun W v1 h1 => Ed.texts_impl W v1 x h1 hx (fun s hs => by have := hzx s hs; omega)
 have hall : ((l ++ x).length : Int) = ((l.length + x.length : Nat) : Int) := by rw [List.length_append]
 have HALL : Hid (((l ++ x).length : Int) = ((l.length + x.length : Nat) : Int)) := hall
 clear hall
 have hwr : IntKind.i64.wrap ((l.length : Int) + (x.length : Int)) = (l.length : Int) + (x.length : Int) := by rw [IntKind.wrap_i64]; omega
 obtain ⟨A, hA⟩ : ∃ A, logOk l hd = A := ⟨_, rfl⟩
 obtain ⟨C, hC⟩ : ∃ A, okH h = A := ⟨_, rfl⟩
 obtain ⟨D, hD⟩ : ∃ A, signed t h = A := ⟨_, rfl⟩
 obtain ⟨M, hM⟩ : ∃ A, headOf (l ++ x) = A := ⟨_, rfl⟩
 obtain ⟨E, hE⟩ : ∃ A, eqH h M = A := ⟨_, rfl⟩
 have hE2 : eqH M h = E := by
  rw [← hE]
  by_cases e9 : h = M
  ·rw [e9]
  ·have e8 : ¬ eqH h M = true := fun q => e9 ((eqH_iff _ _).1 q)
   have e7 : ¬ eqH M h = true := fun q => e9 ((eqH_iff _ _).1 q).symm
   rw [Bool.not_eq_true] at e8 e7
   rw [e8, e7]
 have e1 : ∀ W, _ := fun W => neqH W M h
 have e2 : ∀ W op y z xs ys, _ := fun W op y z xs ys => grdH W op y z xs ys
 simp only [hA] at hqA
 simp only [hC] at hqH
 simp only [hD] at hqS
 simp only [hM] at hqO
 simp only [hE2] at e1
 have HA : Hid (logOk l hd = A) := hA
 have HC : Hid (okH h = C) := hC
 have HD : Hid (signed t h = D) := hD
 have HE : Hid (eqH h (headOf (l ++ x)) = E) := by show _ = _; rw [hM]; exact hE
 have HM : Hid (headOf (l ++ x) = M) := hM
 clear hA hC hD hM hE hE2 hz hzx hhr
 obtain ⟨R, hR⟩ : ∃ R, extend l hd t h x = R := ⟨_, rfl⟩
 have HR : Hid (extend l hd t h x = R) := hR
 rw [hR]
 clear hR
 have hg0 := globLt HF.out.1
 have hg1 := globLt HF.out.2.1
 have hg2 := globLt HF.out.2.2.1
 have hg3 := globLt HF.out.2.2.2.1
 go_enter Tryz.func148, Tryz.ntmps148
 go_wp2_with fail
 rw [HW1.out]
 refine (hqA W1 _ (HG.out.later B1.out) (HS.out.later B1.out)).mono ?_
 rintro e W2 ⟨rfl, b2⟩
 have z2 := b2.size
 have B2 := Ke.b B1 b2
 have r_a2 := Ke.r r_a1 b2
 have r_h2 := Ke.r r_h1 b2
 have r_res2 := Ke.r r_res1 b2
 have c_h2 := Ke.c r_h2
 clear r_a1 r_h1 r_res1
 cases A
 ·have hA := HA.out
  have HN : Hid (R = (l, hd, 1)) := by show _ = _; rw [← HR.out]; exact extend1 (fun hk => by rw [hA] at hk; exact absurd hk.1 (by simp)) t
  go_wp2_with fail
  have cg : W2.cell? ⟨1, 0, none⟩ = some (.iface 238 (.pointer (some a0))) := (HF.out.later B2.out).1.1
  refine wp_region_held_drew (S := fun w' => w'.cell? ⟨w.heap.size + 1, 0, none⟩ = some (.int .i64 h.n) ∧ w'.cell? ⟨w.heap.size + 1, 1, none⟩ = some (.string h.r) ∧ w'.cell? ⟨1, 0, none⟩ = some (.iface 238 (.pointer (some a0)))) (by kernel_rfl) ⟨(c_h2 0), (c_h2 1), cg⟩ (fun hHeld => ?_)
  refine Ke.q 0 ?_; try simp only [Act.put, pq]
  refine Ke.q 1 ?_; try simp only [Act.put, pq]
  refine Ke.q 2 ?_; try simp only [Act.put, pq]
  refine Ke.q 3 ?_; try simp only [Act.put, pq]
  refine Ke.q 4 ?_; try simp only [Act.put, pq]
  refine Ke.z 5 rfl (fun K hK => ?_)
  rw [if_pos (by rfl)]
  refine wp_store_row 28 _ _ rfl (w.heap.size + 1 + 1) (lc (.slice none 0 0) hd0) rfl rfl 28 _ r_res2.out (sizeL _ _) rfl (oneL _ rfl) ?_
  refine hK.out _ _ ⟨(cell_row (by show w.heap.size + 1 ≠ w.heap.size + 1 + 1; omega) hHeld.1), (cell_row (by show w.heap.size + 1 ≠ w.heap.size + 1 + 1; omega) hHeld.2.1), (cell_row (by show 1 ≠ w.heap.size + 1 + 1; omega) hHeld.2.2)⟩ (fun hHeld => ?_)
  clear hK K
  try simp only [Act.put, pq]
  refine Ke.q 6 ?_; try simp only [Act.put, pq]
  refine wpAnyH_done (by kernel_rfl) ?_ _
  clear hHeld
  go_wp2
  refine bodyPost_ret (res_row_tmp rfl _ _ (w.heap.size + 1 + 1) 28 (lc (.slice none 0 0) hd0) (0, 0) _ rfl (setRow_heap _ _ _ _ _ (0, 0) r_res2.out) Tryz.underlying28 rfl (sizeL _ _)) rfl ⟨Or.inl ⟨1, a0, ?_, HN.out, rfl⟩, below_setRow (Below.drew B2.out) (by omega) _⟩
  unfold why
  simp
 ·go_wp2_with fail
  refine (hqH W2).mono ?_
  rintro e W3 ⟨rfl, b3⟩
  have z3 := b3.size
  have B3 := Ke.b B2 b3
  have r_a3 := Ke.r r_a2 b3
  have r_h3 := Ke.r r_h2 b3
  have r_res3 := Ke.r r_res2 b3
  have c_a3 := Ke.c r_a3
  have c_h3 := Ke.c r_h3
  clear r_a2 r_h2 c_h2 r_res2
  cases C
  ·have hC := HC.out
   have HN : Hid (R = (l, hd, 1)) := by show _ = _; rw [← HR.out]; exact extend1 (fun hk => by rw [hC] at hk; exact absurd hk.2.1 (by simp)) t
   go_wp2_with fail
   have cg : W3.cell? ⟨1, 0, none⟩ = some (.iface 238 (.pointer (some a0))) := (HF.out.later B3.out).1.1
   refine wp_region_held_drew (S := fun w' => w'.cell? ⟨w.heap.size + 1, 0, none⟩ = some (.int .i64 h.n) ∧ w'.cell? ⟨w.heap.size + 1, 1, none⟩ = some (.string h.r) ∧ w'.cell? ⟨1, 0, none⟩ = some (.iface 238 (.pointer (some a0)))) (by kernel_rfl) ⟨(c_h3 0), (c_h3 1), cg⟩ (fun hHeld => ?_)
   refine Ke.q 0 ?_; try simp only [Act.put, pq]
   refine Ke.q 1 ?_; try simp only [Act.put, pq]
   refine Ke.q 2 ?_; try simp only [Act.put, pq]
   refine Ke.q 3 ?_; try simp only [Act.put, pq]
   refine Ke.q 4 ?_; try simp only [Act.put, pq]
   refine Ke.z 5 rfl (fun K hK => ?_)
   rw [if_pos (by rfl)]
   refine wp_store_row 28 _ _ rfl (w.heap.size + 1 + 1) (lc (.slice none 0 0) hd0) rfl rfl 28 _ r_res3.out (sizeL _ _) rfl (oneL _ rfl) ?_
   refine hK.out _ _ ⟨(cell_row (by show w.heap.size + 1 ≠ w.heap.size + 1 + 1; omega) hHeld.1), (cell_row (by show w.heap.size + 1 ≠ w.heap.size + 1 + 1; omega) hHeld.2.1), (cell_row (by show 1 ≠ w.heap.size + 1 + 1; omega) hHeld.2.2)⟩ (fun hHeld => ?_)
   clear hK K
   try simp only [Act.put, pq]
   refine Ke.q 6 ?_; try simp only [Act.put, pq]
   refine wpAnyH_done (by kernel_rfl) ?_ _
   clear hHeld
   go_wp2
   refine bodyPost_ret (res_row_tmp rfl _ _ (w.heap.size + 1 + 1) 28 (lc (.slice none 0 0) hd0) (0, 0) _ rfl (setRow_heap _ _ _ _ _ (0, 0) r_res3.out) Tryz.underlying28 rfl (sizeL _ _)) rfl ⟨Or.inl ⟨1, a0, ?_, HN.out, rfl⟩, below_setRow (Below.drew B3.out) (by omega) _⟩
   unfold why
   simp
  ·by_cases hn : h.n = (l.length : Int) + (x.length : Int)
   ·have HK : Hid (logOk l hd = true ∧ okH h = true ∧ h.n = ((l ++ x).length : Int)) := ⟨HA.out, HC.out, by rw [HALL.out, hn]; omega⟩
    have nn : (h.n != (l.length : Int) + (x.length : Int)) = false := by simp [hn]
    have ne : (h.n == (l.length : Int) + (x.length : Int)) = true := by simp [hn]
    clear hn
    go_wp2_with fail
    refine (hqS W3 _ (HT.out.later B3.out)).mono ?_
    rintro e W4 ⟨rfl, b4⟩
    have z4 := b4.size
    have B4 := Ke.b B3 b4
    have r_a4 := Ke.r r_a3 b4
    have r_h4 := Ke.r r_h3 b4
    have r_res4 := Ke.r r_res3 b4
    have c_a4 := Ke.c r_a4
    have c_h4 := Ke.c r_h4
    clear r_a3 c_a3 r_h3 c_h3 r_res3
    cases D
    ·have HN : Hid (R = (l, hd, 2)) := by show _ = _; rw [← HR.out]; exact extend2 HK.out HD.out
     go_wp2_with fail
     have cg : W4.cell? ⟨2, 0, none⟩ = some (.iface 238 (.pointer (some a1))) := (HF.out.later B4.out).2.1.1
     refine wp_region_held_drew (S := fun w' => w'.cell? ⟨w.heap.size + 1, 0, none⟩ = some (.int .i64 h.n) ∧ w'.cell? ⟨w.heap.size + 1, 1, none⟩ = some (.string h.r) ∧ w'.cell? ⟨2, 0, none⟩ = some (.iface 238 (.pointer (some a1)))) (by kernel_rfl) ⟨(c_h4 0), (c_h4 1), cg⟩ (fun hHeld => ?_)
     refine Ke.q 0 ?_; try simp only [Act.put, pq]
     refine Ke.q 1 ?_; try simp only [Act.put, pq]
     refine Ke.q 2 ?_; try simp only [Act.put, pq]
     refine Ke.q 3 ?_; try simp only [Act.put, pq]
     refine Ke.q 4 ?_; try simp only [Act.put, pq]
     refine Ke.z 5 rfl (fun K hK => ?_)
     rw [if_pos (by rfl)]
     refine wp_store_row 28 _ _ rfl (w.heap.size + 1 + 1) (lc (.slice none 0 0) hd0) rfl rfl 28 _ r_res4.out (sizeL _ _) rfl (oneL _ rfl) ?_
     refine hK.out _ _ ⟨(cell_row (by show w.heap.size + 1 ≠ w.heap.size + 1 + 1; omega) hHeld.1), (cell_row (by show w.heap.size + 1 ≠ w.heap.size + 1 + 1; omega) hHeld.2.1), (cell_row (by show 2 ≠ w.heap.size + 1 + 1; omega) hHeld.2.2)⟩ (fun hHeld => ?_)
     clear hK K
     try simp only [Act.put, pq]
     refine Ke.q 6 ?_; try simp only [Act.put, pq]
     refine wpAnyH_done (by kernel_rfl) ?_ _
     clear hHeld
     go_wp2
     refine bodyPost_ret (res_row_tmp rfl _ _ (w.heap.size + 1 + 1) 28 (lc (.slice none 0 0) hd0) (0, 0) _ rfl (setRow_heap _ _ _ _ _ (0, 0) r_res4.out) Tryz.underlying28 rfl (sizeL _ _)) rfl ⟨Or.inl ⟨2, a1, ?_, HN.out, rfl⟩, below_setRow (Below.drew B4.out) (by omega) _⟩
     unfold why
     simp
    ·by_cases hx0 : x.length = 0
     ·have gx : (x.length : Int) = 0 := by omega
      have HX0 : Hid (x.length = 0) := hx0
      clear hx0
      have HN : Hid (R = (l, hd, 3)) := by show _ = _; rw [← HR.out]; exact extend3 HK.out HD.out HX0.out
      go_wp2_with fail
      have cg : W4.cell? ⟨3, 0, none⟩ = some (.iface 238 (.pointer (some a2))) := (HF.out.later B4.out).2.2.1.1
      refine wp_region_held_drew (S := fun w' => w'.cell? ⟨w.heap.size + 1, 0, none⟩ = some (.int .i64 h.n) ∧ w'.cell? ⟨w.heap.size + 1, 1, none⟩ = some (.string h.r) ∧ w'.cell? ⟨3, 0, none⟩ = some (.iface 238 (.pointer (some a2)))) (by kernel_rfl) ⟨(c_h4 0), (c_h4 1), cg⟩ (fun hHeld => ?_)
      refine Ke.q 0 ?_; try simp only [Act.put, pq]
      refine Ke.q 1 ?_; try simp only [Act.put, pq]
      refine Ke.q 2 ?_; try simp only [Act.put, pq]
      refine Ke.q 3 ?_; try simp only [Act.put, pq]
      refine Ke.q 4 ?_; try simp only [Act.put, pq]
      refine Ke.z 5 rfl (fun K hK => ?_)
      rw [if_pos (by rfl)]
      refine wp_store_row 28 _ _ rfl (w.heap.size + 1 + 1) (lc (.slice none 0 0) hd0) rfl rfl 28 _ r_res4.out (sizeL _ _) rfl (oneL _ rfl) ?_
      refine hK.out _ _ ⟨(cell_row (by show w.heap.size + 1 ≠ w.heap.size + 1 + 1; omega) hHeld.1), (cell_row (by show w.heap.size + 1 ≠ w.heap.size + 1 + 1; omega) hHeld.2.1), (cell_row (by show 3 ≠ w.heap.size + 1 + 1; omega) hHeld.2.2)⟩ (fun hHeld => ?_)
      clear hK K
      try simp only [Act.put, pq]
      refine Ke.q 6 ?_; try simp only [Act.put, pq]
      refine wpAnyH_done (by kernel_rfl) ?_ _
      clear hHeld
      go_wp2
      refine bodyPost_ret (res_row_tmp rfl _ _ (w.heap.size + 1 + 1) 28 (lc (.slice none 0 0) hd0) (0, 0) _ rfl (setRow_heap _ _ _ _ _ (0, 0) r_res4.out) Tryz.underlying28 rfl (sizeL _ _)) rfl ⟨Or.inl ⟨3, a2, ?_, HN.out, rfl⟩, below_setRow (Below.drew B4.out) (by omega) _⟩
      unfold why
      simp
     ·have gx : ¬ (x.length : Int) = 0 := by omega
      go_wp2_with fail
      refine (hqT W4 _ (HS.out.later B4.out)).mono ?_
      rintro e W5 ⟨v_p, rfl, o_p5, b5⟩
      obtain ⟨ao_p, L_p, cap_p, rfl, hL_p, hM_p⟩ := o_p5.form
      have o_p5 : Hid (Own W5 W4.heap.size W5.heap.size 9 (.slice ao_p L_p cap_p) (ss l)) := o_p5
      clear hL_p hM_p
      have z5 := b5.size
      have B5 := Ke.b B4 b5
      have r_h5 := Ke.r r_h4 b5
      have r_res5 := Ke.r r_res4 b5
      clear r_a4 c_a4 r_h4 c_h4 r_res4
      go_wp2_with fail
      refine (hqU W5 _ (HSX.out.later B5.out)).mono ?_
      rintro e W6 ⟨v_q, rfl, o_q6, b6⟩
      obtain ⟨ao_q, L_q, cap_q, rfl, hL_q, hM_q⟩ := o_q6.form
      have o_q6 : Hid (Own W6 W5.heap.size W6.heap.size 9 (.slice ao_q L_q cap_q) (ss x)) := o_q6
      clear hL_q hM_q
      have z6 := b6.size
      have B6 := Ke.b B5 b6
      have r_h6 := Ke.r r_h5 b6
      have r_res6 := Ke.r r_res5 b6
      have o_p6 := Ke.o o_p5 b6
      clear r_h5 r_res5 o_p5
      have c6_7 : (ss l).length + (ss x).length ≤ maxLen := by rw [ss_len, ss_len]; unfold maxLen; (try simp only [List.length_nil]); omega
      have c7_7 : ((ss l).length + (ss x).length) * 16 ≤ 140737488355328 := by rw [ss_len, ss_len]; (try simp only [List.length_nil]); omega
      have sE7 : Hid (Sl W6 _ (ss x)) := o_q6.out.sl
      go_wp2_with (at_builtin; go_must (refine wpl_app _ rfl (.tmp 54) (.tmp 56) 24 rfl 9 i9 (.string ⟨#[]⟩) 16 Tryz.underlying24 hi9 hz9a hz9b hz9c rfl (W4.heap.size) _ (ss l) rfl (Own.mono o_p6.out (Nat.le_refl _) (by omega)) _ rfl (ss x) sE7.out (ss_one x) c6_7 c7_7 (by omega) ?_))
      intro v_all W7 o_all7 _ g7
      have o_all7 : Own W7 (W4.heap.size) W7.heap.size 9 v_all (ss (l ++ x)) := by show Own _ _ _ _ _ _; rw [ss_app]; exact o_all7
      have o_all7h : Hid (Own W7 (W4.heap.size) W7.heap.size 9 v_all (ss (l ++ x))) := o_all7
      clear o_all7
      have o_all7 := o_all7h
      clear o_all7h
      obtain ⟨ao_all, L_all, cap_all, rfl, _, _⟩ := Mem.Own.form o_all7.out
      have z7 := g7.size
      have B7 : Hid (Below w.heap.size w W7) := belowGro B6.out g7 B6.out.size (Own.low o_p6.out (by have := B6.out.size; omega))
      have r_h7 := Ke.n r_h6 o_p6 g7
      have r_res7 := Ke.n r_res6 o_p6 g7
      clear r_h6 r_res6 o_p6 o_q6
      clear g7 sE7 c6_7 c7_7
      go_wp2_with fail
      refine (hqO W7 _ (HG.out.later B7.out) o_all7.out.sl).mono ?_
      rintro e W8 ⟨rfl, b8⟩
      have z8 := b8.size
      have B8 := Ke.b B7 b8
      have r_h8 := Ke.r r_h7 b8
      have r_res8 := Ke.r r_res7 b8
      have o_all8 := Ke.o o_all7 b8
      have c_h8 := Ke.c r_h8
      clear r_h7 r_res7 o_all7
      have a_h8 := Ke.a r_h8
      obtain ⟨W9, HW9, b9, y9, hS9, r_new9⟩ := Ke.l1 W8 #[.slice ao_all L_all cap_all, .int .i64 M.n, .string M.r] 28
      have z9 := b9.size
      have B9 := Ke.b B8 b9
      have r_h9 := Ke.r r_h8 b9
      have r_res9 := Ke.r r_res8 b9
      have o_all9 := Ke.o o_all8 b9
      have c_h9 := Ke.c r_h9
      clear r_h8 c_h8 r_res8 o_all8
      cases E
      ·have HN : Hid (R = (l, hd, 4)) := by show _ = _; rw [← HR.out]; exact extend4 HK.out HD.out hx0 HE.out
       go_wp2_with fail
       rw [HW9.out]
       clear a_h8
       have cg : W9.cell? ⟨4, 0, none⟩ = some (.iface 238 (.pointer (some a3))) := (HF.out.later B9.out).2.2.2.1.1
       refine wp_region_held_drew (S := fun w' => w'.cell? ⟨w.heap.size + 1, 0, none⟩ = some (.int .i64 h.n) ∧ w'.cell? ⟨w.heap.size + 1, 1, none⟩ = some (.string h.r) ∧ w'.cell? ⟨4, 0, none⟩ = some (.iface 238 (.pointer (some a3)))) (by kernel_rfl) ⟨(c_h9 0), (c_h9 1), cg⟩ (fun hHeld => ?_)
       refine Ke.q 0 ?_; try simp only [Act.put, pq]
       refine Ke.q 1 ?_; try simp only [Act.put, pq]
       refine Ke.q 2 ?_; try simp only [Act.put, pq]
       refine Ke.q 3 ?_; try simp only [Act.put, pq]
       refine Ke.q 4 ?_; try simp only [Act.put, pq]
       refine Ke.z 5 rfl (fun K hK => ?_)
       rw [if_pos (by rfl)]
       refine wp_store_row 28 _ _ rfl (w.heap.size + 1 + 1) (lc (.slice none 0 0) hd0) rfl rfl 28 _ r_res9.out (sizeL _ _) rfl (oneL _ rfl) ?_
       refine hK.out _ _ ⟨(cell_row (by show w.heap.size + 1 ≠ w.heap.size + 1 + 1; omega) hHeld.1), (cell_row (by show w.heap.size + 1 ≠ w.heap.size + 1 + 1; omega) hHeld.2.1), (cell_row (by show 4 ≠ w.heap.size + 1 + 1; omega) hHeld.2.2)⟩ (fun hHeld => ?_)
       clear hK K
       try simp only [Act.put, pq]
       refine Ke.q 6 ?_; try simp only [Act.put, pq]
       refine wpAnyH_done (by kernel_rfl) ?_ _
       clear hHeld
       go_wp2
       refine bodyPost_ret (res_row_tmp rfl _ _ (w.heap.size + 1 + 1) 28 (lc (.slice none 0 0) hd0) (0, 0) _ rfl (setRow_heap _ _ _ _ _ (0, 0) r_res9.out) Tryz.underlying28 rfl (sizeL _ _)) rfl ⟨Or.inl ⟨4, a3, ?_, HN.out, rfl⟩, below_setRow (Below.drew B9.out) (by omega) _⟩
       unfold why
       simp
      ·have HN : Hid (R = (l ++ x, h, 0)) := by show _ = _; rw [← HR.out]; exact extend0 HK.out HD.out hx0 HE.out
       have hMh : M = h := by
        have h9 := (eqH_iff _ _).1 HE.out
        rw [HM.out] at h9
        exact h9.symm
       subst hMh
       go_wp2_with (first | ((try rw [HW9.out]); refine wpList_load_row rfl 28 _ rfl (W8.heap.size) rfl 28 (lc (.slice ao_all L_all cap_all) M) (0, 0) _ r_new9.out Tryz.underlying28 rfl (sizeL _ _) ?_) | (refine wpList_store_row rfl 28 _ _ rfl (w.heap.size + 1 + 1) (lc (.slice ao_all L_all cap_all) M) rfl rfl 28 _ r_res9.out (sizeL _ _) rfl (oneL _ rfl) ?_))
       refine bodyPost_ret (res_row_tmp rfl _ _ (w.heap.size + 1 + 1) 28 (lc (.slice ao_all L_all cap_all) M) (0, 0) _ rfl (setRow_heap _ _ _ _ _ (0, 0) r_res9.out) Tryz.underlying28 rfl (sizeL _ _)) rfl ⟨Or.inr ⟨.slice ao_all L_all cap_all, HN.out, rfl, ?_⟩, below_setRow B9.out (by omega) _⟩
       exact (Own.setRow o_all9.out _ (by omega)).mono (by omega) (by rw [size_setRow]; omega)
   ·have nn : (h.n != (l.length : Int) + (x.length : Int)) = true := by simp [hn]
    have ne : (h.n == (l.length : Int) + (x.length : Int)) = false := by simp [hn]
    have HN : Hid (R = (l, hd, 1)) := by show _ = _; rw [← HR.out]; exact extend1 (fun hk => hn (by rw [hk.2.2, HALL.out]; omega)) t
    go_wp2_with fail
    have cg : W3.cell? ⟨1, 0, none⟩ = some (.iface 238 (.pointer (some a0))) := (HF.out.later B3.out).1.1
    refine wp_region_held_drew (S := fun w' => w'.cell? ⟨w.heap.size + 1, 0, none⟩ = some (.int .i64 h.n) ∧ w'.cell? ⟨w.heap.size + 1, 1, none⟩ = some (.string h.r) ∧ w'.cell? ⟨1, 0, none⟩ = some (.iface 238 (.pointer (some a0)))) (by kernel_rfl) ⟨(c_h3 0), (c_h3 1), cg⟩ (fun hHeld => ?_)
    refine Ke.q 0 ?_; try simp only [Act.put, pq]
    refine Ke.q 1 ?_; try simp only [Act.put, pq]
    refine Ke.q 2 ?_; try simp only [Act.put, pq]
    refine Ke.q 3 ?_; try simp only [Act.put, pq]
    refine Ke.q 4 ?_; try simp only [Act.put, pq]
    refine Ke.z 5 rfl (fun K hK => ?_)
    rw [if_pos (by rfl)]
    refine wp_store_row 28 _ _ rfl (w.heap.size + 1 + 1) (lc (.slice none 0 0) hd0) rfl rfl 28 _ r_res3.out (sizeL _ _) rfl (oneL _ rfl) ?_
    refine hK.out _ _ ⟨(cell_row (by show w.heap.size + 1 ≠ w.heap.size + 1 + 1; omega) hHeld.1), (cell_row (by show w.heap.size + 1 ≠ w.heap.size + 1 + 1; omega) hHeld.2.1), (cell_row (by show 1 ≠ w.heap.size + 1 + 1; omega) hHeld.2.2)⟩ (fun hHeld => ?_)
    clear hK K
    try simp only [Act.put, pq]
    refine Ke.q 6 ?_; try simp only [Act.put, pq]
    refine wpAnyH_done (by kernel_rfl) ?_ _
    clear hHeld
    go_wp2
    refine bodyPost_ret (res_row_tmp rfl _ _ (w.heap.size + 1 + 1) 28 (lc (.slice none 0 0) hd0) (0, 0) _ rfl (setRow_heap _ _ _ _ _ (0, 0) r_res3.out) Tryz.underlying28 rfl (sizeL _ _)) rfl ⟨Or.inl ⟨1, a0, ?_, HN.out, rfl⟩, below_setRow (Below.drew B3.out) (by omega) _⟩
    unfold why
    simp
end Go.Proofs.YtchonoonclllbaaGreatDoor.Lg
