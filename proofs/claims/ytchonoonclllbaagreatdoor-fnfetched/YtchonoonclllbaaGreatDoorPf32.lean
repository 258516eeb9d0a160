/- Texts in one: Mj8. -/
import Derived.Test.YtchonoonclllbaaGreatDoorPf31
namespace Go.Proofs.YtchonoonclllbaaGreatDoor.Mi
open Go.RowKit Go.Proofs.YtchonoonclllbaaGreatDoor.Mem Go.Proofs.YtchonoonclllbaaGreatDoor.Laws Go.Proofs.YtchonoonclllbaaGreatDoor.Bytes Go.Proofs.YtchonoonclllbaaGreatDoor.Sha Go.Proofs.YtchonoonclllbaaGreatDoor.Tr Go.Proofs.YtchonoonclllbaaGreatDoor.He Go.Proofs.YtchonoonclllbaaGreatDoor.Lg Go.Proofs.YtchonoonclllbaaGreatDoor.Sr Go.Proofs.YtchonoonclllbaaGreatDoor.Mg
set_option linter.unusedVariables false
set_option linter.unusedSimpArgs false
theorem takes_commitQ {m : Mr} {t : List Hd} {q : Ms} {S : Sto} {c : Int} (hok : msgOk q = true) (hk : q.k = 3) (hC : commitQ m.st t q.h q.x = (S, c)) : takes m t q = if q.n = (m.st.l.length : Int) ∧ c = 0 then better ⟨m.id, S, m.b⟩ q.h else m := by
 have h1 := msg_parts hok
 have h2 := h1.2.2.2.2.2
 unfold Mg.kindOk at h2
 rw [if_neg (by rw [hk]; decide), if_neg (by rw [hk]; decide), if_pos hk] at h2
 simp only [Bool.and_eq_true, decide_eq_true_eq] at h2
 have hp : putC q.h q.x = put q.h q.x := putC_yes h1.2.2.2.1 (by omega) (by have := msg_len hok; omega)
 unfold commitQ at hC
 rw [hp] at hC
 unfold takes
 split at hC
 ·
  rename_i h6
  have e1 : (commit1 m.st t q.h q.x).1 = S := by rw [hC]
  have e2 : (commit1 m.st t q.h q.x).2 = c := by rw [hC]
  rw [e1, e2]
  by_cases hn : q.n = (m.st.l.length : Int) ∧ c = 0
  ·
   rw [if_pos ⟨hn.1, h6, hn.2⟩, if_pos hn]
  ·
   rw [if_neg (fun h => hn ⟨h.1, h.2.2⟩), if_neg hn]
 ·
  rename_i h6
  injection hC with e1 e2
  subst e2
  rw [if_neg (fun h => h6 h.2.1), if_neg (fun h => by cases h.2)]
set_option maxRecDepth 1000000 in
set_option maxHeartbeats 16000000 in
theorem heartexts_impl (w : World) (lo : Nat) (v vb vt vx : Value) (m : Mr) (t : List Hd) (q : Ms) {a0 a1 a2 a3 : Addr} (hG : Glob w) (hF : Is.Four w a0 a1 a2 a3) (hlo : lo ≤ w.heap.size) (h9 : Own w lo w.heap.size 9 v (ss m.st.l)) (h5 : Own w lo w.heap.size 5 vb (bs m.st.b)) (hst : Sh w vt t) (hx : Sl w vx (ss q.x)) (hl : m.st.l.length ≤ 1000000000) (hbl : m.st.b.length ≤ 1000000000) (htl : t.length ≤ 1000000000) (hxl : q.x.length ≤ 1000000000) (hz : ∀ s ∈ m.st.l, s.size ≤ 10000000000) (hzx : ∀ s ∈ q.x, s.size ≤ 10000000000) (htx : Puts.tot q.x ≤ 100000000000) (hdr : q.h.r.size ≤ 100000000000) (hhr : m.st.h.r.size ≤ 1000000000000) (hgr : m.b.r.size ≤ 1000000000000) (hok : msgOk q = true) (hti : q.t = m.id) (hk : q.k = 3) :
  Calls Tryz.prog 89 #[.agg #[.int .i64 m.id, v, .int .i64 m.st.h.n, .string m.st.h.r, vb, .int .i64 m.st.s, .int .i64 m.b.n, .string m.b.r], vt, .agg #[.int .i64 q.k, .int .i64 q.f, .int .i64 q.t, .int .i64 q.h.n, .string q.h.r, .int .i64 q.n, vx]] w fun e w' => ∃ v' vb' vq mid, e = .returned (.tuple #[.agg #[.int .i64 (hear1 m t q).1.id, v', .int .i64 (hear1 m t q).1.st.h.n, .string (hear1 m t q).1.st.h.r, vb', .int .i64 (hear1 m t q).1.st.s, .int .i64 (hear1 m t q).1.b.n, .string (hear1 m t q).1.b.r], vq]) ∧ w.heap.size ≤ mid ∧ mid ≤ w'.heap.size ∧ Own w' lo mid 9 v' (ss (hear1 m t q).1.st.l) ∧ Own w' lo mid 5 vb' (bs (hear1 m t q).1.st.b) ∧ Om w' mid w'.heap.size vq (hear1 m t q).2 ∧ Below w.heap.size w w' := by
 obtain ⟨R, hR⟩ : ∃ R, hear1 m t q = R := ⟨_, rfl⟩
 have HR : Hid (hear1 m t q = R) := hR
 rw [hR]
 obtain ⟨id, ⟨l, h, b, s⟩, g⟩ := m
 obtain ⟨k, f, tt, hq, n, x⟩ := q
 simp only at *
 have HOK : Hid (msgOk ⟨k, f, tt, hq, n, x⟩ = true) := hok
 have HTI : Hid (tt = id) := hti
 have HK : Hid (k = 3) := hk
 have HS : Hid (Sl w v (ss l)) := h9.sl
 have HSB : Hid (Sl w vb (bs b)) := h5.sl
 have HT : Hid (Sh w vt t) := hst
 have HX : Hid (Sl w vx (ss x)) := hx
 have HG : Hid (Glob w) := hG
 have HF : Hid (Is.Four w a0 a1 a2 a3) := hF
 obtain ⟨ao2, cap2, rfl, hc2⟩ := hst.form
 obtain ⟨ao3, cap3, rfl, hc3⟩ := hx.form
 obtain ⟨ao_v, L_v, cap_v, rfl, hv1, hv2⟩ := Mem.Own.form h9
 obtain ⟨ao_p, L_p, cap_p, rfl, hp1, hp2⟩ := Mem.Own.form h5
 simp only [ss_len, bs_len] at *
 obtain rfl : L_v = l.length := by omega
 obtain rfl : L_p = b.length := by omega
 have o_v0 : Hid (Own w lo w.heap.size 9 (.slice ao_v l.length cap_v) (ss l)) := h9
 have o_p0 : Hid (Own w lo w.heap.size 5 (.slice ao_p b.length cap_p) (bs b)) := h5
 clear hst hx hR h9 h5 hv1 hv2 hp1 hp2 hok hti hk hG hF
 have B0 : Hid (Below w.heap.size w w) := Below.refl _ _
 obtain ⟨W1, HW1, b1, y1, hS1, r_a1, r_q1, r_res1⟩ := Ke.l3 w #[.int .i64 id, .slice ao_v l.length cap_v, .int .i64 h.n, .string h.r, .slice ao_p b.length cap_p, .int .i64 s, .int .i64 g.n, .string g.r] 32 #[.int .i64 k, .int .i64 f, .int .i64 tt, .int .i64 hq.n, .string hq.r, .int .i64 n, .slice ao3 x.length cap3] 35 #[.int .i64 0, .slice none 0 0, .int .i64 0, .string ⟨#[]⟩, .slice none 0 0, .int .i64 0, .int .i64 0, .string ⟨#[]⟩] 32
 have z1 := b1.size
 have B1 := Ke.b B0 b1
 have o_v1 := Ke.o o_v0 b1
 have o_p1 := Ke.o o_p0 b1
 have c_a1 := Ke.c r_a1
 have c_q1 := Ke.c r_q1
 have c_res1 := Ke.c r_res1
 clear o_v0 o_p0
 have q1 : ∀ W v1 v2 v3 v4, Glob W → Is.Four W a0 a1 a2 a3 → Sl W v1 (ss l) → Sl W v2 (bs b) → Sh W v3 t → Sl W v4 (ss x) → _ := fun W v1 v2 v3 v4 hG hF h1 h2 h3 h4 => withc_impl W v1 v2 v3 v4 ⟨l, h, b, s⟩ t hq x hG hF h1 h2 h3 h4 hl hbl htl hxl hz hzx htx hdr hhr
 obtain ⟨Lx, Hx, Bx, Sx, c, hC⟩ : ∃ L H B S c, commitQ ⟨l, h, b, s⟩ t hq x = (⟨L, H, B, S⟩, c) := ⟨_, _, _, _, _, rfl⟩
 simp only [hC] at q1
 have HT3 : Hid (R = (takes ⟨id, ⟨l, h, b, s⟩, g⟩ t ⟨k, f, tt, hq, n, x⟩, [])) := by show _ = _; rw [← HR.out]; unfold hear1; simp only; rw [if_neg (by rw [HK.out]; decide), if_neg (by rw [HK.out]; decide)]
 have HTK : Hid (takes ⟨id, ⟨l, h, b, s⟩, g⟩ t ⟨k, f, tt, hq, n, x⟩ = if n = (l.length : Int) ∧ c = 0 then better ⟨id, ⟨Lx, Hx, Bx, Sx⟩, g⟩ hq else ⟨id, ⟨l, h, b, s⟩, g⟩) := takes_commitQ HOK.out HK.out hC
 clear HR hC
 go_enter Tryz.func89, Tryz.ntmps89
 by_cases hnl : n = (l.length : Int)
 ·
  have nq : (n != (l.length : Int)) = false := by simp [hnl]
  have HNL : Hid (n = (l.length : Int)) := hnl
  clear hnl
  go_wp2_with fail
  rw [HW1.out]
  refine (q1 W1 _ _ _ _ (HG.out.later B1.out) (HF.out.later B1.out) (HS.out.later B1.out) (HSB.out.later B1.out) (HT.out.later B1.out) (HX.out.later B1.out)).mono ?_
  rintro e W2 ⟨v_n, v_np, rfl, o_n2, o_np2, b2⟩
  obtain ⟨lo_n, hi_n, lo_np, hi_np, d1_n, d2_n, d3_n, d4_n, d5_n, d6_n, d7_n, oo_n, oo_np⟩ := Sr.pairN o_n2 o_np2 b2.size
  clear o_n2 o_np2
  obtain ⟨ao_n, L_n, cap_n, rfl, _, _⟩ := oo_n.form
  obtain ⟨ao_np, L_np, cap_np, rfl, _, _⟩ := oo_np.form
  have o_n2 : Hid (Own W2 lo_n hi_n 9 (.slice ao_n L_n cap_n) (ss Lx)) := oo_n
  have o_np2 : Hid (Own W2 lo_np hi_np 5 (.slice ao_np L_np cap_np) (bs Bx)) := oo_np
  clear oo_n oo_np
  have z2 := b2.size
  have B2 := Ke.b B1 b2
  have r_a2 := Ke.r r_a1 b2
  have r_q2 := Ke.r r_q1 b2
  have r_res2 := Ke.r r_res1 b2
  have o_v2 := Ke.o o_v1 b2
  have o_p2 := Ke.o o_p1 b2
  have c_a2 := Ke.c r_a2
  have c_q2 := Ke.c r_q2
  have c_res2 := Ke.c r_res2
  clear r_a1 c_a1 r_q1 c_q1 r_res1 c_res1 o_v1 o_p1
  have a_a2 := Ke.a r_a2
  have a_q2 := Ke.a r_q2
  have a_res2 := Ke.a r_res2
  obtain ⟨W3, HW3, b3, y3, hS3, r_st3⟩ := Ke.l1 W2 #[.slice ao_n L_n cap_n, .int .i64 Hx.n, .string Hx.r, .slice ao_np L_np cap_np, .int .i64 Sx] 30
  have z3 := b3.size
  have B3 := Ke.b B2 b3
  have r_a3 := Ke.r r_a2 b3
  have r_q3 := Ke.r r_q2 b3
  have r_res3 := Ke.r r_res2 b3
  have o_v3 := Ke.o o_v2 b3
  have o_p3 := Ke.o o_p2 b3
  have o_n3 := Ke.o o_n2 b3
  have o_np3 := Ke.o o_np2 b3
  have c_a3 := Ke.c r_a3
  have c_q3 := Ke.c r_q3
  have c_res3 := Ke.c r_res3
  have c_st3 := Ke.c r_st3
  clear r_a2 c_a2 r_q2 c_q2 r_res2 c_res2 o_v2 o_p2 o_n2 o_np2
  by_cases hc : c = 0
  ·
   have q2 : ∀ W v1 v2, Sl W v1 (ss Lx) → Sl W v2 (bs Bx) → _ := fun W v1 v2 h1 h2 => withbest_impl W v1 v2 ⟨id, ⟨Lx, Hx, Bx, Sx⟩, g⟩ hq (by omega) h1 h2
   simp only at q2
   obtain ⟨G, hG⟩ : ∃ G, (better ⟨id, ⟨Lx, Hx, Bx, Sx⟩, g⟩ hq).b = G := ⟨_, rfl⟩
   simp only [hG] at q2
   have HN : Hid (R = (⟨id, ⟨Lx, Hx, Bx, Sx⟩, G⟩, [])) := by
    show _ = _
    rw [HT3.out, HTK.out, if_pos ⟨HNL.out, hc⟩, ← hG]
    unfold better
    split <;> rfl
   clear hG
   subst hc
   go_wp2_with (first | ((try rw [HW3.out]); refine wpList_load_row rfl 30 _ rfl (W2.heap.size) rfl 30 (sc (.slice ao_n L_n cap_n) Hx (.slice ao_np L_np cap_np) Sx) (0, 0) _ r_st3.out Tryz.underlying30 rfl (sizeS _ _ _ _) ?_) | ((try rw [HW3.out]); refine wpl_partG rfl 30 _ _ rfl (w.heap.size) 1 (sc (.slice ao_n L_n cap_n) Hx (.slice ao_np L_np cap_np) Sx) rfl rfl [.int .i64 id, .slice ao_v l.length cap_v, .int .i64 h.n, .string h.r, .slice ao_p b.length cap_p, .int .i64 s, .int .i64 g.n, .string g.r] 32 r_a3.out (Nat.le_of_ble_eq_true rfl) (sizeS _ _ _ _) (oneS _ _ rfl rfl) [.int .i64 id, .slice ao_n L_n cap_n, .int .i64 Hx.n, .string Hx.r, .slice ao_np L_np cap_np, .int .i64 Sx, .int .i64 g.n, .string g.r] rfl ?_))
   intro W4 r_a4 g4
   clear a_a2 a_q2 a_res2
   have r_a4 : Hid (W4.heap[w.heap.size]? = some (.cells #[.int .i64 id, .slice ao_n L_n cap_n, .int .i64 Hx.n, .string Hx.r, .slice ao_np L_np cap_np, .int .i64 Sx, .int .i64 g.n, .string g.r] 32 (0, 0))) := r_a4
   have z4 := g4.size
   have B4 : Hid (Below w.heap.size w W4) := belowGro B3.out g4 B3.out.size (fun k9 h9 => by injection h9 with h9; have := B3.out.size; omega)
   have r_q4 := Ke.s r_q3 g4
   have r_res4 := Ke.s r_res3 g4
   have r_st4 := Ke.s r_st3 g4
   have o_v4 := Ke.t o_v3 r_a3 g4
   have o_p4 := Ke.t o_p3 r_a3 g4
   have o_n4 := Ke.t o_n3 r_a3 g4
   have o_np4 := Ke.t o_np3 r_a3 g4
   have c_a4 := Ke.c r_a4
   have c_q4 := Ke.c r_q4
   have c_res4 := Ke.c r_res4
   have c_st4 := Ke.c r_st4
   clear r_q3 c_q3 r_res3 c_res3 r_st3 c_st3 o_v3 o_p3 o_n3 o_np3
   clear r_a3 c_a3
   clear g4
   go_wp2_with fail
   refine (q2 W4 _ _ o_n4.out.sl o_np4.out.sl).mono ?_
   rintro e W5 ⟨rfl, b5⟩
   have z5 := b5.size
   have B5 := Ke.b B4 b5
   have r_a5 := Ke.r r_a4 b5
   have r_q5 := Ke.r r_q4 b5
   have r_res5 := Ke.r r_res4 b5
   have r_st5 := Ke.r r_st4 b5
   have o_v5 := Ke.o o_v4 b5
   have o_p5 := Ke.o o_p4 b5
   have o_n5 := Ke.o o_n4 b5
   have o_np5 := Ke.o o_np4 b5
   have c_a5 := Ke.c r_a5
   have c_q5 := Ke.c r_q5
   have c_res5 := Ke.c r_res5
   have c_st5 := Ke.c r_st5
   clear r_a4 c_a4 r_q4 c_q4 r_res4 c_res4 r_st4 c_st4 o_v4 o_p4 o_n4 o_np4
   go_wp2_with (refine wpList_store_row rfl 32 _ _ rfl (w.heap.size + 1 + 1) (mq id (.slice ao_n L_n cap_n) Hx (.slice ao_np L_np cap_np) Sx G) rfl rfl 32 _ r_res5.out (sizeQ _ _ _ _ _ _) rfl (oneQ _ _ _ _ rfl rfl) ?_)
   refine bodyPost_ret (res_row_tmp rfl _ _ (w.heap.size + 1 + 1) 32 (mq id (.slice ao_n L_n cap_n) Hx (.slice ao_np L_np cap_np) Sx G) (0, 0) _ rfl (setRow_heap _ _ _ _ _ (0, 0) r_res5.out) Tryz.underlying32 rfl (sizeQ _ _ _ _ _ _)) rfl ⟨.slice ao_n L_n cap_n, .slice ao_np L_np cap_np, _, W5.heap.size, by rw [HN.out]; rfl, ?_, ?_, ?_, ?_, ?_, below_setRow B5.out (by omega) _⟩
   ·
    omega
   ·
    rw [size_setRow]; omega
   ·
    rw [HN.out]
    exact (Own.setRow o_n5.out _ (by omega)).mono (by omega) (by omega)
   ·
    rw [HN.out]
    exact (Own.setRow o_np5.out _ (by omega)).mono (by omega) (by omega)
   ·
    rw [HN.out]
    exact Om.nil _ _ _ _ _
  ·
   have nc : (c != 0) = true := by simp [hc]
   have HN : Hid (R = (⟨id, ⟨l, h, b, s⟩, g⟩, [])) := by show _ = _; rw [HT3.out, HTK.out, if_neg (fun q => hc q.2)]
   go_wp2_with (first | ((try rw [HW3.out]); refine wpList_load_row rfl 32 _ rfl (w.heap.size) rfl 32 (mq id (.slice ao_v l.length cap_v) h (.slice ao_p b.length cap_p) s g) (0, 0) _ r_a3.out Tryz.underlying32 rfl (sizeQ _ _ _ _ _ _) ?_) | ((try rw [HW3.out]); refine wpList_store_row rfl 32 _ _ rfl (w.heap.size + 1 + 1) (mq id (.slice ao_v l.length cap_v) h (.slice ao_p b.length cap_p) s g) rfl rfl 32 _ r_res3.out (sizeQ _ _ _ _ _ _) rfl (oneQ _ _ _ _ rfl rfl) ?_))
   refine bodyPost_ret (res_row_tmp rfl _ _ (w.heap.size + 1 + 1) 32 (mq id (.slice ao_v l.length cap_v) h (.slice ao_p b.length cap_p) s g) (0, 0) _ rfl (setRow_heap _ _ _ _ _ (0, 0) r_res3.out) Tryz.underlying32 rfl (sizeQ _ _ _ _ _ _)) rfl ⟨.slice ao_v l.length cap_v, .slice ao_p b.length cap_p, _, w.heap.size, by rw [HN.out]; rfl, ?_, ?_, ?_, ?_, ?_, below_setRow B3.out (by omega) _⟩
   ·
    omega
   ·
    rw [size_setRow]; omega
   ·
    rw [HN.out]
    exact (Own.setRow o_v3.out _ (by omega)).mono (by omega) (by omega)
   ·
    rw [HN.out]
    exact (Own.setRow o_p3.out _ (by omega)).mono (by omega) (by omega)
   ·
    rw [HN.out]
    exact Om.nil _ _ _ _ _
 ·
  have nq : (n != (l.length : Int)) = true := by simp [hnl]
  have HN : Hid (R = (⟨id, ⟨l, h, b, s⟩, g⟩, [])) := by show _ = _; rw [HT3.out, HTK.out, if_neg (fun q => hnl q.1)]
  go_wp2_with (first | ((try rw [HW1.out]); refine wpList_load_row rfl 32 _ rfl (w.heap.size) rfl 32 (mq id (.slice ao_v l.length cap_v) h (.slice ao_p b.length cap_p) s g) (0, 0) _ r_a1.out Tryz.underlying32 rfl (sizeQ _ _ _ _ _ _) ?_) | ((try rw [HW1.out]); refine wpList_store_row rfl 32 _ _ rfl (w.heap.size + 1 + 1) (mq id (.slice ao_v l.length cap_v) h (.slice ao_p b.length cap_p) s g) rfl rfl 32 _ r_res1.out (sizeQ _ _ _ _ _ _) rfl (oneQ _ _ _ _ rfl rfl) ?_))
  refine bodyPost_ret (res_row_tmp rfl _ _ (w.heap.size + 1 + 1) 32 (mq id (.slice ao_v l.length cap_v) h (.slice ao_p b.length cap_p) s g) (0, 0) _ rfl (setRow_heap _ _ _ _ _ (0, 0) r_res1.out) Tryz.underlying32 rfl (sizeQ _ _ _ _ _ _)) rfl ⟨.slice ao_v l.length cap_v, .slice ao_p b.length cap_p, _, w.heap.size, by rw [HN.out]; rfl, ?_, ?_, ?_, ?_, ?_, below_setRow B1.out (by omega) _⟩
  ·
   omega
  ·
   rw [size_setRow]; omega
  ·
   rw [HN.out]
   exact (Own.setRow o_v1.out _ (by omega)).mono (by omega) (by omega)
  ·
   rw [HN.out]
   exact (Own.setRow o_p1.out _ (by omega)).mono (by omega) (by omega)
  ·
   rw [HN.out]
   exact Om.nil _ _ _ _ _
end Go.Proofs.YtchonoonclllbaaGreatDoor.Mi
