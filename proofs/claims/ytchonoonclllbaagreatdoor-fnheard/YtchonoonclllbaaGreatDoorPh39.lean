/- Texts in one: Mj9, Bgn, KpT. -/
import Derived.Test.YtchonoonclllbaaGreatDoorPh38
import Derived.Laws.EntriesVeiled
set_option maxHeartbeats 16000000
set_option linter.unusedVariables false
set_option linter.unusedSimpArgs false
namespace Go.Proofs.YtchonoonclllbaaGreatDoor.Mi
open Go.RowKit Mem Laws Bytes Sha Tr He Lg Sr Mg
set_option maxRecDepth 1000000 in
theorem heard1_impl (w : World) (v vb vt vx : Value) (m : Mr) (t : List Hd) (q : Ms) {a0 a1 a2 a3 : Addr} (hG : Glob w) (hN : NoC w) (hF : Is.Four w a0 a1 a2 a3) (hhr : m.st.h.r.size ≤ 1000000000000) (hgr : m.b.r.size ≤ 1000000000000) (hs : Sl w v (ss m.st.l)) (hb : Sl w vb (bs m.st.b)) (hby : Byt m.st.b) (hst : Sh w vt t) (hl : m.st.l.length ≤ 1000000000) (hbl : m.st.b.length ≤ 1000000000) (htl : t.length ≤ 1000000000) (hz : ∀ s ∈ m.st.l, s.size ≤ 10000000000) (hx : Sl w vx (ss q.x)) (hxl : q.x.length ≤ 1000000000) (hzx : ∀ s ∈ q.x, s.size ≤ 10000000000) (htx : Puts.tot q.x ≤ 100000000000) (hdr : q.h.r.size ≤ 100000000000) (hok : msgOk q = true) (hti : q.t = m.id) (hk : q.k = 1) :
  Calls Tryz.prog 44 #[.agg #[.int .i64 m.id, v, .int .i64 m.st.h.n, .string m.st.h.r, vb, .int .i64 m.st.s, .int .i64 m.b.n, .string m.b.r], vt, .agg #[.int .i64 q.k, .int .i64 q.f, .int .i64 q.t, .int .i64 q.h.n, .string q.h.r, .int .i64 q.n, vx]] w fun e w' => ∃ v' vb' vq mid, e = .returned (.tuple #[.agg #[.int .i64 (hear1 m t q).1.id, v', .int .i64 (hear1 m t q).1.st.h.n, .string (hear1 m t q).1.st.h.r, vb', .int .i64 (hear1 m t q).1.st.s, .int .i64 (hear1 m t q).1.b.n, .string (hear1 m t q).1.b.r], vq]) ∧ w.heap.size ≤ mid ∧ mid ≤ w'.heap.size ∧ Own w' w.heap.size mid 9 v' (ss (hear1 m t q).1.st.l) ∧ Own w' w.heap.size mid 5 vb' (bs (hear1 m t q).1.st.b) ∧ Om w' mid w'.heap.size vq (hear1 m t q).2 ∧ Below w.heap.size w w' := by
 obtain ⟨R, hR⟩ : ∃ R, hear1 m t q = R := ⟨_, rfl⟩
 have HR : Hid (hear1 m t q = R) := hR
 rw [hR]
 obtain ⟨id, ⟨l, h, b, s⟩, g⟩ := m
 obtain ⟨k, f, tt, hq, n, x⟩ := q
 simp only at *
 have HS : Hid (Sl w v (ss l)) := hs
 have HSB : Hid (Sl w vb (bs b)) := hb
 have HBY : Hid (Byt b) := hby
 have HT : Hid (Sh w vt t) := hst
 have HX : Hid (Sl w vx (ss x)) := hx
 have HG : Hid (Glob w) := hG
 have HNC : Hid (NoC w) := hN
 have HF : Hid (Is.Four w a0 a1 a2 a3) := hF
 obtain ⟨ao0, cap0, rfl, hc0⟩ := hs.form
 obtain ⟨ao1, cap1, rfl, hc1⟩ := hb.form
 obtain ⟨ao2, cap2, rfl, hc2⟩ := hst.form
 obtain ⟨ao3, cap3, rfl, hc3⟩ := hx.form
 simp only [ss_len, bs_len] at *
 clear hs hb hby hst hx hR hG hN hF
 subst hk
 have HOK : Hid (msgOk ⟨1, f, tt, hq, n, x⟩ = true) := hok
 have HTI : Hid (tt = id) := hti
 clear hok hti
 have B0 : Hid (Below w.heap.size w w) := Below.refl _ _
 obtain ⟨W1, HW1, b1, y1, hS1, r_a1, r_q1, r_res1, r_kt1⟩ : ∃ X, Hid (((((w.alloc (.cells #[.int .i64 id, .slice ao0 l.length cap0, .int .i64 h.n, .string h.r, .slice ao1 b.length cap1, .int .i64 s, .int .i64 g.n, .string g.r] 32)).alloc (.cells #[.int .i64 1, .int .i64 f, .int .i64 tt, .int .i64 hq.n, .string hq.r, .int .i64 n, .slice ao3 x.length cap3] 35)).alloc (.cells #[.int .i64 0, .slice none 0 0, .int .i64 0, .string ⟨#[]⟩, .slice none 0 0, .int .i64 0, .int .i64 0, .string ⟨#[]⟩] 32)).alloc (.cells #[.nilFunc, .func (.func 87) #[] #[], .func (.func 88) #[] #[], .func (.func 89) #[] #[]] 117)) = X) ∧ Below w.heap.size w X ∧ w.heap.size + 4 ≤ X.heap.size ∧ Hid (X.heap.size = w.heap.size + 1 + 1 + 1 + 1) ∧ Hid (X.heap[w.heap.size]? = some (.cells #[.int .i64 id, .slice ao0 l.length cap0, .int .i64 h.n, .string h.r, .slice ao1 b.length cap1, .int .i64 s, .int .i64 g.n, .string g.r] 32 (0, 0))) ∧ Hid (X.heap[w.heap.size + 1]? = some (.cells #[.int .i64 1, .int .i64 f, .int .i64 tt, .int .i64 hq.n, .string hq.r, .int .i64 n, .slice ao3 x.length cap3] 35 (0, 0))) ∧ Hid (X.heap[w.heap.size + 1 + 1]? = some (.cells #[.int .i64 0, .slice none 0 0, .int .i64 0, .string ⟨#[]⟩, .slice none 0 0, .int .i64 0, .int .i64 0, .string ⟨#[]⟩] 32 (0, 0))) ∧ Hid (X.heap[w.heap.size + 1 + 1 + 1]? = some (.cells #[.nilFunc, .func (.func 87) #[] #[], .func (.func 88) #[] #[], .func (.func 89) #[] #[]] 117 (0, 0))) := ⟨_, rfl, (((((Below.refl _ _).alloc (Nat.le_refl _) _).alloc (by simp) _).alloc (by simp; omega) _).alloc (by simp; omega) _), by simp, by show _ = _; simp, (by show _ = _; exact alloc_nth4_0 w _ _ _ _), (by show _ = _; exact alloc_nth4_1 w _ _ _ _), (by show _ = _; exact alloc_nth4_2 w _ _ _ _), (by show _ = _; exact alloc_nth4_3 w _ _ _ _)⟩
 have z1 := b1.size
 have B1 := Ke.b B0 b1
 have c_a1 := Ke.c r_a1
 have c_q1 := Ke.c r_q1
 have c_kt1 := Ke.c r_kt1
 have q1 : ∀ W v1 v2, Sl W v1 (ss l) → Sl W v2 (bs b) → _ := fun W v1 v2 h1 h2 => mcopy_impl W v1 v2 ⟨id, ⟨l, h, b, s⟩, g⟩ (fun s h => Nat.le_trans (hz s h) (by omega)) hhr hgr h1 h2 hl hbl
 simp only at q1
 have q5 : ∀ W lo v1 v2 v3 v4, Glob W → Is.Four W a0 a1 a2 a3 → lo ≤ W.heap.size → Own W lo W.heap.size 9 v1 (ss l) → Own W lo W.heap.size 5 v2 (bs b) → Sh W v3 t → Sl W v4 (ss x) → _ := fun W lo v1 v2 v3 v4 hG hF hlo h9 h5 h3 h4 => hearhead_impl W lo v1 v2 v3 v4 ⟨id, ⟨l, h, b, s⟩, g⟩ t ⟨1, f, tt, hq, n, x⟩ hG hF hlo h9 h5 h3 h4 hl hbl htl hxl hz hzx htx hdr hhr hgr HOK.out HTI.out rfl
 obtain ⟨⟨i2, ⟨Lx, Hx, Bx, Sx⟩, Gx⟩, Nx, hH⟩ : ∃ a9 b9, hear1 ⟨id, ⟨l, h, b, s⟩, g⟩ t ⟨1, f, tt, hq, n, x⟩ = (a9, b9) := ⟨_, _, rfl⟩
 simp only [hH] at q5
 have HN : Hid (R = (⟨i2, ⟨Lx, Hx, Bx, Sx⟩, Gx⟩, Nx)) := HR.out.symm.trans hH
 clear hH HR hz hzx
 go_enter Tryz.func44, Tryz.ntmps44
 go_wp2_with fail
 rw [HW1.out]
 refine wp_region_held_drew (S := fun w' => (∀ j, w'.cell? ⟨w.heap.size, j, none⟩ = #[.int .i64 id, .slice ao0 l.length cap0, .int .i64 h.n, .string h.r, .slice ao1 b.length cap1, .int .i64 s, .int .i64 g.n, .string g.r][j]?) ∧ (∀ j, w'.cell? ⟨w.heap.size + 1, j, none⟩ = #[.int .i64 1, .int .i64 f, .int .i64 tt, .int .i64 hq.n, .string hq.r, .int .i64 n, .slice ao3 x.length cap3][j]?) ∧ (∀ j, w'.cell? ⟨w.heap.size + 1 + 1 + 1, j, none⟩ = #[.nilFunc, .func (.func 87) #[] #[], .func (.func 88) #[] #[], .func (.func 89) #[] #[]][j]?)) (by kernel_rfl) ⟨c_a1, c_q1, c_kt1⟩ (fun hHeld => ?_)
 refine Ke.q 0 ?_; try simp only [Act.put, pq]
 refine Ke.q 1 ?_; try simp only [Act.put, pq]
 refine Ke.q 2 ?_; try simp only [Act.put, pq]
 refine Ke.q 3 ?_; try simp only [Act.put, pq]
 refine Ke.q 4 ?_; try simp only [Act.put, pq]
 refine Ke.q 6 ?_; try simp only [Act.put, pq]
 refine Ke.q 7 ?_; try simp only [Act.put, pq]
 refine Ke.z 5 rfl (fun K hK => ?_)
 go_simp
 refine (q1 W1.drew _ _ (Sl.later (w := W1) (HS.out.later B1.out) (Below.drew (Below.refl _ _))) (Sl.later (w := W1) (HSB.out.later B1.out) (Below.drew (Below.refl _ _)))).mono ?_
 rintro e W2 ⟨v_s, v_p, rfl, o_s2, o_p2, b2⟩
 have b2 : Below W1.heap.size W1 W2 := (Below.drew (Below.refl _ _)).trans b2
 have o_s2 : Own W2 W1.heap.size W2.heap.size 9 _ _ := o_s2
 have o_p2 : Own W2 W1.heap.size W2.heap.size 5 _ _ := o_p2
 refine hK.out _ _ ⟨(Ke.k (W := W1) hHeld.1 b2), (Ke.k (W := W1) hHeld.2.1 b2), (Ke.k (W := W1) hHeld.2.2 b2)⟩ (fun hHeld => ?_)
 clear hK K
 try simp only [Act.put, pq]
 obtain ⟨lo_s, hi_s, lo_p, hi_p, d1_s, d2_s, d3_s, d4_s, d5_s, d6_s, d7_s, oo_s, oo_p⟩ := Sr.pairN o_s2 o_p2 b2.size
 clear o_s2 o_p2
 obtain ⟨ao_s, L_s, cap_s, rfl, _, _⟩ := oo_s.form
 obtain ⟨ao_p, L_p, cap_p, rfl, _, _⟩ := oo_p.form
 have o_s2 : Hid (Own W2 lo_s hi_s 9 (.slice ao_s L_s cap_s) (ss l)) := oo_s
 have o_p2 : Hid (Own W2 lo_p hi_p 5 (.slice ao_p L_p cap_p) (bs b)) := oo_p
 clear oo_s oo_p
 have z2 := b2.size
 have B2 := Ke.b B1 b2
 have r_res2 := Ke.r r_res1 b2
 clear r_a1 c_a1 r_q1 c_q1 r_res1 r_kt1 c_kt1
 refine Ke.z 8 rfl (fun K hK => ?_)
 go_simp
 refine (q5 W2 W1.heap.size _ _ _ _ (HG.out.later B2.out) (HF.out.later B2.out) (by omega) (o_s2.out.mono (by omega) (by omega)) (o_p2.out.mono (by omega) (by omega)) (HT.out.later B2.out) (HX.out.later B2.out)).mono ?_
 rintro e W3 ⟨v_n, v_np, v_o, mid, rfl, dm1, dm2, on, onp, om, b3⟩
 obtain ⟨ao_n, L_n, cap_n, rfl, _, _⟩ := Mem.Own.form on
 obtain ⟨ao_np, L_np, cap_np, rfl, _, _⟩ := Mem.Own.form onp
 obtain ⟨ao_o, L_o, cap_o, rfl, hL8, hL9⟩ := om.form
 clear hL8 hL9 q5
 refine hK.out _ _ ⟨(Ke.k (W := W2) hHeld.1 b3), (Ke.k (W := W2) hHeld.2.1 b3), (Ke.k (W := W2) hHeld.2.2 b3)⟩ (fun hHeld => ?_)
 clear hK K
 try simp only [Act.put, pq]
 have o_n3 := Ke.h on
 have o_np3 := Ke.h onp
 have OM := Ke.h om
 clear on onp om
 clear o_s2
 clear o_p2
 have z3 := b3.size
 have B3 := Ke.b B2 b3
 have r_res3 := Ke.r r_res2 b3
 clear r_res2
 refine Ke.q 9 ?_; try simp only [Act.put, pq]
 refine Ke.q 10 ?_; try simp only [Act.put, pq]
 refine Ke.z 11 rfl (fun K hK => ?_)
 rw [if_pos (by rfl)]
 refine wp_store_row 32 _ _ rfl (w.heap.size + 1 + 1) (mq i2 (.slice ao_n L_n cap_n) Hx (.slice ao_np L_np cap_np) Sx Gx) rfl rfl 32 _ r_res3.out (sizeQ _ _ _ _ _ _) rfl (oneQ _ _ _ _ rfl rfl) ?_
 refine hK.out _ _ ⟨(Ke.w (by show w.heap.size ≠ w.heap.size + 1 + 1; omega) hHeld.1), (Ke.w (by show w.heap.size + 1 ≠ w.heap.size + 1 + 1; omega) hHeld.2.1), (Ke.w (by show w.heap.size + 1 + 1 + 1 ≠ w.heap.size + 1 + 1; omega) hHeld.2.2)⟩ (fun hHeld => ?_)
 clear hK K
 try simp only [Act.put, pq]
 refine Ke.q 12 ?_; try simp only [Act.put, pq]
 refine wpAnyH_done (by kernel_rfl) ?_ _
 clear hHeld
 go_wp2
 refine bodyPost_ret (res_row_tmp rfl _ _ (w.heap.size + 1 + 1) 32 (mq i2 (.slice ao_n L_n cap_n) Hx (.slice ao_np L_np cap_np) Sx Gx) (0, 0) _ rfl (setRow_heap _ _ _ _ _ (0, 0) r_res3.out) Tryz.underlying32 rfl (sizeQ _ _ _ _ _ _)) rfl ⟨.slice ao_n L_n cap_n, .slice ao_np L_np cap_np, _, mid, by rw [HN.out]; rfl, ?_, ?_, ?_, ?_, ?_, below_setRow B3.out (by omega) _⟩
 ·omega
 ·rw [size_setRow]; omega
 ·rw [HN.out]
  exact (Own.setRow o_n3.out _ (by omega)).mono (by omega) (by omega)
 ·rw [HN.out]
  exact (Own.setRow o_np3.out _ (by omega)).mono (by omega) (by omega)
 ·rw [HN.out]
  exact (OM.out.setRow _ (by omega)).mono (Nat.le_refl _) (by rw [size_setRow]; omega) (Nat.le_refl _)
set_option maxRecDepth 1000000 in
theorem heard2_impl (w : World) (v vb vt vx : Value) (m : Mr) (t : List Hd) (q : Ms) {a0 a1 a2 a3 : Addr} (hG : Glob w) (hN : NoC w) (hF : Is.Four w a0 a1 a2 a3) (hhr : m.st.h.r.size ≤ 1000000000000) (hgr : m.b.r.size ≤ 1000000000000) (hs : Sl w v (ss m.st.l)) (hb : Sl w vb (bs m.st.b)) (hby : Byt m.st.b) (hst : Sh w vt t) (hl : m.st.l.length ≤ 1000000000) (hbl : m.st.b.length ≤ 1000000000) (htl : t.length ≤ 1000000000) (hz : ∀ s ∈ m.st.l, s.size ≤ 10000000000) (hx : Sl w vx (ss q.x)) (hxl : q.x.length ≤ 1000000000) (hzx : ∀ s ∈ q.x, s.size ≤ 10000000000) (htx : Puts.tot q.x ≤ 100000000000) (hdr : q.h.r.size ≤ 100000000000) (hok : msgOk q = true) (hti : q.t = m.id) (hk : q.k = 2) :
  Calls Tryz.prog 44 #[.agg #[.int .i64 m.id, v, .int .i64 m.st.h.n, .string m.st.h.r, vb, .int .i64 m.st.s, .int .i64 m.b.n, .string m.b.r], vt, .agg #[.int .i64 q.k, .int .i64 q.f, .int .i64 q.t, .int .i64 q.h.n, .string q.h.r, .int .i64 q.n, vx]] w fun e w' => ∃ v' vb' vq mid, e = .returned (.tuple #[.agg #[.int .i64 (hear1 m t q).1.id, v', .int .i64 (hear1 m t q).1.st.h.n, .string (hear1 m t q).1.st.h.r, vb', .int .i64 (hear1 m t q).1.st.s, .int .i64 (hear1 m t q).1.b.n, .string (hear1 m t q).1.b.r], vq]) ∧ w.heap.size ≤ mid ∧ mid ≤ w'.heap.size ∧ Own w' w.heap.size mid 9 v' (ss (hear1 m t q).1.st.l) ∧ Own w' w.heap.size mid 5 vb' (bs (hear1 m t q).1.st.b) ∧ Om w' mid w'.heap.size vq (hear1 m t q).2 ∧ Below w.heap.size w w' := by
 obtain ⟨R, hR⟩ : ∃ R, hear1 m t q = R := ⟨_, rfl⟩
 have HR : Hid (hear1 m t q = R) := hR
 rw [hR]
 obtain ⟨id, ⟨l, h, b, s⟩, g⟩ := m
 obtain ⟨k, f, tt, hq, n, x⟩ := q
 simp only at *
 have HS : Hid (Sl w v (ss l)) := hs
 have HSB : Hid (Sl w vb (bs b)) := hb
 have HBY : Hid (Byt b) := hby
 have HT : Hid (Sh w vt t) := hst
 have HX : Hid (Sl w vx (ss x)) := hx
 have HG : Hid (Glob w) := hG
 have HNC : Hid (NoC w) := hN
 have HF : Hid (Is.Four w a0 a1 a2 a3) := hF
 obtain ⟨ao0, cap0, rfl, hc0⟩ := hs.form
 obtain ⟨ao1, cap1, rfl, hc1⟩ := hb.form
 obtain ⟨ao2, cap2, rfl, hc2⟩ := hst.form
 obtain ⟨ao3, cap3, rfl, hc3⟩ := hx.form
 simp only [ss_len, bs_len] at *
 clear hs hb hby hst hx hR hG hN hF
 subst hk
 have HOK : Hid (msgOk ⟨2, f, tt, hq, n, x⟩ = true) := hok
 have HTI : Hid (tt = id) := hti
 clear hok hti
 have B0 : Hid (Below w.heap.size w w) := Below.refl _ _
 obtain ⟨W1, HW1, b1, y1, hS1, r_a1, r_q1, r_res1, r_kt1⟩ : ∃ X, Hid (((((w.alloc (.cells #[.int .i64 id, .slice ao0 l.length cap0, .int .i64 h.n, .string h.r, .slice ao1 b.length cap1, .int .i64 s, .int .i64 g.n, .string g.r] 32)).alloc (.cells #[.int .i64 2, .int .i64 f, .int .i64 tt, .int .i64 hq.n, .string hq.r, .int .i64 n, .slice ao3 x.length cap3] 35)).alloc (.cells #[.int .i64 0, .slice none 0 0, .int .i64 0, .string ⟨#[]⟩, .slice none 0 0, .int .i64 0, .int .i64 0, .string ⟨#[]⟩] 32)).alloc (.cells #[.nilFunc, .func (.func 87) #[] #[], .func (.func 88) #[] #[], .func (.func 89) #[] #[]] 117)) = X) ∧ Below w.heap.size w X ∧ w.heap.size + 4 ≤ X.heap.size ∧ Hid (X.heap.size = w.heap.size + 1 + 1 + 1 + 1) ∧ Hid (X.heap[w.heap.size]? = some (.cells #[.int .i64 id, .slice ao0 l.length cap0, .int .i64 h.n, .string h.r, .slice ao1 b.length cap1, .int .i64 s, .int .i64 g.n, .string g.r] 32 (0, 0))) ∧ Hid (X.heap[w.heap.size + 1]? = some (.cells #[.int .i64 2, .int .i64 f, .int .i64 tt, .int .i64 hq.n, .string hq.r, .int .i64 n, .slice ao3 x.length cap3] 35 (0, 0))) ∧ Hid (X.heap[w.heap.size + 1 + 1]? = some (.cells #[.int .i64 0, .slice none 0 0, .int .i64 0, .string ⟨#[]⟩, .slice none 0 0, .int .i64 0, .int .i64 0, .string ⟨#[]⟩] 32 (0, 0))) ∧ Hid (X.heap[w.heap.size + 1 + 1 + 1]? = some (.cells #[.nilFunc, .func (.func 87) #[] #[], .func (.func 88) #[] #[], .func (.func 89) #[] #[]] 117 (0, 0))) := ⟨_, rfl, (((((Below.refl _ _).alloc (Nat.le_refl _) _).alloc (by simp) _).alloc (by simp; omega) _).alloc (by simp; omega) _), by simp, by show _ = _; simp, (by show _ = _; exact alloc_nth4_0 w _ _ _ _), (by show _ = _; exact alloc_nth4_1 w _ _ _ _), (by show _ = _; exact alloc_nth4_2 w _ _ _ _), (by show _ = _; exact alloc_nth4_3 w _ _ _ _)⟩
 have z1 := b1.size
 have B1 := Ke.b B0 b1
 have c_a1 := Ke.c r_a1
 have c_q1 := Ke.c r_q1
 have c_kt1 := Ke.c r_kt1
 have q1 : ∀ W v1 v2, Sl W v1 (ss l) → Sl W v2 (bs b) → _ := fun W v1 v2 h1 h2 => mcopy_impl W v1 v2 ⟨id, ⟨l, h, b, s⟩, g⟩ (fun s h => Nat.le_trans (hz s h) (by omega)) hhr hgr h1 h2 hl hbl
 simp only at q1
 have q5 : ∀ W lo v1 v2 v3 v4, Glob W → Is.Four W a0 a1 a2 a3 → lo ≤ W.heap.size → Own W lo W.heap.size 9 v1 (ss l) → Own W lo W.heap.size 5 v2 (bs b) → Sh W v3 t → Sl W v4 (ss x) → _ := fun W lo v1 v2 v3 v4 hG hF hlo h9 h5 h3 h4 => hearask_impl W lo v1 v2 v3 v4 ⟨id, ⟨l, h, b, s⟩, g⟩ t ⟨2, f, tt, hq, n, x⟩ hG hF hlo h9 h5 h3 h4 hl hbl htl hxl hz hzx htx hdr hhr hgr HOK.out HTI.out rfl
 obtain ⟨⟨i2, ⟨Lx, Hx, Bx, Sx⟩, Gx⟩, Nx, hH⟩ : ∃ a9 b9, hear1 ⟨id, ⟨l, h, b, s⟩, g⟩ t ⟨2, f, tt, hq, n, x⟩ = (a9, b9) := ⟨_, _, rfl⟩
 simp only [hH] at q5
 have HN : Hid (R = (⟨i2, ⟨Lx, Hx, Bx, Sx⟩, Gx⟩, Nx)) := HR.out.symm.trans hH
 clear hH HR hz hzx
 go_enter Tryz.func44, Tryz.ntmps44
 go_wp2_with fail
 rw [HW1.out]
 refine wp_region_held_drew (S := fun w' => (∀ j, w'.cell? ⟨w.heap.size, j, none⟩ = #[.int .i64 id, .slice ao0 l.length cap0, .int .i64 h.n, .string h.r, .slice ao1 b.length cap1, .int .i64 s, .int .i64 g.n, .string g.r][j]?) ∧ (∀ j, w'.cell? ⟨w.heap.size + 1, j, none⟩ = #[.int .i64 2, .int .i64 f, .int .i64 tt, .int .i64 hq.n, .string hq.r, .int .i64 n, .slice ao3 x.length cap3][j]?) ∧ (∀ j, w'.cell? ⟨w.heap.size + 1 + 1 + 1, j, none⟩ = #[.nilFunc, .func (.func 87) #[] #[], .func (.func 88) #[] #[], .func (.func 89) #[] #[]][j]?)) (by kernel_rfl) ⟨c_a1, c_q1, c_kt1⟩ (fun hHeld => ?_)
 refine Ke.q 0 ?_; try simp only [Act.put, pq]
 refine Ke.q 1 ?_; try simp only [Act.put, pq]
 refine Ke.q 2 ?_; try simp only [Act.put, pq]
 refine Ke.q 3 ?_; try simp only [Act.put, pq]
 refine Ke.q 4 ?_; try simp only [Act.put, pq]
 refine Ke.q 6 ?_; try simp only [Act.put, pq]
 refine Ke.q 7 ?_; try simp only [Act.put, pq]
 refine Ke.z 5 rfl (fun K hK => ?_)
 go_simp
 refine (q1 W1.drew _ _ (Sl.later (w := W1) (HS.out.later B1.out) (Below.drew (Below.refl _ _))) (Sl.later (w := W1) (HSB.out.later B1.out) (Below.drew (Below.refl _ _)))).mono ?_
 rintro e W2 ⟨v_s, v_p, rfl, o_s2, o_p2, b2⟩
 have b2 : Below W1.heap.size W1 W2 := (Below.drew (Below.refl _ _)).trans b2
 have o_s2 : Own W2 W1.heap.size W2.heap.size 9 _ _ := o_s2
 have o_p2 : Own W2 W1.heap.size W2.heap.size 5 _ _ := o_p2
 refine hK.out _ _ ⟨(Ke.k (W := W1) hHeld.1 b2), (Ke.k (W := W1) hHeld.2.1 b2), (Ke.k (W := W1) hHeld.2.2 b2)⟩ (fun hHeld => ?_)
 clear hK K
 try simp only [Act.put, pq]
 obtain ⟨lo_s, hi_s, lo_p, hi_p, d1_s, d2_s, d3_s, d4_s, d5_s, d6_s, d7_s, oo_s, oo_p⟩ := Sr.pairN o_s2 o_p2 b2.size
 clear o_s2 o_p2
 obtain ⟨ao_s, L_s, cap_s, rfl, _, _⟩ := oo_s.form
 obtain ⟨ao_p, L_p, cap_p, rfl, _, _⟩ := oo_p.form
 have o_s2 : Hid (Own W2 lo_s hi_s 9 (.slice ao_s L_s cap_s) (ss l)) := oo_s
 have o_p2 : Hid (Own W2 lo_p hi_p 5 (.slice ao_p L_p cap_p) (bs b)) := oo_p
 clear oo_s oo_p
 have z2 := b2.size
 have B2 := Ke.b B1 b2
 have r_res2 := Ke.r r_res1 b2
 clear r_a1 c_a1 r_q1 c_q1 r_res1 r_kt1 c_kt1
 refine Ke.z 8 rfl (fun K hK => ?_)
 go_simp
 refine (q5 W2 W1.heap.size _ _ _ _ (HG.out.later B2.out) (HF.out.later B2.out) (by omega) (o_s2.out.mono (by omega) (by omega)) (o_p2.out.mono (by omega) (by omega)) (HT.out.later B2.out) (HX.out.later B2.out)).mono ?_
 rintro e W3 ⟨v_n, v_np, v_o, mid, rfl, dm1, dm2, on, onp, om, b3⟩
 obtain ⟨ao_n, L_n, cap_n, rfl, _, _⟩ := Mem.Own.form on
 obtain ⟨ao_np, L_np, cap_np, rfl, _, _⟩ := Mem.Own.form onp
 obtain ⟨ao_o, L_o, cap_o, rfl, hL8, hL9⟩ := om.form
 clear hL8 hL9 q5
 refine hK.out _ _ ⟨(Ke.k (W := W2) hHeld.1 b3), (Ke.k (W := W2) hHeld.2.1 b3), (Ke.k (W := W2) hHeld.2.2 b3)⟩ (fun hHeld => ?_)
 clear hK K
 try simp only [Act.put, pq]
 have o_n3 := Ke.h on
 have o_np3 := Ke.h onp
 have OM := Ke.h om
 clear on onp om
 clear o_s2
 clear o_p2
 have z3 := b3.size
 have B3 := Ke.b B2 b3
 have r_res3 := Ke.r r_res2 b3
 clear r_res2
 refine Ke.q 9 ?_; try simp only [Act.put, pq]
 refine Ke.q 10 ?_; try simp only [Act.put, pq]
 refine Ke.z 11 rfl (fun K hK => ?_)
 rw [if_pos (by rfl)]
 refine wp_store_row 32 _ _ rfl (w.heap.size + 1 + 1) (mq i2 (.slice ao_n L_n cap_n) Hx (.slice ao_np L_np cap_np) Sx Gx) rfl rfl 32 _ r_res3.out (sizeQ _ _ _ _ _ _) rfl (oneQ _ _ _ _ rfl rfl) ?_
 refine hK.out _ _ ⟨(Ke.w (by show w.heap.size ≠ w.heap.size + 1 + 1; omega) hHeld.1), (Ke.w (by show w.heap.size + 1 ≠ w.heap.size + 1 + 1; omega) hHeld.2.1), (Ke.w (by show w.heap.size + 1 + 1 + 1 ≠ w.heap.size + 1 + 1; omega) hHeld.2.2)⟩ (fun hHeld => ?_)
 clear hK K
 try simp only [Act.put, pq]
 refine Ke.q 12 ?_; try simp only [Act.put, pq]
 refine wpAnyH_done (by kernel_rfl) ?_ _
 clear hHeld
 go_wp2
 refine bodyPost_ret (res_row_tmp rfl _ _ (w.heap.size + 1 + 1) 32 (mq i2 (.slice ao_n L_n cap_n) Hx (.slice ao_np L_np cap_np) Sx Gx) (0, 0) _ rfl (setRow_heap _ _ _ _ _ (0, 0) r_res3.out) Tryz.underlying32 rfl (sizeQ _ _ _ _ _ _)) rfl ⟨.slice ao_n L_n cap_n, .slice ao_np L_np cap_np, _, mid, by rw [HN.out]; rfl, ?_, ?_, ?_, ?_, ?_, below_setRow B3.out (by omega) _⟩
 ·omega
 ·rw [size_setRow]; omega
 ·rw [HN.out]
  exact (Own.setRow o_n3.out _ (by omega)).mono (by omega) (by omega)
 ·rw [HN.out]
  exact (Own.setRow o_np3.out _ (by omega)).mono (by omega) (by omega)
 ·rw [HN.out]
  exact (OM.out.setRow _ (by omega)).mono (Nat.le_refl _) (by rw [size_setRow]; omega) (Nat.le_refl _)
set_option maxRecDepth 1000000 in
theorem heard3_impl (w : World) (v vb vt vx : Value) (m : Mr) (t : List Hd) (q : Ms) {a0 a1 a2 a3 : Addr} (hG : Glob w) (hN : NoC w) (hF : Is.Four w a0 a1 a2 a3) (hhr : m.st.h.r.size ≤ 1000000000000) (hgr : m.b.r.size ≤ 1000000000000) (hs : Sl w v (ss m.st.l)) (hb : Sl w vb (bs m.st.b)) (hby : Byt m.st.b) (hst : Sh w vt t) (hl : m.st.l.length ≤ 1000000000) (hbl : m.st.b.length ≤ 1000000000) (htl : t.length ≤ 1000000000) (hz : ∀ s ∈ m.st.l, s.size ≤ 10000000000) (hx : Sl w vx (ss q.x)) (hxl : q.x.length ≤ 1000000000) (hzx : ∀ s ∈ q.x, s.size ≤ 10000000000) (htx : Puts.tot q.x ≤ 100000000000) (hdr : q.h.r.size ≤ 100000000000) (hok : msgOk q = true) (hti : q.t = m.id) (hk : q.k = 3) :
  Calls Tryz.prog 44 #[.agg #[.int .i64 m.id, v, .int .i64 m.st.h.n, .string m.st.h.r, vb, .int .i64 m.st.s, .int .i64 m.b.n, .string m.b.r], vt, .agg #[.int .i64 q.k, .int .i64 q.f, .int .i64 q.t, .int .i64 q.h.n, .string q.h.r, .int .i64 q.n, vx]] w fun e w' => ∃ v' vb' vq mid, e = .returned (.tuple #[.agg #[.int .i64 (hear1 m t q).1.id, v', .int .i64 (hear1 m t q).1.st.h.n, .string (hear1 m t q).1.st.h.r, vb', .int .i64 (hear1 m t q).1.st.s, .int .i64 (hear1 m t q).1.b.n, .string (hear1 m t q).1.b.r], vq]) ∧ w.heap.size ≤ mid ∧ mid ≤ w'.heap.size ∧ Own w' w.heap.size mid 9 v' (ss (hear1 m t q).1.st.l) ∧ Own w' w.heap.size mid 5 vb' (bs (hear1 m t q).1.st.b) ∧ Om w' mid w'.heap.size vq (hear1 m t q).2 ∧ Below w.heap.size w w' := by
 obtain ⟨R, hR⟩ : ∃ R, hear1 m t q = R := ⟨_, rfl⟩
 have HR : Hid (hear1 m t q = R) := hR
 rw [hR]
 obtain ⟨id, ⟨l, h, b, s⟩, g⟩ := m
 obtain ⟨k, f, tt, hq, n, x⟩ := q
 simp only at *
 have HS : Hid (Sl w v (ss l)) := hs
 have HSB : Hid (Sl w vb (bs b)) := hb
 have HBY : Hid (Byt b) := hby
 have HT : Hid (Sh w vt t) := hst
 have HX : Hid (Sl w vx (ss x)) := hx
 have HG : Hid (Glob w) := hG
 have HNC : Hid (NoC w) := hN
 have HF : Hid (Is.Four w a0 a1 a2 a3) := hF
 obtain ⟨ao0, cap0, rfl, hc0⟩ := hs.form
 obtain ⟨ao1, cap1, rfl, hc1⟩ := hb.form
 obtain ⟨ao2, cap2, rfl, hc2⟩ := hst.form
 obtain ⟨ao3, cap3, rfl, hc3⟩ := hx.form
 simp only [ss_len, bs_len] at *
 clear hs hb hby hst hx hR hG hN hF
 subst hk
 have HOK : Hid (msgOk ⟨3, f, tt, hq, n, x⟩ = true) := hok
 have HTI : Hid (tt = id) := hti
 clear hok hti
 have B0 : Hid (Below w.heap.size w w) := Below.refl _ _
 obtain ⟨W1, HW1, b1, y1, hS1, r_a1, r_q1, r_res1, r_kt1⟩ : ∃ X, Hid (((((w.alloc (.cells #[.int .i64 id, .slice ao0 l.length cap0, .int .i64 h.n, .string h.r, .slice ao1 b.length cap1, .int .i64 s, .int .i64 g.n, .string g.r] 32)).alloc (.cells #[.int .i64 3, .int .i64 f, .int .i64 tt, .int .i64 hq.n, .string hq.r, .int .i64 n, .slice ao3 x.length cap3] 35)).alloc (.cells #[.int .i64 0, .slice none 0 0, .int .i64 0, .string ⟨#[]⟩, .slice none 0 0, .int .i64 0, .int .i64 0, .string ⟨#[]⟩] 32)).alloc (.cells #[.nilFunc, .func (.func 87) #[] #[], .func (.func 88) #[] #[], .func (.func 89) #[] #[]] 117)) = X) ∧ Below w.heap.size w X ∧ w.heap.size + 4 ≤ X.heap.size ∧ Hid (X.heap.size = w.heap.size + 1 + 1 + 1 + 1) ∧ Hid (X.heap[w.heap.size]? = some (.cells #[.int .i64 id, .slice ao0 l.length cap0, .int .i64 h.n, .string h.r, .slice ao1 b.length cap1, .int .i64 s, .int .i64 g.n, .string g.r] 32 (0, 0))) ∧ Hid (X.heap[w.heap.size + 1]? = some (.cells #[.int .i64 3, .int .i64 f, .int .i64 tt, .int .i64 hq.n, .string hq.r, .int .i64 n, .slice ao3 x.length cap3] 35 (0, 0))) ∧ Hid (X.heap[w.heap.size + 1 + 1]? = some (.cells #[.int .i64 0, .slice none 0 0, .int .i64 0, .string ⟨#[]⟩, .slice none 0 0, .int .i64 0, .int .i64 0, .string ⟨#[]⟩] 32 (0, 0))) ∧ Hid (X.heap[w.heap.size + 1 + 1 + 1]? = some (.cells #[.nilFunc, .func (.func 87) #[] #[], .func (.func 88) #[] #[], .func (.func 89) #[] #[]] 117 (0, 0))) := ⟨_, rfl, (((((Below.refl _ _).alloc (Nat.le_refl _) _).alloc (by simp) _).alloc (by simp; omega) _).alloc (by simp; omega) _), by simp, by show _ = _; simp, (by show _ = _; exact alloc_nth4_0 w _ _ _ _), (by show _ = _; exact alloc_nth4_1 w _ _ _ _), (by show _ = _; exact alloc_nth4_2 w _ _ _ _), (by show _ = _; exact alloc_nth4_3 w _ _ _ _)⟩
 have z1 := b1.size
 have B1 := Ke.b B0 b1
 have c_a1 := Ke.c r_a1
 have c_q1 := Ke.c r_q1
 have c_kt1 := Ke.c r_kt1
 have q1 : ∀ W v1 v2, Sl W v1 (ss l) → Sl W v2 (bs b) → _ := fun W v1 v2 h1 h2 => mcopy_impl W v1 v2 ⟨id, ⟨l, h, b, s⟩, g⟩ (fun s h => Nat.le_trans (hz s h) (by omega)) hhr hgr h1 h2 hl hbl
 simp only at q1
 have q5 : ∀ W lo v1 v2 v3 v4, Glob W → Is.Four W a0 a1 a2 a3 → lo ≤ W.heap.size → Own W lo W.heap.size 9 v1 (ss l) → Own W lo W.heap.size 5 v2 (bs b) → Sh W v3 t → Sl W v4 (ss x) → _ := fun W lo v1 v2 v3 v4 hG hF hlo h9 h5 h3 h4 => heartexts_impl W lo v1 v2 v3 v4 ⟨id, ⟨l, h, b, s⟩, g⟩ t ⟨3, f, tt, hq, n, x⟩ hG hF hlo h9 h5 h3 h4 hl hbl htl hxl hz hzx htx hdr hhr hgr HOK.out HTI.out rfl
 obtain ⟨⟨i2, ⟨Lx, Hx, Bx, Sx⟩, Gx⟩, Nx, hH⟩ : ∃ a9 b9, hear1 ⟨id, ⟨l, h, b, s⟩, g⟩ t ⟨3, f, tt, hq, n, x⟩ = (a9, b9) := ⟨_, _, rfl⟩
 simp only [hH] at q5
 have HN : Hid (R = (⟨i2, ⟨Lx, Hx, Bx, Sx⟩, Gx⟩, Nx)) := HR.out.symm.trans hH
 clear hH HR hz hzx
 go_enter Tryz.func44, Tryz.ntmps44
 go_wp2_with fail
 rw [HW1.out]
 refine wp_region_held_drew (S := fun w' => (∀ j, w'.cell? ⟨w.heap.size, j, none⟩ = #[.int .i64 id, .slice ao0 l.length cap0, .int .i64 h.n, .string h.r, .slice ao1 b.length cap1, .int .i64 s, .int .i64 g.n, .string g.r][j]?) ∧ (∀ j, w'.cell? ⟨w.heap.size + 1, j, none⟩ = #[.int .i64 3, .int .i64 f, .int .i64 tt, .int .i64 hq.n, .string hq.r, .int .i64 n, .slice ao3 x.length cap3][j]?) ∧ (∀ j, w'.cell? ⟨w.heap.size + 1 + 1 + 1, j, none⟩ = #[.nilFunc, .func (.func 87) #[] #[], .func (.func 88) #[] #[], .func (.func 89) #[] #[]][j]?)) (by kernel_rfl) ⟨c_a1, c_q1, c_kt1⟩ (fun hHeld => ?_)
 refine Ke.q 0 ?_; try simp only [Act.put, pq]
 refine Ke.q 1 ?_; try simp only [Act.put, pq]
 refine Ke.q 2 ?_; try simp only [Act.put, pq]
 refine Ke.q 3 ?_; try simp only [Act.put, pq]
 refine Ke.q 4 ?_; try simp only [Act.put, pq]
 refine Ke.q 6 ?_; try simp only [Act.put, pq]
 refine Ke.q 7 ?_; try simp only [Act.put, pq]
 refine Ke.z 5 rfl (fun K hK => ?_)
 go_simp
 refine (q1 W1.drew _ _ (Sl.later (w := W1) (HS.out.later B1.out) (Below.drew (Below.refl _ _))) (Sl.later (w := W1) (HSB.out.later B1.out) (Below.drew (Below.refl _ _)))).mono ?_
 rintro e W2 ⟨v_s, v_p, rfl, o_s2, o_p2, b2⟩
 have b2 : Below W1.heap.size W1 W2 := (Below.drew (Below.refl _ _)).trans b2
 have o_s2 : Own W2 W1.heap.size W2.heap.size 9 _ _ := o_s2
 have o_p2 : Own W2 W1.heap.size W2.heap.size 5 _ _ := o_p2
 refine hK.out _ _ ⟨(Ke.k (W := W1) hHeld.1 b2), (Ke.k (W := W1) hHeld.2.1 b2), (Ke.k (W := W1) hHeld.2.2 b2)⟩ (fun hHeld => ?_)
 clear hK K
 try simp only [Act.put, pq]
 obtain ⟨lo_s, hi_s, lo_p, hi_p, d1_s, d2_s, d3_s, d4_s, d5_s, d6_s, d7_s, oo_s, oo_p⟩ := Sr.pairN o_s2 o_p2 b2.size
 clear o_s2 o_p2
 obtain ⟨ao_s, L_s, cap_s, rfl, _, _⟩ := oo_s.form
 obtain ⟨ao_p, L_p, cap_p, rfl, _, _⟩ := oo_p.form
 have o_s2 : Hid (Own W2 lo_s hi_s 9 (.slice ao_s L_s cap_s) (ss l)) := oo_s
 have o_p2 : Hid (Own W2 lo_p hi_p 5 (.slice ao_p L_p cap_p) (bs b)) := oo_p
 clear oo_s oo_p
 have z2 := b2.size
 have B2 := Ke.b B1 b2
 have r_res2 := Ke.r r_res1 b2
 clear r_a1 c_a1 r_q1 c_q1 r_res1 r_kt1 c_kt1
 refine Ke.z 8 rfl (fun K hK => ?_)
 go_simp
 refine (q5 W2 W1.heap.size _ _ _ _ (HG.out.later B2.out) (HF.out.later B2.out) (by omega) (o_s2.out.mono (by omega) (by omega)) (o_p2.out.mono (by omega) (by omega)) (HT.out.later B2.out) (HX.out.later B2.out)).mono ?_
 rintro e W3 ⟨v_n, v_np, v_o, mid, rfl, dm1, dm2, on, onp, om, b3⟩
 obtain ⟨ao_n, L_n, cap_n, rfl, _, _⟩ := Mem.Own.form on
 obtain ⟨ao_np, L_np, cap_np, rfl, _, _⟩ := Mem.Own.form onp
 obtain ⟨ao_o, L_o, cap_o, rfl, hL8, hL9⟩ := om.form
 clear hL8 hL9 q5
 refine hK.out _ _ ⟨(Ke.k (W := W2) hHeld.1 b3), (Ke.k (W := W2) hHeld.2.1 b3), (Ke.k (W := W2) hHeld.2.2 b3)⟩ (fun hHeld => ?_)
 clear hK K
 try simp only [Act.put, pq]
 have o_n3 := Ke.h on
 have o_np3 := Ke.h onp
 have OM := Ke.h om
 clear on onp om
 clear o_s2
 clear o_p2
 have z3 := b3.size
 have B3 := Ke.b B2 b3
 have r_res3 := Ke.r r_res2 b3
 clear r_res2
 refine Ke.q 9 ?_; try simp only [Act.put, pq]
 refine Ke.q 10 ?_; try simp only [Act.put, pq]
 refine Ke.z 11 rfl (fun K hK => ?_)
 rw [if_pos (by rfl)]
 refine wp_store_row 32 _ _ rfl (w.heap.size + 1 + 1) (mq i2 (.slice ao_n L_n cap_n) Hx (.slice ao_np L_np cap_np) Sx Gx) rfl rfl 32 _ r_res3.out (sizeQ _ _ _ _ _ _) rfl (oneQ _ _ _ _ rfl rfl) ?_
 refine hK.out _ _ ⟨(Ke.w (by show w.heap.size ≠ w.heap.size + 1 + 1; omega) hHeld.1), (Ke.w (by show w.heap.size + 1 ≠ w.heap.size + 1 + 1; omega) hHeld.2.1), (Ke.w (by show w.heap.size + 1 + 1 + 1 ≠ w.heap.size + 1 + 1; omega) hHeld.2.2)⟩ (fun hHeld => ?_)
 clear hK K
 try simp only [Act.put, pq]
 refine Ke.q 12 ?_; try simp only [Act.put, pq]
 refine wpAnyH_done (by kernel_rfl) ?_ _
 clear hHeld
 go_wp2
 refine bodyPost_ret (res_row_tmp rfl _ _ (w.heap.size + 1 + 1) 32 (mq i2 (.slice ao_n L_n cap_n) Hx (.slice ao_np L_np cap_np) Sx Gx) (0, 0) _ rfl (setRow_heap _ _ _ _ _ (0, 0) r_res3.out) Tryz.underlying32 rfl (sizeQ _ _ _ _ _ _)) rfl ⟨.slice ao_n L_n cap_n, .slice ao_np L_np cap_np, _, mid, by rw [HN.out]; rfl, ?_, ?_, ?_, ?_, ?_, below_setRow B3.out (by omega) _⟩
 ·omega
 ·rw [size_setRow]; omega
 ·rw [HN.out]
  exact (Own.setRow o_n3.out _ (by omega)).mono (by omega) (by omega)
 ·rw [HN.out]
  exact (Own.setRow o_np3.out _ (by omega)).mono (by omega) (by omega)
 ·rw [HN.out]
  exact (OM.out.setRow _ (by omega)).mono (Nat.le_refl _) (by rw [size_setRow]; omega) (Nat.le_refl _)
theorem heard_impl (w : World) (v vb vt vx : Value) (m : Mr) (t : List Hd) (q : Ms) {a0 a1 a2 a3 : Addr} (hG : Glob w) (hN : NoC w) (hF : Is.Four w a0 a1 a2 a3) (hhr : m.st.h.r.size ≤ 1000000000000) (hgr : m.b.r.size ≤ 1000000000000) (hs : Sl w v (ss m.st.l)) (hb : Sl w vb (bs m.st.b)) (hby : Byt m.st.b) (hst : Sh w vt t) (hl : m.st.l.length ≤ 1000000000) (hbl : m.st.b.length ≤ 1000000000) (htl : t.length ≤ 1000000000) (hz : ∀ s ∈ m.st.l, s.size ≤ 10000000000) (hx : Sl w vx (ss q.x)) (hxl : q.x.length ≤ 1000000000) (hzx : ∀ s ∈ q.x, s.size ≤ 10000000000) (htx : Puts.tot q.x ≤ 100000000000) (hdr : q.h.r.size ≤ 100000000000) (hok : msgOk q = true) (hti : q.t = m.id) :
  Calls Tryz.prog 44 #[.agg #[.int .i64 m.id, v, .int .i64 m.st.h.n, .string m.st.h.r, vb, .int .i64 m.st.s, .int .i64 m.b.n, .string m.b.r], vt, .agg #[.int .i64 q.k, .int .i64 q.f, .int .i64 q.t, .int .i64 q.h.n, .string q.h.r, .int .i64 q.n, vx]] w fun e w' => ∃ v' vb' vq mid, e = .returned (.tuple #[.agg #[.int .i64 (hear1 m t q).1.id, v', .int .i64 (hear1 m t q).1.st.h.n, .string (hear1 m t q).1.st.h.r, vb', .int .i64 (hear1 m t q).1.st.s, .int .i64 (hear1 m t q).1.b.n, .string (hear1 m t q).1.b.r], vq]) ∧ w.heap.size ≤ mid ∧ mid ≤ w'.heap.size ∧ Own w' w.heap.size mid 9 v' (ss (hear1 m t q).1.st.l) ∧ Own w' w.heap.size mid 5 vb' (bs (hear1 m t q).1.st.b) ∧ Om w' mid w'.heap.size vq (hear1 m t q).2 ∧ Below w.heap.size w w' := by
 rcases (kind_parts (msg_parts hok).2.2.2.2.2).1 with h1 | h1 | h1
 ·exact heard1_impl w v vb vt vx m t q hG hN hF hhr hgr hs hb hby hst hl hbl htl hz hx hxl hzx htx hdr hok hti h1
 ·exact heard2_impl w v vb vt vx m t q hG hN hF hhr hgr hs hb hby hst hl hbl htl hz hx hxl hzx htx hdr hok hti h1
 ·exact heard3_impl w v vb vt vx m t q hG hN hF hhr hgr hs hb hby hst hl hbl htl hz hx hxl hzx htx hdr hok hti h1
set_option maxRecDepth 1000000 in
theorem hear_impl (w : World) (v vb vt vx : Value) (m : Mr) (t : List Hd) (q : Ms) {a0 a1 a2 a3 : Addr} (hG : Glob w) (hN : NoC w) (hF : Is.Four w a0 a1 a2 a3) (hhr : m.st.h.r.size ≤ 1000000000000) (hgr : m.b.r.size ≤ 1000000000000) (hs : Sl w v (ss m.st.l)) (hb : Sl w vb (bs m.st.b)) (hby : Byt m.st.b) (hst : Sh w vt t) (hl : m.st.l.length ≤ 1000000000) (hbl : m.st.b.length ≤ 1000000000) (htl : t.length ≤ 1000000000) (hz : ∀ s ∈ m.st.l, s.size ≤ 10000000000) (hx : Sl w vx (ss q.x)) (hxl : q.x.length ≤ 1000000000) (hzx : ∀ s ∈ q.x, s.size ≤ 10000000000) (htx : Puts.tot q.x ≤ 100000000000) (hdr : q.h.r.size ≤ 100000000000) :
  Calls Tryz.prog 10 #[.agg #[.int .i64 m.id, v, .int .i64 m.st.h.n, .string m.st.h.r, vb, .int .i64 m.st.s, .int .i64 m.b.n, .string m.b.r], vt, .agg #[.int .i64 q.k, .int .i64 q.f, .int .i64 q.t, .int .i64 q.h.n, .string q.h.r, .int .i64 q.n, vx]] w fun e w' => ∃ v' vb' vq mid, e = .returned (.tuple #[.agg #[.int .i64 (hear m t q).1.id, v', .int .i64 (hear m t q).1.st.h.n, .string (hear m t q).1.st.h.r, vb', .int .i64 (hear m t q).1.st.s, .int .i64 (hear m t q).1.b.n, .string (hear m t q).1.b.r], vq]) ∧ w.heap.size ≤ mid ∧ mid ≤ w'.heap.size ∧ Own w' w.heap.size mid 9 v' (ss (hear m t q).1.st.l) ∧ Own w' w.heap.size mid 5 vb' (bs (hear m t q).1.st.b) ∧ Om w' mid w'.heap.size vq (hear m t q).2 ∧ Below w.heap.size w w' := by
 obtain ⟨R, hR⟩ : ∃ R, hear m t q = R := ⟨_, rfl⟩
 have HR : Hid (hear m t q = R) := hR
 rw [hR]
 obtain ⟨id, ⟨l, h, b, s⟩, g⟩ := m
 obtain ⟨k, f, tt, hq, n, x⟩ := q
 simp only at *
 have HS : Hid (Sl w v (ss l)) := hs
 have HSB : Hid (Sl w vb (bs b)) := hb
 have HBY : Hid (Byt b) := hby
 have HT : Hid (Sh w vt t) := hst
 have HX : Hid (Sl w vx (ss x)) := hx
 have HG : Hid (Glob w) := hG
 have HNC : Hid (NoC w) := hN
 have HF : Hid (Is.Four w a0 a1 a2 a3) := hF
 obtain ⟨ao0, cap0, rfl, hc0⟩ := hs.form
 obtain ⟨ao1, cap1, rfl, hc1⟩ := hb.form
 obtain ⟨ao2, cap2, rfl, hc2⟩ := hst.form
 obtain ⟨ao3, cap3, rfl, hc3⟩ := hx.form
 simp only [ss_len, bs_len] at *
 clear hs hb hby hst hx hR hG hN hF
 have B0 : Hid (Below w.heap.size w w) := Below.refl _ _
 obtain ⟨W1, HW1, b1, y1, hS1, r_a1, r_q1, r_res1⟩ := Ke.l3 w #[.int .i64 id, .slice ao0 l.length cap0, .int .i64 h.n, .string h.r, .slice ao1 b.length cap1, .int .i64 s, .int .i64 g.n, .string g.r] 32 #[.int .i64 k, .int .i64 f, .int .i64 tt, .int .i64 hq.n, .string hq.r, .int .i64 n, .slice ao3 x.length cap3] 35 #[.int .i64 0, .slice none 0 0, .int .i64 0, .string ⟨#[]⟩, .slice none 0 0, .int .i64 0, .int .i64 0, .string ⟨#[]⟩] 32
 have z1 := b1.size
 have B1 := Ke.b B0 b1
 have q1 : ∀ W v1 v2, Sl W v1 (ss l) → Sl W v2 (bs b) → _ := fun W v1 v2 h1 h2 => mcopy_impl W v1 v2 ⟨id, ⟨l, h, b, s⟩, g⟩ (fun s h => Nat.le_trans (hz s h) (by omega)) hhr hgr h1 h2 hl hbl
 simp only at q1
 have q2 : ∀ W v1 v2 v3, Glob W → NoC W → Sl W v1 (ss l) → Sl W v2 (bs b) → Sh W v3 t → _ := fun W v1 v2 v3 hG hN h1 h2 h3 => mirrorok_impl W v1 v2 v3 ⟨id, ⟨l, h, b, s⟩, g⟩ t hG hN hgr h1 h2 HBY.out h3 hl hbl htl hz
 obtain ⟨A, hA⟩ : ∃ A, mirrorOk ⟨id, ⟨l, h, b, s⟩, g⟩ t = A := ⟨_, rfl⟩
 simp only [hA] at q2
 have q3 : ∀ W v1, Sl W v1 (ss x) → _ := fun W v1 h1 => Wd.msgok_impl W v1 ⟨k, f, tt, hq, n, x⟩ h1 (by simp only; omega) (by simp only; omega)
 obtain ⟨C, hC⟩ : ∃ C, msgOk ⟨k, f, tt, hq, n, x⟩ = C := ⟨_, rfl⟩
 simp only [hC] at q3
 have HA : Hid (mirrorOk ⟨id, ⟨l, h, b, s⟩, g⟩ t = A) := hA
 have HC : Hid (msgOk ⟨k, f, tt, hq, n, x⟩ = C) := hC
 clear hA hC
 go_enter Tryz.func10, Tryz.ntmps10
 by_cases hti : tt = id
 ·have nt : (tt != id) = false := by simp [hti]
  have HTI : Hid (tt = id) := hti
  clear hti
  go_wp2_with fail
  rw [HW1.out]
  refine (q3 W1 _ (HX.out.later B1.out)).mono ?_
  rintro e W2 ⟨rfl, b2⟩
  have z2 := b2.size
  have B2 := Ke.b B1 b2
  have r_a2 := Ke.r r_a1 b2
  have r_q2 := Ke.r r_q1 b2
  have r_res2 := Ke.r r_res1 b2
  have c_a2 := Ke.c r_a2
  clear r_a1 r_q1 r_res1
  cases C
  ·have HN : Hid (R = (⟨id, ⟨l, h, b, s⟩, g⟩, [])) := by show _ = _; rw [← HR.out]; unfold hear; rw [if_neg (fun q => by rw [HC.out] at q; cases q.2.1)]
   go_wp2_with fail
   refine (q1 W2 _ _ (HS.out.later B2.out) (HSB.out.later B2.out)).mono ?_
   rintro e W3 ⟨v_s, v_p, rfl, o_s3, o_p3, b3⟩
   obtain ⟨lo_s, hi_s, lo_p, hi_p, d1_s, d2_s, d3_s, d4_s, d5_s, d6_s, d7_s, oo_s, oo_p⟩ := Sr.pairN o_s3 o_p3 b3.size
   clear o_s3 o_p3
   obtain ⟨ao_s, L_s, cap_s, rfl, _, _⟩ := oo_s.form
   obtain ⟨ao_p, L_p, cap_p, rfl, _, _⟩ := oo_p.form
   have o_s3 : Hid (Own W3 lo_s hi_s 9 (.slice ao_s L_s cap_s) (ss l)) := oo_s
   have o_p3 : Hid (Own W3 lo_p hi_p 5 (.slice ao_p L_p cap_p) (bs b)) := oo_p
   clear oo_s oo_p
   have z3 := b3.size
   have B3 := Ke.b B2 b3
   have r_a3 := Ke.r r_a2 b3
   have r_q3 := Ke.r r_q2 b3
   have r_res3 := Ke.r r_res2 b3
   have c_a3 := Ke.c r_a3
   have c_q3 := Ke.c r_q3
   clear r_a2 c_a2 r_q2 r_res2
   go_wp2_with (refine wpList_store_row rfl 32 _ _ rfl (w.heap.size + 1 + 1) (mq id (.slice ao_s L_s cap_s) h (.slice ao_p L_p cap_p) s g) rfl rfl 32 _ r_res3.out (sizeQ _ _ _ _ _ _) rfl (oneQ _ _ _ _ rfl rfl) ?_)
   refine bodyPost_ret (res_row_tmp rfl _ _ (w.heap.size + 1 + 1) 32 (mq id (.slice ao_s L_s cap_s) h (.slice ao_p L_p cap_p) s g) (0, 0) _ rfl (setRow_heap _ _ _ _ _ (0, 0) r_res3.out) Tryz.underlying32 rfl (sizeQ _ _ _ _ _ _)) rfl ⟨.slice ao_s L_s cap_s, .slice ao_p L_p cap_p, _, W3.heap.size, by rw [HN.out]; rfl, ?_, ?_, ?_, ?_, ?_, below_setRow B3.out (by omega) _⟩
   ·omega
   ·rw [size_setRow]; omega
   ·rw [HN.out]
    exact (Own.setRow o_s3.out _ (by omega)).mono (by omega) (by omega)
   ·rw [HN.out]
    exact (Own.setRow o_p3.out _ (by omega)).mono (by omega) (by omega)
   ·rw [HN.out]
    exact Om.nil _ _ _ _ _
  ·go_wp2_with fail
   refine (q2 W2 _ _ _ (HG.out.later B2.out) (NoC.later HNC.out B2.out) (HS.out.later B2.out) (HSB.out.later B2.out) (HT.out.later B2.out)).mono ?_
   rintro e W3 ⟨rfl, b3⟩
   have z3 := b3.size
   have B3 := Ke.b B2 b3
   have r_a3 := Ke.r r_a2 b3
   have r_q3 := Ke.r r_q2 b3
   have r_res3 := Ke.r r_res2 b3
   have c_a3 := Ke.c r_a3
   have c_q3 := Ke.c r_q3
   clear r_a2 c_a2 r_q2 r_res2
   cases A
   ·have HN : Hid (R = (⟨id, ⟨l, h, b, s⟩, g⟩, [])) := by show _ = _; rw [← HR.out]; unfold hear; rw [if_neg (fun q => by rw [HA.out] at q; cases q.1)]
    go_wp2_with fail
    refine (q1 W3 _ _ (HS.out.later B3.out) (HSB.out.later B3.out)).mono ?_
    rintro e W4 ⟨v_s, v_p, rfl, o_s4, o_p4, b4⟩
    obtain ⟨lo_s, hi_s, lo_p, hi_p, d1_s, d2_s, d3_s, d4_s, d5_s, d6_s, d7_s, oo_s, oo_p⟩ := Sr.pairN o_s4 o_p4 b4.size
    clear o_s4 o_p4
    obtain ⟨ao_s, L_s, cap_s, rfl, _, _⟩ := oo_s.form
    obtain ⟨ao_p, L_p, cap_p, rfl, _, _⟩ := oo_p.form
    have o_s4 : Hid (Own W4 lo_s hi_s 9 (.slice ao_s L_s cap_s) (ss l)) := oo_s
    have o_p4 : Hid (Own W4 lo_p hi_p 5 (.slice ao_p L_p cap_p) (bs b)) := oo_p
    clear oo_s oo_p
    have z4 := b4.size
    have B4 := Ke.b B3 b4
    have r_res4 := Ke.r r_res3 b4
    clear r_a3 c_a3 r_q3 c_q3 r_res3
    go_wp2_with (refine wpList_store_row rfl 32 _ _ rfl (w.heap.size + 1 + 1) (mq id (.slice ao_s L_s cap_s) h (.slice ao_p L_p cap_p) s g) rfl rfl 32 _ r_res4.out (sizeQ _ _ _ _ _ _) rfl (oneQ _ _ _ _ rfl rfl) ?_)
    refine bodyPost_ret (res_row_tmp rfl _ _ (w.heap.size + 1 + 1) 32 (mq id (.slice ao_s L_s cap_s) h (.slice ao_p L_p cap_p) s g) (0, 0) _ rfl (setRow_heap _ _ _ _ _ (0, 0) r_res4.out) Tryz.underlying32 rfl (sizeQ _ _ _ _ _ _)) rfl ⟨.slice ao_s L_s cap_s, .slice ao_p L_p cap_p, _, W4.heap.size, by rw [HN.out]; rfl, ?_, ?_, ?_, ?_, ?_, below_setRow B4.out (by omega) _⟩
    ·omega
    ·rw [size_setRow]; omega
    ·rw [HN.out]
     exact (Own.setRow o_s4.out _ (by omega)).mono (by omega) (by omega)
    ·rw [HN.out]
     exact (Own.setRow o_p4.out _ (by omega)).mono (by omega) (by omega)
    ·rw [HN.out]
     exact Om.nil _ _ _ _ _
   ·have HN0 : Hid (R = hear1 ⟨id, ⟨l, h, b, s⟩, g⟩ t ⟨k, f, tt, hq, n, x⟩) := by show _ = _; rw [← HR.out]; unfold hear; rw [if_pos ⟨HA.out, HC.out, HTI.out⟩]
    have q5 : ∀ W v1 v2 v3 v4, Glob W → NoC W → Is.Four W a0 a1 a2 a3 → Sl W v1 (ss l) → Sl W v2 (bs b) → Sh W v3 t → Sl W v4 (ss x) → _ := fun W v1 v2 v3 v4 hG hN hF h1 h2 h3 h4 => heard_impl W v1 v2 v3 v4 ⟨id, ⟨l, h, b, s⟩, g⟩ t ⟨k, f, tt, hq, n, x⟩ hG hN hF hhr hgr h1 h2 HBY.out h3 hl hbl htl hz h4 hxl hzx htx hdr HC.out HTI.out
    obtain ⟨⟨i2, ⟨Lx, Hx, Bx, Sx⟩, Gx⟩, Nx, hH⟩ : ∃ a9 b9, hear1 ⟨id, ⟨l, h, b, s⟩, g⟩ t ⟨k, f, tt, hq, n, x⟩ = (a9, b9) := ⟨_, _, rfl⟩
    simp only [hH] at q5
    have HN : Hid (R = (⟨i2, ⟨Lx, Hx, Bx, Sx⟩, Gx⟩, Nx)) := HN0.out.trans hH
    clear hH HN0 hz hzx
    go_wp2_with fail
    refine (q5 W3 _ _ _ _ (HG.out.later B3.out) (NoC.later HNC.out B3.out) (HF.out.later B3.out) (HS.out.later B3.out) (HSB.out.later B3.out) (HT.out.later B3.out) (HX.out.later B3.out)).mono ?_
    rintro e W4 ⟨v_n, v_np, v_o, mid, rfl, dm1, dm2, on, onp, om, b4⟩
    obtain ⟨ao_n, L_n, cap_n, rfl, _, _⟩ := Mem.Own.form on
    obtain ⟨ao_np, L_np, cap_np, rfl, _, _⟩ := Mem.Own.form onp
    obtain ⟨ao_o, L_o, cap_o, rfl, hL8, hL9⟩ := om.form
    clear hL8 hL9 q5
    have o_n4 := Ke.h on
    have o_np4 := Ke.h onp
    have OM := Ke.h om
    clear on onp om
    have z4 := b4.size
    have B4 := Ke.b B3 b4
    have r_res4 := Ke.r r_res3 b4
    clear r_a3 c_a3 r_q3 c_q3 r_res3
    go_wp2_with (refine wpList_store_row rfl 32 _ _ rfl (w.heap.size + 1 + 1) (mq i2 (.slice ao_n L_n cap_n) Hx (.slice ao_np L_np cap_np) Sx Gx) rfl rfl 32 _ r_res4.out (sizeQ _ _ _ _ _ _) rfl (oneQ _ _ _ _ rfl rfl) ?_)
    refine bodyPost_ret (res_row_tmp rfl _ _ (w.heap.size + 1 + 1) 32 (mq i2 (.slice ao_n L_n cap_n) Hx (.slice ao_np L_np cap_np) Sx Gx) (0, 0) _ rfl (setRow_heap _ _ _ _ _ (0, 0) r_res4.out) Tryz.underlying32 rfl (sizeQ _ _ _ _ _ _)) rfl ⟨.slice ao_n L_n cap_n, .slice ao_np L_np cap_np, _, mid, by rw [HN.out]; rfl, ?_, ?_, ?_, ?_, ?_, below_setRow B4.out (by omega) _⟩
    ·omega
    ·rw [size_setRow]; omega
    ·rw [HN.out]
     exact (Own.setRow o_n4.out _ (by omega)).mono (by omega) (by omega)
    ·rw [HN.out]
     exact (Own.setRow o_np4.out _ (by omega)).mono (by omega) (by omega)
    ·rw [HN.out]
     exact (OM.out.setRow _ (by omega)).mono (Nat.le_refl _) (by rw [size_setRow]; omega) (Nat.le_refl _)
 ·have nt : (tt != id) = true := by simp [hti]
  have HN : Hid (R = (⟨id, ⟨l, h, b, s⟩, g⟩, [])) := by show _ = _; rw [← HR.out]; unfold hear; rw [if_neg (fun q => hti q.2.2)]
  go_wp2_with fail
  rw [HW1.out]
  refine (q1 W1 _ _ (HS.out.later B1.out) (HSB.out.later B1.out)).mono ?_
  rintro e W2 ⟨v_s, v_p, rfl, o_s2, o_p2, b2⟩
  obtain ⟨lo_s, hi_s, lo_p, hi_p, d1_s, d2_s, d3_s, d4_s, d5_s, d6_s, d7_s, oo_s, oo_p⟩ := Sr.pairN o_s2 o_p2 b2.size
  clear o_s2 o_p2
  obtain ⟨ao_s, L_s, cap_s, rfl, _, _⟩ := oo_s.form
  obtain ⟨ao_p, L_p, cap_p, rfl, _, _⟩ := oo_p.form
  have o_s2 : Hid (Own W2 lo_s hi_s 9 (.slice ao_s L_s cap_s) (ss l)) := oo_s
  have o_p2 : Hid (Own W2 lo_p hi_p 5 (.slice ao_p L_p cap_p) (bs b)) := oo_p
  clear oo_s oo_p
  have z2 := b2.size
  have B2 := Ke.b B1 b2
  have r_a2 := Ke.r r_a1 b2
  have r_q2 := Ke.r r_q1 b2
  have r_res2 := Ke.r r_res1 b2
  have c_a2 := Ke.c r_a2
  clear r_a1 r_q1 r_res1
  go_wp2_with (refine wpList_store_row rfl 32 _ _ rfl (w.heap.size + 1 + 1) (mq id (.slice ao_s L_s cap_s) h (.slice ao_p L_p cap_p) s g) rfl rfl 32 _ r_res2.out (sizeQ _ _ _ _ _ _) rfl (oneQ _ _ _ _ rfl rfl) ?_)
  refine bodyPost_ret (res_row_tmp rfl _ _ (w.heap.size + 1 + 1) 32 (mq id (.slice ao_s L_s cap_s) h (.slice ao_p L_p cap_p) s g) (0, 0) _ rfl (setRow_heap _ _ _ _ _ (0, 0) r_res2.out) Tryz.underlying32 rfl (sizeQ _ _ _ _ _ _)) rfl ⟨.slice ao_s L_s cap_s, .slice ao_p L_p cap_p, _, W2.heap.size, by rw [HN.out]; rfl, ?_, ?_, ?_, ?_, ?_, below_setRow B2.out (by omega) _⟩
  ·omega
  ·rw [size_setRow]; omega
  ·rw [HN.out]
   exact (Own.setRow o_s2.out _ (by omega)).mono (by omega) (by omega)
  ·rw [HN.out]
   exact (Own.setRow o_p2.out _ (by omega)).mono (by omega) (by omega)
  ·rw [HN.out]
   exact Om.nil _ _ _ _ _
end Go.Proofs.YtchonoonclllbaaGreatDoor.Mi
namespace Go.Proofs.YtchonoonclllbaaGreatDoor.Sr
open Go.RowKit Mem Laws Bytes Sha Tr
set_option maxRecDepth 1000000 in
theorem begins14 (w : World) (v1 v2 : Value) (l m : List ByteArray) (h1 : Sl w v1 (ss l)) (h2 : Sl w v2 (ss m)) (hp : l <+: m) (hm : m.length ≤ 1000000) :
  Calls Tryz.prog 16 #[v1, v2] w fun e w' => e = .returned (.bool true) ∧ Below w.heap.size w w' := by
 obtain ⟨x, rfl⟩ := hp
 have hlm : l.length ≤ (l ++ x).length := by rw [List.length_append]; omega
 have H1 := h1
 have H2 := h2
 obtain ⟨ao1, cap1, rfl, hc1⟩ := h1.form
 obtain ⟨ao2, cap2, rfl, hc2⟩ := h2.form
 simp only [ss_len] at *
 have hf : Sl w (.slice ao2 l.length cap2) (ss l) := by
  have h9 := Sl.front H2 l.length (by rw [ss_len]; exact hlm)
  have e9 : (ss (l ++ x)).take l.length = ss l := by unfold ss; rw [← List.map_take, List.take_left]
  rw [e9] at h9
  exact h9
 have q := Draw.same_true w _ _ l H1 hf (by omega)
 have d2 : (l.length : Int) ≤ (cap2 : Int) := by omega
 obtain ⟨N, hN⟩ : ∃ N, (l ++ x).length = N := ⟨_, rfl⟩
 rw [hN] at hlm ⊢
 have d1 : (l.length : Int) ≤ (N : Int) := by omega
 have d3 : decide ((l.length : Int) ≤ (N : Int)) = true := by simp [d1]
 clear H1 H2 hf h1 h2 hN hc2 hm
 go_enter Tryz.func16, Tryz.ntmps16
 go_wp2_with fail
 refine q.mono ?_
 rintro e w1 ⟨rfl, hb, _⟩
 go_wp2
 go_ret
 exact ⟨rfl, hb _⟩
end Go.Proofs.YtchonoonclllbaaGreatDoor.Sr
namespace Go.Proofs.YtchonoonclllbaaGreatDoor.Sr
theorem tot_leN (N : Nat) : ∀ l : List ByteArray, (∀ s ∈ l, s.size ≤ N) → Puts.tot l ≤ l.length * N := by
 intro l
 induction l with
 | nil => intro _; exact Nat.zero_le _
 | cons a r ih =>
  intro hl
  have h1 := hl a (List.mem_cons_self ..)
  have h2 := ih (fun s hs => hl s (List.mem_cons_of_mem _ hs))
  simp only [Puts.tot, List.length_cons]
  rw [Nat.add_mul]
  omega
theorem tot_le1000 (l : List ByteArray) (hl : l.length ≤ 1000) (h : ∀ s ∈ l, s.size ≤ 1000) : Puts.tot l ≤ 1000000 := by
 have h1 := tot_leN 1000 l h
 have h2 : l.length * 1000 ≤ 1000 * 1000 := Nat.mul_le_mul_right _ hl
 omega
end Go.Proofs.YtchonoonclllbaaGreatDoor.Sr
