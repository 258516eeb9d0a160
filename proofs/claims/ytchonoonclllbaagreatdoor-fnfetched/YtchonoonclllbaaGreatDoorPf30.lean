/- Texts in one: Mj7. -/
import Derived.Test.YtchonoonclllbaaGreatDoorPf29
namespace Go.Proofs.YtchonoonclllbaaGreatDoor.Mi
open Go.RowKit Go.Proofs.YtchonoonclllbaaGreatDoor.Mem Go.Proofs.YtchonoonclllbaaGreatDoor.Laws Go.Proofs.YtchonoonclllbaaGreatDoor.Bytes Go.Proofs.YtchonoonclllbaaGreatDoor.Sha Go.Proofs.YtchonoonclllbaaGreatDoor.Tr Go.Proofs.YtchonoonclllbaaGreatDoor.He Go.Proofs.YtchonoonclllbaaGreatDoor.Lg Go.Proofs.YtchonoonclllbaaGreatDoor.Sr Go.Proofs.YtchonoonclllbaaGreatDoor.Mg
set_option linter.unusedVariables false
set_option linter.unusedSimpArgs false
theorem slMid15 {w : World} {b off L cap : Nat} {l : List ByteArray} (h : Sl w (.slice (some ⟨b, off, none⟩) L cap) (ss l)) (q m : Nat) (hq : q < l.length) (hm : q + m ≤ l.length) : Sl w (.slice (some ⟨b, off + q, none⟩) m (cap - q)) (ss ((l.drop q).take m)) := by
 have h1 := slBack h q (by rw [ss_len]; omega)
 have h2 := Sl.front h1 m (by rw [List.length_drop, ss_len]; omega)
 have e : ss ((l.drop q).take m) = ((ss l).drop q).take m := by unfold ss; rw [List.map_take, List.map_drop]
 rw [e]
 exact h2
theorem eqH_comm14 (a b : Hd) : eqH a b = eqH b a := by
 rw [Bool.eq_iff_iff, eqH_iff, eqH_iff]
 exact ⟨Eq.symm, Eq.symm⟩
set_option maxRecDepth 1000000 in
set_option maxHeartbeats 16000000 in
theorem hearask_impl (w : World) (lo : Nat) (v vb vt vx : Value) (m : Mr) (t : List Hd) (q : Ms) {a0 a1 a2 a3 : Addr} (hG : Glob w) (hF : Is.Four w a0 a1 a2 a3) (hlo : lo ≤ w.heap.size) (h9 : Own w lo w.heap.size 9 v (ss m.st.l)) (h5 : Own w lo w.heap.size 5 vb (bs m.st.b)) (hst : Sh w vt t) (hx : Sl w vx (ss q.x)) (hl : m.st.l.length ≤ 1000000000) (hbl : m.st.b.length ≤ 1000000000) (htl : t.length ≤ 1000000000) (hxl : q.x.length ≤ 1000000000) (hz : ∀ s ∈ m.st.l, s.size ≤ 10000000000) (hzx : ∀ s ∈ q.x, s.size ≤ 10000000000) (htx : Puts.tot q.x ≤ 100000000000) (hdr : q.h.r.size ≤ 100000000000) (hhr : m.st.h.r.size ≤ 1000000000000) (hgr : m.b.r.size ≤ 1000000000000) (hok : msgOk q = true) (hti : q.t = m.id) (hk : q.k = 2) :
  Calls Tryz.prog 88 #[.agg #[.int .i64 m.id, v, .int .i64 m.st.h.n, .string m.st.h.r, vb, .int .i64 m.st.s, .int .i64 m.b.n, .string m.b.r], vt, .agg #[.int .i64 q.k, .int .i64 q.f, .int .i64 q.t, .int .i64 q.h.n, .string q.h.r, .int .i64 q.n, vx]] w fun e w' => ∃ v' vb' vq mid, e = .returned (.tuple #[.agg #[.int .i64 (hear1 m t q).1.id, v', .int .i64 (hear1 m t q).1.st.h.n, .string (hear1 m t q).1.st.h.r, vb', .int .i64 (hear1 m t q).1.st.s, .int .i64 (hear1 m t q).1.b.n, .string (hear1 m t q).1.b.r], vq]) ∧ w.heap.size ≤ mid ∧ mid ≤ w'.heap.size ∧ Own w' lo mid 9 v' (ss (hear1 m t q).1.st.l) ∧ Own w' lo mid 5 vb' (bs (hear1 m t q).1.st.b) ∧ Om w' mid w'.heap.size vq (hear1 m t q).2 ∧ Below w.heap.size w w' := by
 obtain ⟨R, hR⟩ : ∃ R, hear1 m t q = R := ⟨_, rfl⟩
 have HR : Hid (hear1 m t q = R) := hR
 rw [hR]
 obtain ⟨id, ⟨l, h, b, s⟩, g⟩ := m
 obtain ⟨k, f, tt, hq, n, x⟩ := q
 simp only at *
 have HOK : Hid (msgOk ⟨k, f, tt, hq, n, x⟩ = true) := hok
 have HTI : Hid (tt = id) := hti
 have HK : Hid (k = 2) := hk
 have HS : Hid (Sl w v (ss l)) := h9.sl
 have HSB : Hid (Sl w vb (bs b)) := h5.sl
 have HT : Hid (Sh w vt t) := hst
 have HX : Hid (Sl w vx (ss x)) := hx
 have HG : Hid (Glob w) := hG
 have HF : Hid (Is.Four w a0 a1 a2 a3) := hF
 obtain ⟨ao2, cap2, rfl, hc2⟩ := hst.form
 obtain ⟨ao3, cap3, rfl, hc3⟩ := hx.form
 obtain ⟨ao_v, L_v, cap_v, rfl, hv1, hv2⟩ := Mem.Own.form h9
 obtain ⟨ao_p, L_p, cap_p, rfl, hp1, hp2⟩ := Mem.Own.form h5
 simp only [ss_len, bs_len] at *
 obtain rfl : L_v = l.length := by omega
 obtain rfl : L_p = b.length := by omega
 have o_v0 : Hid (Own w lo w.heap.size 9 (.slice ao_v l.length cap_v) (ss l)) := h9
 have o_p0 : Hid (Own w lo w.heap.size 5 (.slice ao_p b.length cap_p) (bs b)) := h5
 clear hst hx hR h9 h5 hv1 hv2 hp1 hp2 hok hti hk hG hF
 obtain ⟨hn, hr⟩ := hq
 simp only at *
 have hn9 : 0 ≤ n ∧ n < hn := by
  have h1 := msg_parts HOK.out
  have h2 := h1.2.2.2.2.2
  unfold Mg.kindOk at h2
  simp only at h2
  rw [if_neg (by rw [HK.out]; decide), if_pos HK.out] at h2
  simp only [Bool.and_eq_true, decide_eq_true_eq] at h2
  exact ⟨h1.2.2.2.2.1.1, h2.1⟩
 obtain ⟨n0, rfl⟩ : ∃ n0 : Nat, n = (n0 : Int) := ⟨n.toNat, by omega⟩
 obtain ⟨N, rfl⟩ : ∃ N : Nat, hn = (N : Int) := ⟨hn.toNat, by omega⟩
 have HR2 : Hid (R = (⟨id, ⟨l, h, b, s⟩, g⟩, answer ⟨id, ⟨l, h, b, s⟩, g⟩ ⟨k, f, tt, ⟨(N : Int), hr⟩, (n0 : Int), x⟩)) := by show _ = _; rw [← HR.out]; unfold hear1; simp only; rw [if_neg (by rw [HK.out]; decide), if_pos HK.out]
 clear HR
 by_cases hlt : (l.length : Int) < (N : Int)
 ·
  have HN : Hid (R = (⟨id, ⟨l, h, b, s⟩, g⟩, [])) := by show _ = _; rw [HR2.out]; unfold answer; simp only; rw [if_neg (by omega)]
  have B0 : Hid (Below w.heap.size w w) := Below.refl _ _
  obtain ⟨W1, HW1, b1, y1, hS1, r_a1, r_q1, r_res1⟩ := Ke.l3 w #[.int .i64 id, .slice ao_v l.length cap_v, .int .i64 h.n, .string h.r, .slice ao_p b.length cap_p, .int .i64 s, .int .i64 g.n, .string g.r] 32 #[.int .i64 k, .int .i64 f, .int .i64 tt, .int .i64 (N : Int), .string hr, .int .i64 (n0 : Int), .slice ao3 x.length cap3] 35 #[.int .i64 0, .slice none 0 0, .int .i64 0, .string ⟨#[]⟩, .slice none 0 0, .int .i64 0, .int .i64 0, .string ⟨#[]⟩] 32
  have z1 := b1.size
  have B1 := Ke.b B0 b1
  have o_v1 := Ke.o o_v0 b1
  have o_p1 := Ke.o o_p0 b1
  have c_a1 := Ke.c r_a1
  have c_q1 := Ke.c r_q1
  have c_res1 := Ke.c r_res1
  clear o_v0 o_p0
  go_enter Tryz.func88, Tryz.ntmps88
  go_wp2_with fail
  rw [HW1.out]
  refine wp_region_held_drew (S := fun w' => w'.cell? ⟨w.heap.size + 1, 0, none⟩ = some (.int .i64 k) ∧ w'.cell? ⟨w.heap.size + 1, 1, none⟩ = some (.int .i64 f) ∧ w'.cell? ⟨w.heap.size + 1, 2, none⟩ = some (.int .i64 tt) ∧ w'.cell? ⟨w.heap.size + 1, 3, none⟩ = some (.int .i64 (N : Int)) ∧ w'.cell? ⟨w.heap.size + 1, 4, none⟩ = some (.string hr) ∧ w'.cell? ⟨w.heap.size + 1, 5, none⟩ = some (.int .i64 (n0 : Int)) ∧ w'.cell? ⟨w.heap.size + 1, 6, none⟩ = some (.slice ao3 x.length cap3)) (by kernel_rfl) ⟨(c_q1 0), (c_q1 1), (c_q1 2), (c_q1 3), (c_q1 4), (c_q1 5), (c_q1 6)⟩ (fun hHeld => ?_)
  refine Ke.y 0 rfl (fun _ _ _ h => h) ?_
  try simp only [Act.put, pu1, pu2, pu3, pu4, pu5, pu6]
  refine Ke.y 1 rfl (fun _ _ _ h => h) ?_
  try simp only [Act.put, pu1, pu2, pu3, pu4, pu5, pu6]
  refine Ke.y 2 rfl (fun _ _ _ h => h) ?_
  try simp only [Act.put, pu1, pu2, pu3, pu4, pu5, pu6]
  refine Ke.y 3 rfl (fun _ _ _ h => h) ?_
  try simp only [Act.put, pu1, pu2, pu3, pu4, pu5, pu6]
  refine Ke.y 4 rfl (fun _ _ _ h => h) ?_
  try simp only [Act.put, pu1, pu2, pu3, pu4, pu5, pu6]
  refine Ke.y 5 rfl (fun _ _ _ h => h) ?_
  try simp only [Act.put, pu1, pu2, pu3, pu4, pu5, pu6]
  refine Ke.y 6 rfl (fun _ _ _ h => h) ?_
  try simp only [Act.put, pu1, pu2, pu3, pu4, pu5, pu6]
  refine Ke.x 7 rfl (fun _ _ _ h => h) ?_
  try simp only [Act.put, pu1, pu2, pu3, pu4, pu5, pu6]
  refine Ke.x 8 rfl (fun _ _ _ h => h) ?_
  try simp only [Act.put, pu1, pu2, pu3, pu4, pu5, pu6]
  refine Ke.x 9 rfl (fun _ _ _ h => h) ?_
  try simp only [Act.put, pu1, pu2, pu3, pu4, pu5, pu6]
  refine Ke.x 10 rfl (fun _ _ _ h => h) ?_
  try simp only [Act.put, pu1, pu2, pu3, pu4, pu5, pu6]
  refine Ke.x 11 rfl (fun _ _ _ h => h) ?_
  try simp only [Act.put, pu1, pu2, pu3, pu4, pu5, pu6]
  refine Ke.x 12 rfl (fun _ _ _ h => h) ?_
  try simp only [Act.put, pu1, pu2, pu3, pu4, pu5, pu6]
  refine Ke.x 13 rfl (fun _ _ _ h => h) ?_
  try simp only [Act.put, pu1, pu2, pu3, pu4, pu5, pu6]
  refine Ke.x 14 rfl (fun _ _ _ h => h) ?_
  try simp only [Act.put, pu1, pu2, pu3, pu4, pu5, pu6]
  refine Ke.x 15 rfl (fun _ _ _ h => h) ?_
  try simp only [Act.put, pu1, pu2, pu3, pu4, pu5, pu6]
  refine Ke.y 16 rfl (fun _ _ _ h => h) ?_
  try simp only [Act.put, pu1, pu2, pu3, pu4, pu5, pu6]
  refine wpAnyH_done (by kernel_rfl) ?_ _
  clear hHeld
  obtain ⟨W2, HW2, b2⟩ : ∃ X, Hid (W1.drew = X) ∧ Below W1.heap.size W1 X := ⟨_, rfl, Below.drew (Below.refl _ _)⟩
  rw [HW2.out]
  have z2 := b2.size
  have B2 := Ke.b B1 b2
  have r_a2 := Ke.r r_a1 b2
  have r_q2 := Ke.r r_q1 b2
  have r_res2 := Ke.r r_res1 b2
  have o_v2 := Ke.o o_v1 b2
  have o_p2 := Ke.o o_p1 b2
  have c_a2 := Ke.c r_a2
  have c_q2 := Ke.c r_q2
  have c_res2 := Ke.c r_res2
  clear r_a1 c_a1 r_q1 c_q1 r_res1 c_res1 o_v1 o_p1
  go_wp2_with (first | (refine wpList_load_row rfl 32 _ rfl (w.heap.size) rfl 32 (mq id (.slice ao_v l.length cap_v) h (.slice ao_p b.length cap_p) s g) (0, 0) _ r_a2.out Tryz.underlying32 rfl (sizeQ _ _ _ _ _ _) ?_) | (refine wpList_store_row rfl 32 _ _ rfl (w.heap.size + 1 + 1) (mq id (.slice ao_v l.length cap_v) h (.slice ao_p b.length cap_p) s g) rfl rfl 32 _ r_res2.out (sizeQ _ _ _ _ _ _) rfl (oneQ _ _ _ _ rfl rfl) ?_))
  refine bodyPost_ret (res_row_tmp rfl _ _ (w.heap.size + 1 + 1) 32 (mq id (.slice ao_v l.length cap_v) h (.slice ao_p b.length cap_p) s g) (0, 0) _ rfl (setRow_heap _ _ _ _ _ (0, 0) r_res2.out) Tryz.underlying32 rfl (sizeQ _ _ _ _ _ _)) rfl ⟨.slice ao_v l.length cap_v, .slice ao_p b.length cap_p, _, w.heap.size, by rw [HN.out]; rfl, ?_, ?_, ?_, ?_, ?_, below_setRow B2.out (by omega) _⟩
  ·
   omega
  ·
   rw [size_setRow]; omega
  ·
   rw [HN.out]
   exact (Own.setRow o_v2.out _ (by omega)).mono (by omega) (by omega)
  ·
   rw [HN.out]
   exact (Own.setRow o_p2.out _ (by omega)).mono (by omega) (by omega)
  ·
   rw [HN.out]
   exact Om.nil _ _ _ _ _
 ·
  obtain ⟨ga, of, cap0, hve, hc0⟩ := slForm HS.out (by rw [ss_len]; omega)
  simp only [Value.slice.injEq] at hve
  obtain ⟨rfl, _, rfl⟩ := hve
  simp only [ss_len] at *
  have hN : N ≤ l.length := by omega
  have hn2 : n0 < N := by omega
  have hNc : N ≤ cap_v := by omega
  have hn3 : n0 ≤ N := by omega
  have hcn : ¬ cap_v = n0 := by omega
  have d1 : ¬ l.length < N := by omega
  have hlt2 : decide (l.length < N) = false := decide_eq_false d1
  have HFF : Hid (∀ W, Below w.heap.size w W → Sl W (.slice (some ⟨ga, of, none⟩) N cap_v) (ss (l.take N)) ∧ Sl W (.slice (some ⟨ga, of + n0, none⟩) (N - n0) (cap_v - n0)) (ss ((l.take N).drop n0))) := by
   intro W hW
   have h9 := HS.out.later hW
   refine ⟨?_, ?_⟩
   ·
    have h8 := Sl.front h9 N (by rw [ss_len]; omega)
    have e8 : ss (l.take N) = (ss l).take N := by { unfold ss; rw [List.map_take] }
    rw [e8]; exact h8
   ·
    rw [List.drop_take]
    exact slMid15 h9 n0 (N - n0) (by omega) (by omega)
  obtain ⟨Xs, hX⟩ : ∃ Xs, (l.take N).drop n0 = Xs := ⟨_, rfl⟩
  have hXl : Xs.length ≤ 1000000000 := by rw [← hX, List.length_drop, List.length_take]; omega
  have hXz : ∀ s ∈ Xs, s.size ≤ 1000000000000 := fun s hs => Nat.le_trans (hz s (List.mem_of_mem_take (List.mem_of_mem_drop (by rw [hX]; exact hs)))) (by omega)
  rw [hX] at HFF
  obtain ⟨M, hM⟩ : ∃ M, headOf (l.take N) = M := ⟨_, rfl⟩
  obtain ⟨E, hE⟩ : ∃ E, eqH ⟨(N : Int), hr⟩ M = E := ⟨_, rfl⟩
  have e1 : ∀ W, (binOp .neq 26 (.agg #[.int .i64 M.n, .string M.r]) (.agg #[.int .i64 (N : Int), .string hr])).run Tryz.prog W = .ok (.bool (!E)) W := fun W => by have h9 := neqH W M ⟨(N : Int), hr⟩; rw [eqH_comm14, hE] at h9; exact h9
  have e2 : ∀ W op y z xs ys, _ := fun W op y z xs ys => grdH W op y z xs ys
  have q1 : ∀ W v1, Glob W → Sl W v1 (ss (l.take N)) → _ := fun W v1 hG h1 => headOf_impl W v1 (l.take N) hG h1 (by rw [List.length_take]; omega) (fun s hs => hz s (List.mem_of_mem_take hs))
  simp only [hM] at q1
  have q2 : ∀ W v1, Sl W v1 (ss Xs) → _ := fun W v1 h1 => Ed.texts_impl W v1 Xs h1 hXl hXz
  have q3 : ∀ W, _ := fun W => own_impl W ⟨(N : Int), hr⟩ (by simp only; omega)
  simp only at q3
  have HD : Hid (R = (⟨id, ⟨l, h, b, s⟩, g⟩, if E = true then [⟨3, id, f, ⟨(N : Int), hr⟩, (n0 : Int), Xs⟩] else [])) := by
   show _ = _
   rw [HR2.out]
   unfold answer
   simp only [Int.toNat_natCast]
   rw [hM, hX, hE]
   cases E
   ·
    rw [if_neg (by simp), if_neg (by simp)]
   ·
    rw [if_pos ⟨by omega, rfl⟩, if_pos rfl]
  clear HR2 hX hM hE hz
  have B0 : Hid (Below w.heap.size w w) := Below.refl _ _
  obtain ⟨W1, HW1, b1, y1, hS1, r_a1, r_q1, r_res1⟩ := Ke.l3 w #[.int .i64 id, .slice (some ⟨ga, of, none⟩) l.length cap_v, .int .i64 h.n, .string h.r, .slice ao_p b.length cap_p, .int .i64 s, .int .i64 g.n, .string g.r] 32 #[.int .i64 k, .int .i64 f, .int .i64 tt, .int .i64 (N : Int), .string hr, .int .i64 (n0 : Int), .slice ao3 x.length cap3] 35 #[.int .i64 0, .slice none 0 0, .int .i64 0, .string ⟨#[]⟩, .slice none 0 0, .int .i64 0, .int .i64 0, .string ⟨#[]⟩] 32
  have z1 := b1.size
  have B1 := Ke.b B0 b1
  have o_v1 := Ke.o o_v0 b1
  have o_p1 := Ke.o o_p0 b1
  have c_a1 := Ke.c r_a1
  have c_q1 := Ke.c r_q1
  have c_res1 := Ke.c r_res1
  clear o_v0 o_p0
  go_enter Tryz.func88, Tryz.ntmps88
  go_wp2_with fail
  rw [HW1.out]
  refine wp_region_held_drew (S := fun w' => w'.cell? ⟨w.heap.size + 1, 0, none⟩ = some (.int .i64 k) ∧ w'.cell? ⟨w.heap.size + 1, 1, none⟩ = some (.int .i64 f) ∧ w'.cell? ⟨w.heap.size + 1, 2, none⟩ = some (.int .i64 tt) ∧ w'.cell? ⟨w.heap.size + 1, 3, none⟩ = some (.int .i64 (N : Int)) ∧ w'.cell? ⟨w.heap.size + 1, 4, none⟩ = some (.string hr) ∧ w'.cell? ⟨w.heap.size + 1, 5, none⟩ = some (.int .i64 (n0 : Int)) ∧ w'.cell? ⟨w.heap.size + 1, 6, none⟩ = some (.slice ao3 x.length cap3)) (by kernel_rfl) ⟨(c_q1 0), (c_q1 1), (c_q1 2), (c_q1 3), (c_q1 4), (c_q1 5), (c_q1 6)⟩ (fun hHeld => ?_)
  refine Ke.y 0 rfl (fun _ _ _ h => h) ?_
  try simp only [Act.put, pu1, pu2, pu3, pu4, pu5, pu6]
  refine Ke.y 1 rfl (fun _ _ _ h => h) ?_
  try simp only [Act.put, pu1, pu2, pu3, pu4, pu5, pu6]
  refine Ke.y 2 rfl (fun _ _ _ h => h) ?_
  try simp only [Act.put, pu1, pu2, pu3, pu4, pu5, pu6]
  refine Ke.y 3 rfl (fun _ _ _ h => h) ?_
  try simp only [Act.put, pu1, pu2, pu3, pu4, pu5, pu6]
  refine Ke.y 4 rfl (fun _ _ _ h => h) ?_
  try simp only [Act.put, pu1, pu2, pu3, pu4, pu5, pu6]
  refine Ke.y 5 rfl (fun _ _ _ h => h) ?_
  try simp only [Act.put, pu1, pu2, pu3, pu4, pu5, pu6]
  refine Ke.y 6 rfl (fun _ _ _ h => h) ?_
  try simp only [Act.put, pu1, pu2, pu3, pu4, pu5, pu6]
  refine Ke.y 7 rfl (fun _ _ _ h => h) ?_
  try simp only [Act.put, pu1, pu2, pu3, pu4, pu5, pu6]
  refine Ke.y 8 rfl (fun _ _ _ h => h) ?_
  try simp only [Act.put, pu1, pu2, pu3, pu4, pu5, pu6]
  refine Ke.y 9 rfl (fun _ _ _ h => h) ?_
  try simp only [Act.put, pu1, pu2, pu3, pu4, pu5, pu6]
  refine Ke.y 10 rfl (fun _ _ _ h => h) ?_
  try simp only [Act.put, pu1, pu2, pu3, pu4, pu5, pu6]
  refine Ke.y 11 rfl (fun _ _ _ h => h) ?_
  try simp only [Act.put, pu1, pu2, pu3, pu4, pu5, pu6]
  refine Ke.y 13 rfl (fun _ _ _ h => h) ?_
  try simp only [Act.put, pu1, pu2, pu3, pu4, pu5, pu6]
  refine Ke.y 14 rfl (fun _ _ _ h => h) ?_
  try simp only [Act.put, pu1, pu2, pu3, pu4, pu5, pu6]
  refine Ke.z 12 rfl (fun K hK => ?_)
  go_simp
  refine (q1 W1.drew _ ((HG.out.later B1.out).later (Below.drew (Below.refl _ _))) (HFF.out _ (Below.drew B1.out)).1).mono ?_
  rintro e W2 ⟨rfl, b2⟩
  have b2 : Below W1.heap.size W1 W2 := (Below.drew (Below.refl _ _)).trans b2
  refine hK.out _ _ ⟨(keepR (W := W1) hHeld.1 b2), (keepR (W := W1) hHeld.2.1 b2), (keepR (W := W1) hHeld.2.2.1 b2), (keepR (W := W1) hHeld.2.2.2.1 b2), (keepR (W := W1) hHeld.2.2.2.2.1 b2), (keepR (W := W1) hHeld.2.2.2.2.2.1 b2), (keepR (W := W1) hHeld.2.2.2.2.2.2 b2)⟩ (fun hHeld => ?_)
  clear hK K
  try simp only [Act.put, pu1, pu2, pu3, pu4, pu5, pu6]
  have z2 := b2.size
  have B2 := Ke.b B1 b2
  have r_a2 := Ke.r r_a1 b2
  have r_q2 := Ke.r r_q1 b2
  have r_res2 := Ke.r r_res1 b2
  have o_v2 := Ke.o o_v1 b2
  have o_p2 := Ke.o o_p1 b2
  have c_a2 := Ke.c r_a2
  have c_q2 := Ke.c r_q2
  have c_res2 := Ke.c r_res2
  clear r_a1 c_a1 r_q1 c_q1 r_res1 c_res1 o_v1 o_p1
  refine Ke.y 15 rfl (fun _ _ _ h => h) ?_
  try simp only [Act.put, pu1, pu2, pu3, pu4, pu5, pu6]
  refine Ke.y 16 rfl (fun _ _ _ h => h) ?_
  try simp only [Act.put, pu1, pu2, pu3, pu4, pu5, pu6]
  refine wpAnyH_done (by kernel_rfl) ?_ _
  clear hHeld
  clear q1
  cases E
  ·
   have HN : Hid (R = (⟨id, ⟨l, h, b, s⟩, g⟩, [])) := by show _ = _; rw [HD.out]; rfl
   go_wp2_with (first | (refine wpList_load_row rfl 32 _ rfl (w.heap.size) rfl 32 (mq id (.slice (some ⟨ga, of, none⟩) l.length cap_v) h (.slice ao_p b.length cap_p) s g) (0, 0) _ r_a2.out Tryz.underlying32 rfl (sizeQ _ _ _ _ _ _) ?_) | (refine wpList_store_row rfl 32 _ _ rfl (w.heap.size + 1 + 1) (mq id (.slice (some ⟨ga, of, none⟩) l.length cap_v) h (.slice ao_p b.length cap_p) s g) rfl rfl 32 _ r_res2.out (sizeQ _ _ _ _ _ _) rfl (oneQ _ _ _ _ rfl rfl) ?_))
   refine bodyPost_ret (res_row_tmp rfl _ _ (w.heap.size + 1 + 1) 32 (mq id (.slice (some ⟨ga, of, none⟩) l.length cap_v) h (.slice ao_p b.length cap_p) s g) (0, 0) _ rfl (setRow_heap _ _ _ _ _ (0, 0) r_res2.out) Tryz.underlying32 rfl (sizeQ _ _ _ _ _ _)) rfl ⟨.slice (some ⟨ga, of, none⟩) l.length cap_v, .slice ao_p b.length cap_p, _, w.heap.size, by rw [HN.out]; rfl, ?_, ?_, ?_, ?_, ?_, below_setRow B2.out (by omega) _⟩
   ·
    omega
   ·
    rw [size_setRow]; omega
   ·
    rw [HN.out]
    exact (Own.setRow o_v2.out _ (by omega)).mono (by omega) (by omega)
   ·
    rw [HN.out]
    exact (Own.setRow o_p2.out _ (by omega)).mono (by omega) (by omega)
   ·
    rw [HN.out]
    exact Om.nil _ _ _ _ _
  ·
   have HN : Hid (R = (⟨id, ⟨l, h, b, s⟩, g⟩, [⟨3, id, f, ⟨(N : Int), hr⟩, (n0 : Int), Xs⟩])) := by show _ = _; rw [HD.out]; rfl
   go_wp2_with fail
   refine (q2 W2 _ (HFF.out _ B2.out).2).mono ?_
   rintro e W3 ⟨v_u, rfl, o_u3, b3⟩
   obtain ⟨ao_u, L_u, cap_u, rfl, hL_u, hM_u⟩ := o_u3.form
   have o_u3 : Hid (Own W3 W2.heap.size W3.heap.size 9 (.slice ao_u L_u cap_u) (ss Xs)) := o_u3
   clear hL_u hM_u
   have z3 := b3.size
   have B3 := Ke.b B2 b3
   have r_a3 := Ke.r r_a2 b3
   have r_q3 := Ke.r r_q2 b3
   have r_res3 := Ke.r r_res2 b3
   have o_v3 := Ke.o o_v2 b3
   have o_p3 := Ke.o o_p2 b3
   have c_a3 := Ke.c r_a3
   have c_q3 := Ke.c r_q3
   have c_res3 := Ke.c r_res3
   clear r_a2 c_a2 r_q2 c_q2 r_res2 c_res2 o_v2 o_p2
   go_wp2_with fail
   refine wp_region_held_drew (S := fun w' => w'.cell? ⟨w.heap.size, 0, none⟩ = some (.int .i64 id) ∧ w'.cell? ⟨w.heap.size, 1, none⟩ = some (.slice (some ⟨ga, of, none⟩) l.length cap_v) ∧ w'.cell? ⟨w.heap.size, 2, none⟩ = some (.int .i64 h.n) ∧ w'.cell? ⟨w.heap.size, 3, none⟩ = some (.string h.r) ∧ w'.cell? ⟨w.heap.size, 4, none⟩ = some (.slice ao_p b.length cap_p) ∧ w'.cell? ⟨w.heap.size, 5, none⟩ = some (.int .i64 s) ∧ w'.cell? ⟨w.heap.size, 6, none⟩ = some (.int .i64 g.n) ∧ w'.cell? ⟨w.heap.size, 7, none⟩ = some (.string g.r) ∧ w'.cell? ⟨w.heap.size + 1, 0, none⟩ = some (.int .i64 k) ∧ w'.cell? ⟨w.heap.size + 1, 1, none⟩ = some (.int .i64 f) ∧ w'.cell? ⟨w.heap.size + 1, 2, none⟩ = some (.int .i64 tt) ∧ w'.cell? ⟨w.heap.size + 1, 3, none⟩ = some (.int .i64 (N : Int)) ∧ w'.cell? ⟨w.heap.size + 1, 4, none⟩ = some (.string hr) ∧ w'.cell? ⟨w.heap.size + 1, 5, none⟩ = some (.int .i64 (n0 : Int)) ∧ w'.cell? ⟨w.heap.size + 1, 6, none⟩ = some (.slice ao3 x.length cap3)) (by kernel_rfl) ⟨(c_a3 0), (c_a3 1), (c_a3 2), (c_a3 3), (c_a3 4), (c_a3 5), (c_a3 6), (c_a3 7), (c_q3 0), (c_q3 1), (c_q3 2), (c_q3 3), (c_q3 4), (c_q3 5), (c_q3 6)⟩ (fun hHeld => ?_)
   refine Ke.y 0 rfl (fun _ _ _ h => h) ?_
   try simp only [Act.put, pu1, pu2, pu3, pu4, pu5, pu6]
   refine Ke.y 1 rfl (fun _ _ _ h => h) ?_
   try simp only [Act.put, pu1, pu2, pu3, pu4, pu5, pu6]
   refine Ke.y 2 rfl (fun _ _ _ h => h) ?_
   try simp only [Act.put, pu1, pu2, pu3, pu4, pu5, pu6]
   refine Ke.y 3 rfl (fun _ _ _ h => h) ?_
   try simp only [Act.put, pu1, pu2, pu3, pu4, pu5, pu6]
   refine Ke.y 4 rfl (fun _ _ _ h => h) ?_
   try simp only [Act.put, pu1, pu2, pu3, pu4, pu5, pu6]
   refine Ke.y 5 rfl (fun _ _ _ h => h) ?_
   try simp only [Act.put, pu1, pu2, pu3, pu4, pu5, pu6]
   refine Ke.y 6 rfl (fun _ _ _ h => h) ?_
   try simp only [Act.put, pu1, pu2, pu3, pu4, pu5, pu6]
   refine Ke.y 8 rfl (fun _ _ _ h => h) ?_
   try simp only [Act.put, pu1, pu2, pu3, pu4, pu5, pu6]
   refine Ke.y 9 rfl (fun _ _ _ h => h) ?_
   try simp only [Act.put, pu1, pu2, pu3, pu4, pu5, pu6]
   refine Ke.y 10 rfl (fun _ _ _ h => h) ?_
   try simp only [Act.put, pu1, pu2, pu3, pu4, pu5, pu6]
   refine Ke.z 7 rfl (fun K hK => ?_)
   go_simp
   refine (q3 W3.drew).mono ?_
   rintro e W4 ⟨rfl, b4⟩
   have b4 : Below W3.heap.size W3 W4 := (Below.drew (Below.refl _ _)).trans b4
   refine hK.out _ _ ⟨(keepR (W := W3) hHeld.1 b4), (keepR (W := W3) hHeld.2.1 b4), (keepR (W := W3) hHeld.2.2.1 b4), (keepR (W := W3) hHeld.2.2.2.1 b4), (keepR (W := W3) hHeld.2.2.2.2.1 b4), (keepR (W := W3) hHeld.2.2.2.2.2.1 b4), (keepR (W := W3) hHeld.2.2.2.2.2.2.1 b4), (keepR (W := W3) hHeld.2.2.2.2.2.2.2.1 b4), (keepR (W := W3) hHeld.2.2.2.2.2.2.2.2.1 b4), (keepR (W := W3) hHeld.2.2.2.2.2.2.2.2.2.1 b4), (keepR (W := W3) hHeld.2.2.2.2.2.2.2.2.2.2.1 b4), (keepR (W := W3) hHeld.2.2.2.2.2.2.2.2.2.2.2.1 b4), (keepR (W := W3) hHeld.2.2.2.2.2.2.2.2.2.2.2.2.1 b4), (keepR (W := W3) hHeld.2.2.2.2.2.2.2.2.2.2.2.2.2.1 b4), (keepR (W := W3) hHeld.2.2.2.2.2.2.2.2.2.2.2.2.2.2 b4)⟩ (fun hHeld => ?_)
   clear hK K
   try simp only [Act.put, pu1, pu2, pu3, pu4, pu5, pu6]
   have z4 := b4.size
   have B4 := Ke.b B3 b4
   have r_a4 := Ke.r r_a3 b4
   have r_q4 := Ke.r r_q3 b4
   have r_res4 := Ke.r r_res3 b4
   have o_v4 := Ke.o o_v3 b4
   have o_p4 := Ke.o o_p3 b4
   have o_u4 := Ke.o o_u3 b4
   have c_a4 := Ke.c r_a4
   have c_q4 := Ke.c r_q4
   have c_res4 := Ke.c r_res4
   clear r_a3 c_a3 r_q3 c_q3 r_res3 c_res3 o_v3 o_p3 o_u3
   refine Ke.y 11 rfl (fun _ _ _ h => h) ?_
   try simp only [Act.put, pu1, pu2, pu3, pu4, pu5, pu6]
   refine wpAnyH_ready (rs := [12, 13]) (by kernel_rfl) (by simp) ?_
   refine AllReadyH.cons rfl (fun K hK => ?_) (AllReadyH.cons rfl (fun K hK => ?_) AllReadyH.nil)
   ·
    go_simp
    refine hK.out _ _ ⟨(keepR (W := W4) hHeld.1 ((Below.refl _ _).alloc (Nat.le_refl _) _)), (keepR (W := W4) hHeld.2.1 ((Below.refl _ _).alloc (Nat.le_refl _) _)), (keepR (W := W4) hHeld.2.2.1 ((Below.refl _ _).alloc (Nat.le_refl _) _)), (keepR (W := W4) hHeld.2.2.2.1 ((Below.refl _ _).alloc (Nat.le_refl _) _)), (keepR (W := W4) hHeld.2.2.2.2.1 ((Below.refl _ _).alloc (Nat.le_refl _) _)), (keepR (W := W4) hHeld.2.2.2.2.2.1 ((Below.refl _ _).alloc (Nat.le_refl _) _)), (keepR (W := W4) hHeld.2.2.2.2.2.2.1 ((Below.refl _ _).alloc (Nat.le_refl _) _)), (keepR (W := W4) hHeld.2.2.2.2.2.2.2.1 ((Below.refl _ _).alloc (Nat.le_refl _) _)), (keepR (W := W4) hHeld.2.2.2.2.2.2.2.2.1 ((Below.refl _ _).alloc (Nat.le_refl _) _)), (keepR (W := W4) hHeld.2.2.2.2.2.2.2.2.2.1 ((Below.refl _ _).alloc (Nat.le_refl _) _)), (keepR (W := W4) hHeld.2.2.2.2.2.2.2.2.2.2.1 ((Below.refl _ _).alloc (Nat.le_refl _) _)), (keepR (W := W4) hHeld.2.2.2.2.2.2.2.2.2.2.2.1 ((Below.refl _ _).alloc (Nat.le_refl _) _)), (keepR (W := W4) hHeld.2.2.2.2.2.2.2.2.2.2.2.2.1 ((Below.refl _ _).alloc (Nat.le_refl _) _)), (keepR (W := W4) hHeld.2.2.2.2.2.2.2.2.2.2.2.2.2.1 ((Below.refl _ _).alloc (Nat.le_refl _) _)), (keepR (W := W4) hHeld.2.2.2.2.2.2.2.2.2.2.2.2.2.2 ((Below.refl _ _).alloc (Nat.le_refl _) _))⟩ (fun hHeld => ?_)
    clear hK K
    try simp only [Act.put, pu1, pu2, pu3, pu4, pu5, pu6]
    obtain ⟨W5, HW5, b5, ff5⟩ : ∃ X, Hid ((W4.alloc (.cells #[.int .i64 3, .int .i64 id, .int .i64 f, .int .i64 (N : Int), .string hr, .int .i64 (n0 : Int), .slice ao_u L_u cap_u] 35)) = X) ∧ Below W4.heap.size W4 X ∧ Hid (Om X W2.heap.size X.heap.size (.slice (some ⟨W4.heap.size, 0, none⟩) 1 1) [⟨3, id, f, ⟨(N : Int), hr⟩, (n0 : Int), Xs⟩]) := ⟨_, rfl, ((Below.refl _ _).alloc (Nat.le_refl _) _), Om.one ⟨3, id, f, ⟨(N : Int), hr⟩, (n0 : Int), Xs⟩ (Own.mono o_u4.out (by omega) (by omega)) (by omega)⟩
    have HHW5 := HW5.out
    rw [HHW5] at hHeld ⊢
    clear HHW5
    have z5 := b5.size
    have B5 := Ke.b B4 b5
    have r_a5 := Ke.r r_a4 b5
    have r_q5 := Ke.r r_q4 b5
    have r_res5 := Ke.r r_res4 b5
    have o_v5 := Ke.o o_v4 b5
    have o_p5 := Ke.o o_p4 b5
    have o_u5 := Ke.o o_u4 b5
    have c_a5 := Ke.c r_a5
    have c_q5 := Ke.c r_q5
    have c_res5 := Ke.c r_res5
    clear r_a4 c_a4 r_q4 c_q4 r_res4 c_res4 o_v4 o_p4 o_u4
    have f_om5 : Hid (Om W5 W2.heap.size W5.heap.size (.slice (some ⟨W4.heap.size, 0, none⟩) 1 1) [⟨3, id, f, ⟨(N : Int), hr⟩, (n0 : Int), Xs⟩]) := ff5.out
    clear ff5
    have OM := f_om5
    refine Ke.z 13 rfl (fun K hK => ?_)
    rw [if_pos (by rfl)]
    refine wp_store_row 32 _ _ rfl (w.heap.size + 1 + 1) (mq id (.slice (some ⟨ga, of, none⟩) l.length cap_v) h (.slice ao_p b.length cap_p) s g) rfl rfl 32 _ r_res5.out (sizeQ _ _ _ _ _ _) rfl (oneQ _ _ _ _ rfl rfl) ?_
    refine hK.out _ _ ⟨(cell_row (by show w.heap.size ≠ w.heap.size + 1 + 1; omega) hHeld.1), (cell_row (by show w.heap.size ≠ w.heap.size + 1 + 1; omega) hHeld.2.1), (cell_row (by show w.heap.size ≠ w.heap.size + 1 + 1; omega) hHeld.2.2.1), (cell_row (by show w.heap.size ≠ w.heap.size + 1 + 1; omega) hHeld.2.2.2.1), (cell_row (by show w.heap.size ≠ w.heap.size + 1 + 1; omega) hHeld.2.2.2.2.1), (cell_row (by show w.heap.size ≠ w.heap.size + 1 + 1; omega) hHeld.2.2.2.2.2.1), (cell_row (by show w.heap.size ≠ w.heap.size + 1 + 1; omega) hHeld.2.2.2.2.2.2.1), (cell_row (by show w.heap.size ≠ w.heap.size + 1 + 1; omega) hHeld.2.2.2.2.2.2.2.1), (cell_row (by show w.heap.size + 1 ≠ w.heap.size + 1 + 1; omega) hHeld.2.2.2.2.2.2.2.2.1), (cell_row (by show w.heap.size + 1 ≠ w.heap.size + 1 + 1; omega) hHeld.2.2.2.2.2.2.2.2.2.1), (cell_row (by show w.heap.size + 1 ≠ w.heap.size + 1 + 1; omega) hHeld.2.2.2.2.2.2.2.2.2.2.1), (cell_row (by show w.heap.size + 1 ≠ w.heap.size + 1 + 1; omega) hHeld.2.2.2.2.2.2.2.2.2.2.2.1), (cell_row (by show w.heap.size + 1 ≠ w.heap.size + 1 + 1; omega) hHeld.2.2.2.2.2.2.2.2.2.2.2.2.1), (cell_row (by show w.heap.size + 1 ≠ w.heap.size + 1 + 1; omega) hHeld.2.2.2.2.2.2.2.2.2.2.2.2.2.1), (cell_row (by show w.heap.size + 1 ≠ w.heap.size + 1 + 1; omega) hHeld.2.2.2.2.2.2.2.2.2.2.2.2.2.2)⟩ (fun hHeld => ?_)
    clear hK K
    try simp only [Act.put, pu1, pu2, pu3, pu4, pu5, pu6]
    refine Ke.y 14 rfl (fun _ _ _ h => h) ?_
    try simp only [Act.put, pu1, pu2, pu3, pu4, pu5, pu6]
    refine wpAnyH_done (by kernel_rfl) ?_ _
    clear hHeld
    go_wp2
    refine bodyPost_ret (res_row_tmp rfl _ _ (w.heap.size + 1 + 1) 32 (mq id (.slice (some ⟨ga, of, none⟩) l.length cap_v) h (.slice ao_p b.length cap_p) s g) (0, 0) _ rfl (setRow_heap _ _ _ _ _ (0, 0) r_res5.out) Tryz.underlying32 rfl (sizeQ _ _ _ _ _ _)) rfl ⟨.slice (some ⟨ga, of, none⟩) l.length cap_v, .slice ao_p b.length cap_p, _, W2.heap.size, by rw [HN.out]; rfl, ?_, ?_, ?_, ?_, ?_, below_setRow B5.out (by omega) _⟩
    ·
     omega
    ·
     rw [size_setRow]; omega
    ·
     rw [HN.out]
     exact (Own.setRow o_v5.out _ (by omega)).mono (by omega) (by omega)
    ·
     rw [HN.out]
     exact (Own.setRow o_p5.out _ (by omega)).mono (by omega) (by omega)
    ·
     rw [HN.out]
     exact (OM.out.setRow _ (by omega)).mono (Nat.le_refl _) (by rw [size_setRow]; omega) (Nat.le_refl _)
   ·
    have D4 : Hid (Below W4.heap.size W4 W4) := Below.refl _ _
    rw [if_pos (by rfl)]
    refine wp_store_row 32 _ _ rfl (w.heap.size + 1 + 1) (mq id (.slice (some ⟨ga, of, none⟩) l.length cap_v) h (.slice ao_p b.length cap_p) s g) rfl rfl 32 _ r_res4.out (sizeQ _ _ _ _ _ _) rfl (oneQ _ _ _ _ rfl rfl) ?_
    refine hK.out _ _ ⟨(cell_row (by show w.heap.size ≠ w.heap.size + 1 + 1; omega) hHeld.1), (cell_row (by show w.heap.size ≠ w.heap.size + 1 + 1; omega) hHeld.2.1), (cell_row (by show w.heap.size ≠ w.heap.size + 1 + 1; omega) hHeld.2.2.1), (cell_row (by show w.heap.size ≠ w.heap.size + 1 + 1; omega) hHeld.2.2.2.1), (cell_row (by show w.heap.size ≠ w.heap.size + 1 + 1; omega) hHeld.2.2.2.2.1), (cell_row (by show w.heap.size ≠ w.heap.size + 1 + 1; omega) hHeld.2.2.2.2.2.1), (cell_row (by show w.heap.size ≠ w.heap.size + 1 + 1; omega) hHeld.2.2.2.2.2.2.1), (cell_row (by show w.heap.size ≠ w.heap.size + 1 + 1; omega) hHeld.2.2.2.2.2.2.2.1), (cell_row (by show w.heap.size + 1 ≠ w.heap.size + 1 + 1; omega) hHeld.2.2.2.2.2.2.2.2.1), (cell_row (by show w.heap.size + 1 ≠ w.heap.size + 1 + 1; omega) hHeld.2.2.2.2.2.2.2.2.2.1), (cell_row (by show w.heap.size + 1 ≠ w.heap.size + 1 + 1; omega) hHeld.2.2.2.2.2.2.2.2.2.2.1), (cell_row (by show w.heap.size + 1 ≠ w.heap.size + 1 + 1; omega) hHeld.2.2.2.2.2.2.2.2.2.2.2.1), (cell_row (by show w.heap.size + 1 ≠ w.heap.size + 1 + 1; omega) hHeld.2.2.2.2.2.2.2.2.2.2.2.2.1), (cell_row (by show w.heap.size + 1 ≠ w.heap.size + 1 + 1; omega) hHeld.2.2.2.2.2.2.2.2.2.2.2.2.2.1), (cell_row (by show w.heap.size + 1 ≠ w.heap.size + 1 + 1; omega) hHeld.2.2.2.2.2.2.2.2.2.2.2.2.2.2)⟩ (fun hHeld => ?_)
    clear hK K
    try simp only [Act.put, pu1, pu2, pu3, pu4, pu5, pu6]
    obtain ⟨W5, HW5⟩ : ∃ X, Hid (W4.setRow (w.heap.size + 1 + 1) (mq id (.slice (some ⟨ga, of, none⟩) l.length cap_v) h (.slice ao_p b.length cap_p) s g) = X) := ⟨_, rfl⟩
    have z5 : W4.heap.size ≤ W5.heap.size := by rw [← HW5.out]; simp
    have B5 : Hid (Below w.heap.size w W5) := by show Below _ _ _; rw [← HW5.out]; exact below_setRow B4.out (by have := B4.out.size; omega) _
    have r_a5 : Hid (W5.heap[w.heap.size]? = some (.cells #[.int .i64 id, .slice (some ⟨ga, of, none⟩) l.length cap_v, .int .i64 h.n, .string h.r, .slice ao_p b.length cap_p, .int .i64 s, .int .i64 g.n, .string g.r] 32 (0, 0))) := by show _ = _; rw [← HW5.out]; exact (setRow_other _ _ _ _ (by omega)).trans r_a4.out
    have r_q5 : Hid (W5.heap[w.heap.size + 1]? = some (.cells #[.int .i64 k, .int .i64 f, .int .i64 tt, .int .i64 (N : Int), .string hr, .int .i64 (n0 : Int), .slice ao3 x.length cap3] 35 (0, 0))) := by show _ = _; rw [← HW5.out]; exact (setRow_other _ _ _ _ (by omega)).trans r_q4.out
    have o_v5 : Hid (Own W5 (lo) (w.heap.size) 9 (.slice (some ⟨ga, of, none⟩) l.length cap_v) (ss l)) := by show Own _ _ _ _ _ _; rw [← HW5.out]; exact Own.setRow o_v4.out _ (by omega)
    have o_p5 : Hid (Own W5 (lo) (w.heap.size) 5 (.slice ao_p b.length cap_p) (bs b)) := by show Own _ _ _ _ _ _; rw [← HW5.out]; exact Own.setRow o_p4.out _ (by omega)
    have o_u5 : Hid (Own W5 (W2.heap.size) (W3.heap.size) 9 (.slice ao_u L_u cap_u) (ss Xs)) := by show Own _ _ _ _ _ _; rw [← HW5.out]; exact Own.setRow o_u4.out _ (by omega)
    have r_res5 : Hid (W5.heap[w.heap.size + 1 + 1]? = some (.cells #[.int .i64 id, .slice (some ⟨ga, of, none⟩) l.length cap_v, .int .i64 h.n, .string h.r, .slice ao_p b.length cap_p, .int .i64 s, .int .i64 g.n, .string g.r] 32 (0, 0))) := by show _ = _; rw [← HW5.out]; exact setRow_heap _ _ _ _ _ (0, 0) r_res4.out
    rw [HW5.out]
    clear r_a4 c_a4 r_q4 c_q4 r_res4 c_res4 o_v4 o_p4 o_u4
    have c_a5 := Ke.c r_a5
    have c_q5 := Ke.c r_q5
    have c_res5 := Ke.c r_res5
    rw [HW5.out] at hHeld
    refine Ke.z 12 rfl (fun K hK => ?_)
    go_simp
    refine hK.out _ _ ⟨(keepR (W := W5) hHeld.1 ((Below.refl _ _).alloc (Nat.le_refl _) _)), (keepR (W := W5) hHeld.2.1 ((Below.refl _ _).alloc (Nat.le_refl _) _)), (keepR (W := W5) hHeld.2.2.1 ((Below.refl _ _).alloc (Nat.le_refl _) _)), (keepR (W := W5) hHeld.2.2.2.1 ((Below.refl _ _).alloc (Nat.le_refl _) _)), (keepR (W := W5) hHeld.2.2.2.2.1 ((Below.refl _ _).alloc (Nat.le_refl _) _)), (keepR (W := W5) hHeld.2.2.2.2.2.1 ((Below.refl _ _).alloc (Nat.le_refl _) _)), (keepR (W := W5) hHeld.2.2.2.2.2.2.1 ((Below.refl _ _).alloc (Nat.le_refl _) _)), (keepR (W := W5) hHeld.2.2.2.2.2.2.2.1 ((Below.refl _ _).alloc (Nat.le_refl _) _)), (keepR (W := W5) hHeld.2.2.2.2.2.2.2.2.1 ((Below.refl _ _).alloc (Nat.le_refl _) _)), (keepR (W := W5) hHeld.2.2.2.2.2.2.2.2.2.1 ((Below.refl _ _).alloc (Nat.le_refl _) _)), (keepR (W := W5) hHeld.2.2.2.2.2.2.2.2.2.2.1 ((Below.refl _ _).alloc (Nat.le_refl _) _)), (keepR (W := W5) hHeld.2.2.2.2.2.2.2.2.2.2.2.1 ((Below.refl _ _).alloc (Nat.le_refl _) _)), (keepR (W := W5) hHeld.2.2.2.2.2.2.2.2.2.2.2.2.1 ((Below.refl _ _).alloc (Nat.le_refl _) _)), (keepR (W := W5) hHeld.2.2.2.2.2.2.2.2.2.2.2.2.2.1 ((Below.refl _ _).alloc (Nat.le_refl _) _)), (keepR (W := W5) hHeld.2.2.2.2.2.2.2.2.2.2.2.2.2.2 ((Below.refl _ _).alloc (Nat.le_refl _) _))⟩ (fun hHeld => ?_)
    clear hK K
    try simp only [Act.put, pu1, pu2, pu3, pu4, pu5, pu6]
    obtain ⟨W6, HW6, b6, ff6⟩ : ∃ X, Hid ((W5.alloc (.cells #[.int .i64 3, .int .i64 id, .int .i64 f, .int .i64 (N : Int), .string hr, .int .i64 (n0 : Int), .slice ao_u L_u cap_u] 35)) = X) ∧ Below W5.heap.size W5 X ∧ Hid (Om X W2.heap.size X.heap.size (.slice (some ⟨W5.heap.size, 0, none⟩) 1 1) [⟨3, id, f, ⟨(N : Int), hr⟩, (n0 : Int), Xs⟩]) := ⟨_, rfl, ((Below.refl _ _).alloc (Nat.le_refl _) _), Om.one ⟨3, id, f, ⟨(N : Int), hr⟩, (n0 : Int), Xs⟩ (Own.mono o_u5.out (by omega) (by omega)) (by omega)⟩
    have HHW6 := HW6.out
    rw [HHW6] at hHeld ⊢
    clear HHW6
    have z6 := b6.size
    have B6 := Ke.b B5 b6
    have r_a6 := Ke.r r_a5 b6
    have r_q6 := Ke.r r_q5 b6
    have r_res6 := Ke.r r_res5 b6
    have o_v6 := Ke.o o_v5 b6
    have o_p6 := Ke.o o_p5 b6
    have o_u6 := Ke.o o_u5 b6
    have c_a6 := Ke.c r_a6
    have c_q6 := Ke.c r_q6
    have c_res6 := Ke.c r_res6
    clear r_a5 c_a5 r_q5 c_q5 r_res5 c_res5 o_v5 o_p5 o_u5
    have f_om6 : Hid (Om W6 W2.heap.size W6.heap.size (.slice (some ⟨W5.heap.size, 0, none⟩) 1 1) [⟨3, id, f, ⟨(N : Int), hr⟩, (n0 : Int), Xs⟩]) := ff6.out
    clear ff6
    refine Ke.y 14 rfl (fun _ _ _ h => h) ?_
    try simp only [Act.put, pu1, pu2, pu3, pu4, pu5, pu6]
    refine wpAnyH_done (by kernel_rfl) ?_ _
    clear hHeld
    go_wp2
    refine bodyPost_ret (res_row_tmp rfl _ _ (w.heap.size + 1 + 1) 32 (mq id (.slice (some ⟨ga, of, none⟩) l.length cap_v) h (.slice ao_p b.length cap_p) s g) (0, 0) _ rfl r_res6.out Tryz.underlying32 rfl (sizeQ _ _ _ _ _ _)) rfl ⟨.slice (some ⟨ga, of, none⟩) l.length cap_v, .slice ao_p b.length cap_p, _, W2.heap.size, by rw [HN.out]; rfl, ?_, ?_, ?_, ?_, ?_, B6.out⟩
    ·
     omega
    ·
     omega
    ·
     rw [HN.out]
     exact o_v6.out.mono (by omega) (by omega)
    ·
     rw [HN.out]
     exact o_p6.out.mono (by omega) (by omega)
    ·
     rw [HN.out]
     exact f_om6.out
end Go.Proofs.YtchonoonclllbaaGreatDoor.Mi
