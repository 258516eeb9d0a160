/- Texts in one: SrX. -/
import Derived.Test.YtfpaichdkddglabGreatDoorPk14
import Derived.Test.YtfpaichdkddglabGreatDoorPk16
namespace Go.Proofs.YtfpaichdkddglabGreatDoor.Sr
open Go.RowKit Go.Proofs.YtfpaichdkddglabGreatDoor.Mem Go.Proofs.YtfpaichdkddglabGreatDoor.Laws Go.Proofs.YtfpaichdkddglabGreatDoor.Bytes Go.Proofs.YtfpaichdkddglabGreatDoor.Sha Go.Proofs.YtfpaichdkddglabGreatDoor.Tr Go.Proofs.YtfpaichdkddglabGreatDoor.He Go.Proofs.YtfpaichdkddglabGreatDoor.Lg
set_option linter.unusedVariables false
set_option linter.unusedSimpArgs false
theorem tot_mem : ∀ (l : List ByteArray) (s : ByteArray), s ∈ l → s.size ≤ Puts.tot l := by
 intro l
 induction l with
 | nil => intro s h; cases h
 | cons a r ih =>
  intro s h
  simp only [Puts.tot]
  rcases List.mem_cons.1 h with rfl | h
  ·
   omega
  ·
   have := ih s h; omega
set_option maxRecDepth 1000000 in
set_option maxHeartbeats 16000000 in
theorem exact_makesure (w : World) (v vb : Value) (l : List ByteArray) (h : Hd) (b : List Int) (s : Int) (hs : Sl w v (ss l)) (hb : Sl w vb (bs b)) (hby : Byt b) (hz : ∀ s ∈ l, s.size ≤ maxLen) (hm : l.length ≤ maxLen) (hmb : b.length ≤ maxLen) (hh : h.r.size ≤ maxLen)
  (iF : ∀ W v' vb', Below w.heap.size w W → Sl W v' (ss l) → Sl W vb' (bs b) → l.length ≤ 1048576 → b.length ≤ 1048576 → (∀ s ∈ l, s.size ≤ 1048576) → h.r.size ≤ 1048576 → Calls Tryz.prog 24 #[.agg #[v', .int .i64 h.n, .string h.r, vb', .int .i64 s]] W fun e w' => ∃ u ub, e = .returned (.agg #[u, .int .i64 (makeSure ⟨l, h, b, s⟩).h.n, .string (makeSure ⟨l, h, b, s⟩).h.r, ub, .int .i64 (makeSure ⟨l, h, b, s⟩).s]) ∧ Own w' W.heap.size w'.heap.size 9 u (ss (makeSure ⟨l, h, b, s⟩).l) ∧ Own w' W.heap.size w'.heap.size 5 ub (bs (makeSure ⟨l, h, b, s⟩).b) ∧ Below W.heap.size W w') :
  Calls Tryz.prog 4 #[.agg #[v, .int .i64 h.n, .string h.r, vb, .int .i64 s]] w fun e w' => e = .returned (.bool true) ∧ Below w.heap.size w w' := by
 have HS : Hid (Sl w v (ss l)) := hs
 have HSB : Hid (Sl w vb (bs b)) := hb
 have HBY : Hid (Byt b) := hby
 unfold maxLen at *
 obtain ⟨ao0, cap0, rfl, hc0⟩ := hs.form
 obtain ⟨ao1, cap1, rfl, hc1⟩ := hb.form
 simp only [ss_len, bs_len] at *
 clear hs hb hby
 have B0 : Hid (Below w.heap.size w w) := Below.refl _ _
 obtain ⟨W1, HW1, b1, y1, hS1, r_a1⟩ : ∃ X, Hid ((w.alloc (.cells #[.slice ao0 l.length cap0, .int .i64 h.n, .string h.r, .slice ao1 b.length cap1, .int .i64 s] 29)) = X) ∧ Below w.heap.size w X ∧ w.heap.size + 1 ≤ X.heap.size ∧ Hid (X.heap.size = w.heap.size + 1) ∧ Hid (X.heap[w.heap.size]? = some (.cells #[.slice ao0 l.length cap0, .int .i64 h.n, .string h.r, .slice ao1 b.length cap1, .int .i64 s] 29 (0, 0))) := ⟨_, rfl, ((Below.refl _ _).alloc (Nat.le_refl _) _), by simp, by show _ = _; simp, (by show _ = _; exact alloc_nth1_0 w _)⟩
 have B1 : Hid (Below w.heap.size w W1) := B0.out.trans (b1.mono B0.out.size)
 go_enter Tryz.func4, Tryz.ntmps4
 go_wp2_with fail
 rw [HW1.out]
 refine (sz_store W1 _ _ l h b s (HS.out.later B1.out) (HSB.out.later B1.out) (fun s h => by have := hz s h; omega) (by omega) (by omega) (by omega)).mono ?_
 rintro e W2 ⟨⟨r0, rfl, hr0⟩, b2⟩
 have z2 : W1.heap.size ≤ W2.heap.size := b2.size
 have B2 : Hid (Below w.heap.size w W2) := B1.out.trans (b2.mono B1.out.size)
 have r_a2 : Hid (W2.heap[w.heap.size]? = some (.cells #[.slice ao0 l.length cap0, .int .i64 h.n, .string h.r, .slice ao1 b.length cap1, .int .i64 s] 29 (0, 0))) := rowKeep r_a1.out b2
 have c_a2_0 : W2.cell? ⟨w.heap.size, 0, none⟩ = some (.slice ao0 l.length cap0) := row_at r_a2.out 0
 have c_a2_1 : W2.cell? ⟨w.heap.size, 1, none⟩ = some (.int .i64 h.n) := row_at r_a2.out 1
 have c_a2_2 : W2.cell? ⟨w.heap.size, 2, none⟩ = some (.string h.r) := row_at r_a2.out 2
 have c_a2_3 : W2.cell? ⟨w.heap.size, 3, none⟩ = some (.slice ao1 b.length cap1) := row_at r_a2.out 3
 have c_a2_4 : W2.cell? ⟨w.heap.size, 4, none⟩ = some (.int .i64 s) := row_at r_a2.out 4
 clear r_a1
 by_cases hr : r0 < 0
 ·
  go_wp2
  go_ret
  exact ⟨rfl, B2.out⟩
 have hr1 : l.length + Puts.tot l ≤ 1048576 ∧ h.r.size ≤ 1048576 ∧ b.length ≤ 1048576 ∧ 0 ≤ r0 ∧ r0 ≤ 1048576 := by rcases hr0 with h0 | h0; exact absurd h0 hr; exact h0
 obtain ⟨hr1, hzh, hbl, hr2, hr3⟩ := hr1
 have hl : l.length ≤ 1048576 := by omega
 have hzz : ∀ s ∈ l, s.size ≤ 1048576 := fun s h => Nat.le_trans (tot_mem l s h) (by omega)
 have HZ : Hid (∀ s ∈ l, s.size ≤ 1048576) := hzz
 clear hz hr0 hm hmb hh hzz
 have q1 : ∀ W v1 v2, Sl W v1 (ss l) → Sl W v2 (bs b) → _ := fun W v1 v2 h1 h2 => makesure_spec W v1 v2 ⟨l, h, b, s⟩ h1 h2 HBY.out (by simp only; omega) (by simp only; omega) (fun s hs => Nat.le_trans (HZ.out s hs) (by omega))
 have q2 : ∀ W v1 v2, Below w.heap.size w W → Sl W v1 (ss l) → Sl W v2 (bs b) → _ := fun W v1 v2 hB h1 h2 => iF W v1 v2 hB h1 h2 hl hbl HZ.out hzh
 obtain ⟨N, hN⟩ : ∃ N, (makeSure ⟨l, h, b, s⟩).s = N := ⟨_, rfl⟩
 have e1 : (makeSure ⟨l, h, b, s⟩).l = l ∧ (makeSure ⟨l, h, b, s⟩).h = h ∧ (makeSure ⟨l, h, b, s⟩).b = b := by unfold makeSure; split <;> exact ⟨rfl, rfl, rfl⟩
 simp only [e1.1, e1.2.1, e1.2.2, hN] at q1 q2
 clear hN e1 iF
 go_wp2_with fail
 refine (to_store W2 _ _ l h b s (HS.out.later B2.out) (HSB.out.later B2.out) (by omega) (by omega)).mono ?_
 rintro e W3 ⟨v_t, v_tp, rfl, o_t3, o_tp3, b3⟩
 obtain ⟨lo_t, hi_t, lo_tp, hi_tp, d1_t, d2_t, d3_t, d4_t, d5_t, d6_t, d7_t, oo_t, oo_tp⟩ := Sr.pairN o_t3 o_tp3 b3.size
 clear o_t3 o_tp3
 obtain ⟨ao_t, L_t, cap_t, rfl, _, _⟩ := oo_t.form
 obtain ⟨ao_tp, L_tp, cap_tp, rfl, _, _⟩ := oo_tp.form
 have o_t3 : Hid (Own W3 lo_t hi_t 9 (.slice ao_t L_t cap_t) (ss l)) := oo_t
 have o_tp3 : Hid (Own W3 lo_tp hi_tp 5 (.slice ao_tp L_tp cap_tp) (bs b)) := oo_tp
 clear oo_t oo_tp
 have z3 : W2.heap.size ≤ W3.heap.size := b3.size
 have B3 : Hid (Below w.heap.size w W3) := B2.out.trans (b3.mono B2.out.size)
 have r_a3 : Hid (W3.heap[w.heap.size]? = some (.cells #[.slice ao0 l.length cap0, .int .i64 h.n, .string h.r, .slice ao1 b.length cap1, .int .i64 s] 29 (0, 0))) := rowKeep r_a2.out b3
 clear r_a2 c_a2_0 c_a2_1 c_a2_2 c_a2_3 c_a2_4
 go_wp2_with fail
 refine (q1 W3 _ _ o_t3.out.sl o_tp3.out.sl).mono ?_
 rintro e W4 ⟨v_m, v_mp, rfl, o_m4, o_mp4, b4⟩
 obtain ⟨lo_m, hi_m, lo_mp, hi_mp, d1_m, d2_m, d3_m, d4_m, d5_m, d6_m, d7_m, oo_m, oo_mp⟩ := Sr.pairN o_m4 o_mp4 b4.size
 clear o_m4 o_mp4
 obtain ⟨ao_m, L_m, cap_m, rfl, _, _⟩ := oo_m.form
 obtain ⟨ao_mp, L_mp, cap_mp, rfl, _, _⟩ := oo_mp.form
 have o_m4 : Hid (Own W4 lo_m hi_m 9 (.slice ao_m L_m cap_m) (ss l)) := oo_m
 have o_mp4 : Hid (Own W4 lo_mp hi_mp 5 (.slice ao_mp L_mp cap_mp) (bs b)) := oo_mp
 clear oo_m oo_mp
 have z4 : W3.heap.size ≤ W4.heap.size := b4.size
 have B4 : Hid (Below w.heap.size w W4) := B3.out.trans (b4.mono B3.out.size)
 have r_a4 : Hid (W4.heap[w.heap.size]? = some (.cells #[.slice ao0 l.length cap0, .int .i64 h.n, .string h.r, .slice ao1 b.length cap1, .int .i64 s] 29 (0, 0))) := rowKeep r_a3.out b4
 have c_a4_0 : W4.cell? ⟨w.heap.size, 0, none⟩ = some (.slice ao0 l.length cap0) := row_at r_a4.out 0
 have c_a4_1 : W4.cell? ⟨w.heap.size, 1, none⟩ = some (.int .i64 h.n) := row_at r_a4.out 1
 have c_a4_2 : W4.cell? ⟨w.heap.size, 2, none⟩ = some (.string h.r) := row_at r_a4.out 2
 have c_a4_3 : W4.cell? ⟨w.heap.size, 3, none⟩ = some (.slice ao1 b.length cap1) := row_at r_a4.out 3
 have c_a4_4 : W4.cell? ⟨w.heap.size, 4, none⟩ = some (.int .i64 s) := row_at r_a4.out 4
 clear r_a3 o_t3 o_tp3
 have a_a4_0 : ∀ o, (W4.alloc o).cell? ⟨w.heap.size, 0, none⟩ = some (.slice ao0 l.length cap0) := fun o => keepR c_a4_0 ((Below.refl _ _).alloc (Nat.le_refl _) o)
 have a_a4_1 : ∀ o, (W4.alloc o).cell? ⟨w.heap.size, 1, none⟩ = some (.int .i64 h.n) := fun o => keepR c_a4_1 ((Below.refl _ _).alloc (Nat.le_refl _) o)
 have a_a4_2 : ∀ o, (W4.alloc o).cell? ⟨w.heap.size, 2, none⟩ = some (.string h.r) := fun o => keepR c_a4_2 ((Below.refl _ _).alloc (Nat.le_refl _) o)
 have a_a4_3 : ∀ o, (W4.alloc o).cell? ⟨w.heap.size, 3, none⟩ = some (.slice ao1 b.length cap1) := fun o => keepR c_a4_3 ((Below.refl _ _).alloc (Nat.le_refl _) o)
 have a_a4_4 : ∀ o, (W4.alloc o).cell? ⟨w.heap.size, 4, none⟩ = some (.int .i64 s) := fun o => keepR c_a4_4 ((Below.refl _ _).alloc (Nat.le_refl _) o)
 obtain ⟨W5, HW5, b5, y5, hS5, r_w05⟩ : ∃ X, Hid ((W4.alloc (.cells #[.slice ao_m L_m cap_m, .int .i64 h.n, .string h.r, .slice ao_mp L_mp cap_mp, .int .i64 N] 39)) = X) ∧ Below W4.heap.size W4 X ∧ W4.heap.size + 1 ≤ X.heap.size ∧ Hid (X.heap.size = W4.heap.size + 1) ∧ Hid (X.heap[W4.heap.size]? = some (.cells #[.slice ao_m L_m cap_m, .int .i64 h.n, .string h.r, .slice ao_mp L_mp cap_mp, .int .i64 N] 39 (0, 0))) := ⟨_, rfl, ((Below.refl _ _).alloc (Nat.le_refl _) _), by simp, by show _ = _; simp, (by show _ = _; exact alloc_nth1_0 W4 _)⟩
 have B5 : Hid (Below w.heap.size w W5) := B4.out.trans (b5.mono B4.out.size)
 have r_a5 : Hid (W5.heap[w.heap.size]? = some (.cells #[.slice ao0 l.length cap0, .int .i64 h.n, .string h.r, .slice ao1 b.length cap1, .int .i64 s] 29 (0, 0))) := rowKeep r_a4.out b5
 have o_m5 : Hid (Own W5 (lo_m) (hi_m) 9 (.slice ao_m L_m cap_m) (ss l)) := Own.later o_m4.out b5 (by omega)
 have o_mp5 : Hid (Own W5 (lo_mp) (hi_mp) 5 (.slice ao_mp L_mp cap_mp) (bs b)) := Own.later o_mp4.out b5 (by omega)
 clear r_a4 c_a4_0 c_a4_1 c_a4_2 c_a4_3 c_a4_4 o_m4 o_mp4
 go_wp2_with fail
 rw [HW5.out]
 clear a_a4_0 a_a4_1 a_a4_2 a_a4_3 a_a4_4
 refine (to_store W5 _ _ l h b s (HS.out.later B5.out) (HSB.out.later B5.out) (by omega) (by omega)).mono ?_
 rintro e W6 ⟨v_x, v_xp, rfl, o_x6, o_xp6, b6⟩
 obtain ⟨lo_x, hi_x, lo_xp, hi_xp, d1_x, d2_x, d3_x, d4_x, d5_x, d6_x, d7_x, oo_x, oo_xp⟩ := Sr.pairN o_x6 o_xp6 b6.size
 clear o_x6 o_xp6
 obtain ⟨ao_x, L_x, cap_x, rfl, _, _⟩ := oo_x.form
 obtain ⟨ao_xp, L_xp, cap_xp, rfl, _, _⟩ := oo_xp.form
 have o_x6 : Hid (Own W6 lo_x hi_x 9 (.slice ao_x L_x cap_x) (ss l)) := oo_x
 have o_xp6 : Hid (Own W6 lo_xp hi_xp 5 (.slice ao_xp L_xp cap_xp) (bs b)) := oo_xp
 clear oo_x oo_xp
 have z6 : W5.heap.size ≤ W6.heap.size := b6.size
 have B6 : Hid (Below w.heap.size w W6) := B5.out.trans (b6.mono B5.out.size)
 have r_a6 : Hid (W6.heap[w.heap.size]? = some (.cells #[.slice ao0 l.length cap0, .int .i64 h.n, .string h.r, .slice ao1 b.length cap1, .int .i64 s] 29 (0, 0))) := rowKeep r_a5.out b6
 have r_w06 : Hid (W6.heap[W4.heap.size]? = some (.cells #[.slice ao_m L_m cap_m, .int .i64 h.n, .string h.r, .slice ao_mp L_mp cap_mp, .int .i64 N] 39 (0, 0))) := rowKeep r_w05.out b6
 have o_m6 : Hid (Own W6 (lo_m) (hi_m) 9 (.slice ao_m L_m cap_m) (ss l)) := Own.later o_m5.out b6 (by omega)
 have o_mp6 : Hid (Own W6 (lo_mp) (hi_mp) 5 (.slice ao_mp L_mp cap_mp) (bs b)) := Own.later o_mp5.out b6 (by omega)
 clear r_a5 r_w05 o_m5 o_mp5
 obtain ⟨W7, HW7, b7, y7, hS7, r_x07⟩ : ∃ X, Hid ((W6.alloc (.cells #[.slice ao_x L_x cap_x, .int .i64 h.n, .string h.r, .slice ao_xp L_xp cap_xp, .int .i64 s] 39)) = X) ∧ Below W6.heap.size W6 X ∧ W6.heap.size + 1 ≤ X.heap.size ∧ Hid (X.heap.size = W6.heap.size + 1) ∧ Hid (X.heap[W6.heap.size]? = some (.cells #[.slice ao_x L_x cap_x, .int .i64 h.n, .string h.r, .slice ao_xp L_xp cap_xp, .int .i64 s] 39 (0, 0))) := ⟨_, rfl, ((Below.refl _ _).alloc (Nat.le_refl _) _), by simp, by show _ = _; simp, (by show _ = _; exact alloc_nth1_0 W6 _)⟩
 have B7 : Hid (Below w.heap.size w W7) := B6.out.trans (b7.mono B6.out.size)
 have r_a7 : Hid (W7.heap[w.heap.size]? = some (.cells #[.slice ao0 l.length cap0, .int .i64 h.n, .string h.r, .slice ao1 b.length cap1, .int .i64 s] 29 (0, 0))) := rowKeep r_a6.out b7
 have r_w07 : Hid (W7.heap[W4.heap.size]? = some (.cells #[.slice ao_m L_m cap_m, .int .i64 h.n, .string h.r, .slice ao_mp L_mp cap_mp, .int .i64 N] 39 (0, 0))) := rowKeep r_w06.out b7
 have o_m7 : Hid (Own W7 (lo_m) (hi_m) 9 (.slice ao_m L_m cap_m) (ss l)) := Own.later o_m6.out b7 (by omega)
 have o_mp7 : Hid (Own W7 (lo_mp) (hi_mp) 5 (.slice ao_mp L_mp cap_mp) (bs b)) := Own.later o_mp6.out b7 (by omega)
 have o_x7 : Hid (Own W7 (lo_x) (hi_x) 9 (.slice ao_x L_x cap_x) (ss l)) := Own.later o_x6.out b7 (by omega)
 have o_xp7 : Hid (Own W7 (lo_xp) (hi_xp) 5 (.slice ao_xp L_xp cap_xp) (bs b)) := Own.later o_xp6.out b7 (by omega)
 clear r_a6 r_w06 o_m6 o_mp6 o_x6 o_xp6
 go_wp2_with fail
 rw [HW7.out]
 refine (q2 W7 _ _ B7.out o_x7.out.sl o_xp7.out.sl).mono ?_
 rintro e W8 ⟨v_g, v_gp, rfl, o_g8, o_gp8, b8⟩
 obtain ⟨lo_g, hi_g, lo_gp, hi_gp, d1_g, d2_g, d3_g, d4_g, d5_g, d6_g, d7_g, oo_g, oo_gp⟩ := Sr.pairN o_g8 o_gp8 b8.size
 clear o_g8 o_gp8
 obtain ⟨ao_g, L_g, cap_g, rfl, _, _⟩ := oo_g.form
 obtain ⟨ao_gp, L_gp, cap_gp, rfl, _, _⟩ := oo_gp.form
 have o_g8 : Hid (Own W8 lo_g hi_g 9 (.slice ao_g L_g cap_g) (ss l)) := oo_g
 have o_gp8 : Hid (Own W8 lo_gp hi_gp 5 (.slice ao_gp L_gp cap_gp) (bs b)) := oo_gp
 clear oo_g oo_gp
 have z8 : W7.heap.size ≤ W8.heap.size := b8.size
 have B8 : Hid (Below w.heap.size w W8) := B7.out.trans (b8.mono B7.out.size)
 have r_a8 : Hid (W8.heap[w.heap.size]? = some (.cells #[.slice ao0 l.length cap0, .int .i64 h.n, .string h.r, .slice ao1 b.length cap1, .int .i64 s] 29 (0, 0))) := rowKeep r_a7.out b8
 have r_w08 : Hid (W8.heap[W4.heap.size]? = some (.cells #[.slice ao_m L_m cap_m, .int .i64 h.n, .string h.r, .slice ao_mp L_mp cap_mp, .int .i64 N] 39 (0, 0))) := rowKeep r_w07.out b8
 have r_x08 : Hid (W8.heap[W6.heap.size]? = some (.cells #[.slice ao_x L_x cap_x, .int .i64 h.n, .string h.r, .slice ao_xp L_xp cap_xp, .int .i64 s] 39 (0, 0))) := rowKeep r_x07.out b8
 have o_m8 : Hid (Own W8 (lo_m) (hi_m) 9 (.slice ao_m L_m cap_m) (ss l)) := Own.later o_m7.out b8 (by omega)
 have o_mp8 : Hid (Own W8 (lo_mp) (hi_mp) 5 (.slice ao_mp L_mp cap_mp) (bs b)) := Own.later o_mp7.out b8 (by omega)
 have o_x8 : Hid (Own W8 (lo_x) (hi_x) 9 (.slice ao_x L_x cap_x) (ss l)) := Own.later o_x7.out b8 (by omega)
 have o_xp8 : Hid (Own W8 (lo_xp) (hi_xp) 5 (.slice ao_xp L_xp cap_xp) (bs b)) := Own.later o_xp7.out b8 (by omega)
 have c_w08_0 : W8.cell? ⟨W4.heap.size, 0, none⟩ = some (.slice ao_m L_m cap_m) := row_at r_w08.out 0
 have c_w08_1 : W8.cell? ⟨W4.heap.size, 1, none⟩ = some (.int .i64 h.n) := row_at r_w08.out 1
 have c_w08_2 : W8.cell? ⟨W4.heap.size, 2, none⟩ = some (.string h.r) := row_at r_w08.out 2
 have c_w08_3 : W8.cell? ⟨W4.heap.size, 3, none⟩ = some (.slice ao_mp L_mp cap_mp) := row_at r_w08.out 3
 have c_w08_4 : W8.cell? ⟨W4.heap.size, 4, none⟩ = some (.int .i64 N) := row_at r_w08.out 4
 clear r_a7 r_w07 r_x07 o_m7 o_mp7 o_x7 o_xp7
 have a_w08_0 : ∀ o, (W8.alloc o).cell? ⟨W4.heap.size, 0, none⟩ = some (.slice ao_m L_m cap_m) := fun o => keepR c_w08_0 ((Below.refl _ _).alloc (Nat.le_refl _) o)
 have a_w08_1 : ∀ o, (W8.alloc o).cell? ⟨W4.heap.size, 1, none⟩ = some (.int .i64 h.n) := fun o => keepR c_w08_1 ((Below.refl _ _).alloc (Nat.le_refl _) o)
 have a_w08_2 : ∀ o, (W8.alloc o).cell? ⟨W4.heap.size, 2, none⟩ = some (.string h.r) := fun o => keepR c_w08_2 ((Below.refl _ _).alloc (Nat.le_refl _) o)
 have a_w08_3 : ∀ o, (W8.alloc o).cell? ⟨W4.heap.size, 3, none⟩ = some (.slice ao_mp L_mp cap_mp) := fun o => keepR c_w08_3 ((Below.refl _ _).alloc (Nat.le_refl _) o)
 have a_w08_4 : ∀ o, (W8.alloc o).cell? ⟨W4.heap.size, 4, none⟩ = some (.int .i64 N) := fun o => keepR c_w08_4 ((Below.refl _ _).alloc (Nat.le_refl _) o)
 obtain ⟨W9, HW9, b9, y9, hS9, r_g09⟩ : ∃ X, Hid ((W8.alloc (.cells #[.slice ao_g L_g cap_g, .int .i64 h.n, .string h.r, .slice ao_gp L_gp cap_gp, .int .i64 N] 39)) = X) ∧ Below W8.heap.size W8 X ∧ W8.heap.size + 1 ≤ X.heap.size ∧ Hid (X.heap.size = W8.heap.size + 1) ∧ Hid (X.heap[W8.heap.size]? = some (.cells #[.slice ao_g L_g cap_g, .int .i64 h.n, .string h.r, .slice ao_gp L_gp cap_gp, .int .i64 N] 39 (0, 0))) := ⟨_, rfl, ((Below.refl _ _).alloc (Nat.le_refl _) _), by simp, by show _ = _; simp, (by show _ = _; exact alloc_nth1_0 W8 _)⟩
 have B9 : Hid (Below w.heap.size w W9) := B8.out.trans (b9.mono B8.out.size)
 have r_a9 : Hid (W9.heap[w.heap.size]? = some (.cells #[.slice ao0 l.length cap0, .int .i64 h.n, .string h.r, .slice ao1 b.length cap1, .int .i64 s] 29 (0, 0))) := rowKeep r_a8.out b9
 have r_w09 : Hid (W9.heap[W4.heap.size]? = some (.cells #[.slice ao_m L_m cap_m, .int .i64 h.n, .string h.r, .slice ao_mp L_mp cap_mp, .int .i64 N] 39 (0, 0))) := rowKeep r_w08.out b9
 have r_x09 : Hid (W9.heap[W6.heap.size]? = some (.cells #[.slice ao_x L_x cap_x, .int .i64 h.n, .string h.r, .slice ao_xp L_xp cap_xp, .int .i64 s] 39 (0, 0))) := rowKeep r_x08.out b9
 have o_m9 : Hid (Own W9 (lo_m) (hi_m) 9 (.slice ao_m L_m cap_m) (ss l)) := Own.later o_m8.out b9 (by omega)
 have o_mp9 : Hid (Own W9 (lo_mp) (hi_mp) 5 (.slice ao_mp L_mp cap_mp) (bs b)) := Own.later o_mp8.out b9 (by omega)
 have o_x9 : Hid (Own W9 (lo_x) (hi_x) 9 (.slice ao_x L_x cap_x) (ss l)) := Own.later o_x8.out b9 (by omega)
 have o_xp9 : Hid (Own W9 (lo_xp) (hi_xp) 5 (.slice ao_xp L_xp cap_xp) (bs b)) := Own.later o_xp8.out b9 (by omega)
 have o_g9 : Hid (Own W9 (lo_g) (hi_g) 9 (.slice ao_g L_g cap_g) (ss l)) := Own.later o_g8.out b9 (by omega)
 have o_gp9 : Hid (Own W9 (lo_gp) (hi_gp) 5 (.slice ao_gp L_gp cap_gp) (bs b)) := Own.later o_gp8.out b9 (by omega)
 clear r_a8 r_w08 c_w08_0 c_w08_1 c_w08_2 c_w08_3 c_w08_4 r_x08 o_m8 o_mp8 o_x8 o_xp8 o_g8 o_gp8
 go_wp2_with fail
 rw [HW9.out]
 clear a_w08_0 a_w08_1 a_w08_2 a_w08_3 a_w08_4
 refine (eq_store W9 _ _ _ _ l h b N o_g9.out.sl o_m9.out.sl o_gp9.out.sl o_mp9.out.sl (by omega) (by omega)).mono ?_
 rintro e W10 ⟨rfl, b10⟩
 have z10 : W9.heap.size ≤ W10.heap.size := b10.size
 have B10 : Hid (Below w.heap.size w W10) := B9.out.trans (b10.mono B9.out.size)
 have r_a10 : Hid (W10.heap[w.heap.size]? = some (.cells #[.slice ao0 l.length cap0, .int .i64 h.n, .string h.r, .slice ao1 b.length cap1, .int .i64 s] 29 (0, 0))) := rowKeep r_a9.out b10
 have r_w010 : Hid (W10.heap[W4.heap.size]? = some (.cells #[.slice ao_m L_m cap_m, .int .i64 h.n, .string h.r, .slice ao_mp L_mp cap_mp, .int .i64 N] 39 (0, 0))) := rowKeep r_w09.out b10
 have r_x010 : Hid (W10.heap[W6.heap.size]? = some (.cells #[.slice ao_x L_x cap_x, .int .i64 h.n, .string h.r, .slice ao_xp L_xp cap_xp, .int .i64 s] 39 (0, 0))) := rowKeep r_x09.out b10
 have r_g010 : Hid (W10.heap[W8.heap.size]? = some (.cells #[.slice ao_g L_g cap_g, .int .i64 h.n, .string h.r, .slice ao_gp L_gp cap_gp, .int .i64 N] 39 (0, 0))) := rowKeep r_g09.out b10
 have o_m10 : Hid (Own W10 (lo_m) (hi_m) 9 (.slice ao_m L_m cap_m) (ss l)) := Own.later o_m9.out b10 (by omega)
 have o_mp10 : Hid (Own W10 (lo_mp) (hi_mp) 5 (.slice ao_mp L_mp cap_mp) (bs b)) := Own.later o_mp9.out b10 (by omega)
 have o_x10 : Hid (Own W10 (lo_x) (hi_x) 9 (.slice ao_x L_x cap_x) (ss l)) := Own.later o_x9.out b10 (by omega)
 have o_xp10 : Hid (Own W10 (lo_xp) (hi_xp) 5 (.slice ao_xp L_xp cap_xp) (bs b)) := Own.later o_xp9.out b10 (by omega)
 have o_g10 : Hid (Own W10 (lo_g) (hi_g) 9 (.slice ao_g L_g cap_g) (ss l)) := Own.later o_g9.out b10 (by omega)
 have o_gp10 : Hid (Own W10 (lo_gp) (hi_gp) 5 (.slice ao_gp L_gp cap_gp) (bs b)) := Own.later o_gp9.out b10 (by omega)
 have c_a10_0 : W10.cell? ⟨w.heap.size, 0, none⟩ = some (.slice ao0 l.length cap0) := row_at r_a10.out 0
 have c_a10_1 : W10.cell? ⟨w.heap.size, 1, none⟩ = some (.int .i64 h.n) := row_at r_a10.out 1
 have c_a10_2 : W10.cell? ⟨w.heap.size, 2, none⟩ = some (.string h.r) := row_at r_a10.out 2
 have c_a10_3 : W10.cell? ⟨w.heap.size, 3, none⟩ = some (.slice ao1 b.length cap1) := row_at r_a10.out 3
 have c_a10_4 : W10.cell? ⟨w.heap.size, 4, none⟩ = some (.int .i64 s) := row_at r_a10.out 4
 have c_x010_0 : W10.cell? ⟨W6.heap.size, 0, none⟩ = some (.slice ao_x L_x cap_x) := row_at r_x010.out 0
 have c_x010_1 : W10.cell? ⟨W6.heap.size, 1, none⟩ = some (.int .i64 h.n) := row_at r_x010.out 1
 have c_x010_2 : W10.cell? ⟨W6.heap.size, 2, none⟩ = some (.string h.r) := row_at r_x010.out 2
 have c_x010_3 : W10.cell? ⟨W6.heap.size, 3, none⟩ = some (.slice ao_xp L_xp cap_xp) := row_at r_x010.out 3
 have c_x010_4 : W10.cell? ⟨W6.heap.size, 4, none⟩ = some (.int .i64 s) := row_at r_x010.out 4
 clear r_a9 r_w09 r_x09 r_g09 o_m9 o_mp9 o_x9 o_xp9 o_g9 o_gp9
 go_wp2_with fail
 refine wp_region_held_drew (S := fun w' => w'.cell? ⟨W6.heap.size, 0, none⟩ = some (.slice ao_x L_x cap_x) ∧ w'.cell? ⟨W6.heap.size, 1, none⟩ = some (.int .i64 h.n) ∧ w'.cell? ⟨W6.heap.size, 2, none⟩ = some (.string h.r) ∧ w'.cell? ⟨W6.heap.size, 3, none⟩ = some (.slice ao_xp L_xp cap_xp) ∧ w'.cell? ⟨W6.heap.size, 4, none⟩ = some (.int .i64 s) ∧ w'.cell? ⟨w.heap.size, 0, none⟩ = some (.slice ao0 l.length cap0) ∧ w'.cell? ⟨w.heap.size, 1, none⟩ = some (.int .i64 h.n) ∧ w'.cell? ⟨w.heap.size, 2, none⟩ = some (.string h.r) ∧ w'.cell? ⟨w.heap.size, 3, none⟩ = some (.slice ao1 b.length cap1) ∧ w'.cell? ⟨w.heap.size, 4, none⟩ = some (.int .i64 s)) (by kernel_rfl) ⟨c_x010_0, c_x010_1, c_x010_2, c_x010_3, c_x010_4, c_a10_0, c_a10_1, c_a10_2, c_a10_3, c_a10_4⟩ (fun hHeld => ?_)
 (refine wpAnyH_take (i := 0) (v := ?v0x4) rfl (by kernel_rfl) (by kernel_rfl) (by kernel_rfl) (fun _ _ _ h => h) (Or.inl ⟨by rfl, ?hy0x4⟩) (by assumption) ?rest0x4; case hy0x4 => (intro w hSw; (try dsimp only at hSw); go_split_ands; go_simp; (try with_reducible rfl)))
 try simp only [Act.put, pu1, pu2, pu3, pu4, pu5, pu6]
 (refine wpAnyH_take (i := 1) (v := ?v1x5) rfl (by kernel_rfl) (by kernel_rfl) (by kernel_rfl) (fun _ _ _ h => h) (Or.inl ⟨by rfl, ?hy1x5⟩) (by assumption) ?rest1x5; case hy1x5 => (intro w hSw; (try dsimp only at hSw); go_split_ands; go_simp; (try with_reducible rfl)))
 try simp only [Act.put, pu1, pu2, pu3, pu4, pu5, pu6]
 refine wpAnyH_ready (rs := [2]) (by kernel_rfl) (by simp) ?_
 refine AllReadyH.cons rfl (fun K hK => ?_) AllReadyH.nil
 go_simp
 refine (to_store W10.drew _ _ l h b s (Sl.later (w := W10) (HS.out.later B10.out) (Below.drew (Below.refl _ _))) (Sl.later (w := W10) (HSB.out.later B10.out) (Below.drew (Below.refl _ _))) (by omega) (by omega)).mono ?_
 rintro e W11 ⟨v_u, v_up, rfl, o_u11, o_up11, b11⟩
 have b11 : Below W10.heap.size W10 W11 := (Below.drew (Below.refl _ _)).trans b11
 have o_u11 : Own W11 W10.heap.size W11.heap.size 9 _ _ := o_u11
 have o_up11 : Own W11 W10.heap.size W11.heap.size 5 _ _ := o_up11
 refine hK.out _ _ ⟨(keepR (W := W10) hHeld.1 b11), (keepR (W := W10) hHeld.2.1 b11), (keepR (W := W10) hHeld.2.2.1 b11), (keepR (W := W10) hHeld.2.2.2.1 b11), (keepR (W := W10) hHeld.2.2.2.2.1 b11), (keepR (W := W10) hHeld.2.2.2.2.2.1 b11), (keepR (W := W10) hHeld.2.2.2.2.2.2.1 b11), (keepR (W := W10) hHeld.2.2.2.2.2.2.2.1 b11), (keepR (W := W10) hHeld.2.2.2.2.2.2.2.2.1 b11), (keepR (W := W10) hHeld.2.2.2.2.2.2.2.2.2 b11)⟩ (fun hHeld => ?_)
 clear hK K
 try simp only [Act.put, pu1, pu2, pu3, pu4, pu5, pu6]
 obtain ⟨lo_u, hi_u, lo_up, hi_up, d1_u, d2_u, d3_u, d4_u, d5_u, d6_u, d7_u, oo_u, oo_up⟩ := Sr.pairN o_u11 o_up11 b11.size
 clear o_u11 o_up11
 obtain ⟨ao_u, L_u, cap_u, rfl, _, _⟩ := oo_u.form
 obtain ⟨ao_up, L_up, cap_up, rfl, _, _⟩ := oo_up.form
 have o_u11 : Hid (Own W11 lo_u hi_u 9 (.slice ao_u L_u cap_u) (ss l)) := oo_u
 have o_up11 : Hid (Own W11 lo_up hi_up 5 (.slice ao_up L_up cap_up) (bs b)) := oo_up
 clear oo_u oo_up
 have z11 : W10.heap.size ≤ W11.heap.size := b11.size
 have B11 : Hid (Below w.heap.size w W11) := B10.out.trans (b11.mono B10.out.size)
 have r_a11 : Hid (W11.heap[w.heap.size]? = some (.cells #[.slice ao0 l.length cap0, .int .i64 h.n, .string h.r, .slice ao1 b.length cap1, .int .i64 s] 29 (0, 0))) := rowKeep r_a10.out b11
 have r_w011 : Hid (W11.heap[W4.heap.size]? = some (.cells #[.slice ao_m L_m cap_m, .int .i64 h.n, .string h.r, .slice ao_mp L_mp cap_mp, .int .i64 N] 39 (0, 0))) := rowKeep r_w010.out b11
 have r_x011 : Hid (W11.heap[W6.heap.size]? = some (.cells #[.slice ao_x L_x cap_x, .int .i64 h.n, .string h.r, .slice ao_xp L_xp cap_xp, .int .i64 s] 39 (0, 0))) := rowKeep r_x010.out b11
 have r_g011 : Hid (W11.heap[W8.heap.size]? = some (.cells #[.slice ao_g L_g cap_g, .int .i64 h.n, .string h.r, .slice ao_gp L_gp cap_gp, .int .i64 N] 39 (0, 0))) := rowKeep r_g010.out b11
 have o_m11 : Hid (Own W11 (lo_m) (hi_m) 9 (.slice ao_m L_m cap_m) (ss l)) := Own.later o_m10.out b11 (by omega)
 have o_mp11 : Hid (Own W11 (lo_mp) (hi_mp) 5 (.slice ao_mp L_mp cap_mp) (bs b)) := Own.later o_mp10.out b11 (by omega)
 have o_x11 : Hid (Own W11 (lo_x) (hi_x) 9 (.slice ao_x L_x cap_x) (ss l)) := Own.later o_x10.out b11 (by omega)
 have o_xp11 : Hid (Own W11 (lo_xp) (hi_xp) 5 (.slice ao_xp L_xp cap_xp) (bs b)) := Own.later o_xp10.out b11 (by omega)
 have o_g11 : Hid (Own W11 (lo_g) (hi_g) 9 (.slice ao_g L_g cap_g) (ss l)) := Own.later o_g10.out b11 (by omega)
 have o_gp11 : Hid (Own W11 (lo_gp) (hi_gp) 5 (.slice ao_gp L_gp cap_gp) (bs b)) := Own.later o_gp10.out b11 (by omega)
 clear r_a10 c_a10_0 c_a10_1 c_a10_2 c_a10_3 c_a10_4 r_w010 r_x010 c_x010_0 c_x010_1 c_x010_2 c_x010_3 c_x010_4 r_g010 o_m10 o_mp10 o_x10 o_xp10 o_g10 o_gp10
 refine wpAnyH_ready (rs := [3]) (by kernel_rfl) (by simp) ?_
 refine AllReadyH.cons rfl (fun K hK => ?_) AllReadyH.nil
 go_simp
 refine (eq_store W11 _ _ _ _ l h b s o_x11.out.sl o_u11.out.sl o_xp11.out.sl o_up11.out.sl (by omega) (by omega)).mono ?_
 rintro e W12 ⟨rfl, b12⟩
 refine hK.out _ _ ⟨(keepR (W := W11) hHeld.1 b12), (keepR (W := W11) hHeld.2.1 b12), (keepR (W := W11) hHeld.2.2.1 b12), (keepR (W := W11) hHeld.2.2.2.1 b12), (keepR (W := W11) hHeld.2.2.2.2.1 b12), (keepR (W := W11) hHeld.2.2.2.2.2.1 b12), (keepR (W := W11) hHeld.2.2.2.2.2.2.1 b12), (keepR (W := W11) hHeld.2.2.2.2.2.2.2.1 b12), (keepR (W := W11) hHeld.2.2.2.2.2.2.2.2.1 b12), (keepR (W := W11) hHeld.2.2.2.2.2.2.2.2.2 b12)⟩ (fun hHeld => ?_)
 clear hK K
 try simp only [Act.put, pu1, pu2, pu3, pu4, pu5, pu6]
 have z12 : W11.heap.size ≤ W12.heap.size := b12.size
 have B12 : Hid (Below w.heap.size w W12) := B11.out.trans (b12.mono B11.out.size)
 have r_a12 : Hid (W12.heap[w.heap.size]? = some (.cells #[.slice ao0 l.length cap0, .int .i64 h.n, .string h.r, .slice ao1 b.length cap1, .int .i64 s] 29 (0, 0))) := rowKeep r_a11.out b12
 have r_w012 : Hid (W12.heap[W4.heap.size]? = some (.cells #[.slice ao_m L_m cap_m, .int .i64 h.n, .string h.r, .slice ao_mp L_mp cap_mp, .int .i64 N] 39 (0, 0))) := rowKeep r_w011.out b12
 have r_x012 : Hid (W12.heap[W6.heap.size]? = some (.cells #[.slice ao_x L_x cap_x, .int .i64 h.n, .string h.r, .slice ao_xp L_xp cap_xp, .int .i64 s] 39 (0, 0))) := rowKeep r_x011.out b12
 have r_g012 : Hid (W12.heap[W8.heap.size]? = some (.cells #[.slice ao_g L_g cap_g, .int .i64 h.n, .string h.r, .slice ao_gp L_gp cap_gp, .int .i64 N] 39 (0, 0))) := rowKeep r_g011.out b12
 have o_m12 : Hid (Own W12 (lo_m) (hi_m) 9 (.slice ao_m L_m cap_m) (ss l)) := Own.later o_m11.out b12 (by omega)
 have o_mp12 : Hid (Own W12 (lo_mp) (hi_mp) 5 (.slice ao_mp L_mp cap_mp) (bs b)) := Own.later o_mp11.out b12 (by omega)
 have o_x12 : Hid (Own W12 (lo_x) (hi_x) 9 (.slice ao_x L_x cap_x) (ss l)) := Own.later o_x11.out b12 (by omega)
 have o_xp12 : Hid (Own W12 (lo_xp) (hi_xp) 5 (.slice ao_xp L_xp cap_xp) (bs b)) := Own.later o_xp11.out b12 (by omega)
 have o_g12 : Hid (Own W12 (lo_g) (hi_g) 9 (.slice ao_g L_g cap_g) (ss l)) := Own.later o_g11.out b12 (by omega)
 have o_gp12 : Hid (Own W12 (lo_gp) (hi_gp) 5 (.slice ao_gp L_gp cap_gp) (bs b)) := Own.later o_gp11.out b12 (by omega)
 have c_x012_0 : W12.cell? ⟨W6.heap.size, 0, none⟩ = some (.slice ao_x L_x cap_x) := row_at r_x012.out 0
 have c_x012_1 : W12.cell? ⟨W6.heap.size, 1, none⟩ = some (.int .i64 h.n) := row_at r_x012.out 1
 have c_x012_2 : W12.cell? ⟨W6.heap.size, 2, none⟩ = some (.string h.r) := row_at r_x012.out 2
 have c_x012_3 : W12.cell? ⟨W6.heap.size, 3, none⟩ = some (.slice ao_xp L_xp cap_xp) := row_at r_x012.out 3
 have c_x012_4 : W12.cell? ⟨W6.heap.size, 4, none⟩ = some (.int .i64 s) := row_at r_x012.out 4
 clear r_a11 r_w011 r_x011 r_g011 o_m11 o_mp11 o_x11 o_xp11 o_g11 o_gp11 o_u11 o_up11
 (refine wpAnyH_take (i := 4) (v := ?v4x6) rfl (by kernel_rfl) (by kernel_rfl) (by kernel_rfl) (fun _ _ _ h => h) (Or.inl ⟨by rfl, ?hy4x6⟩) (by assumption) ?rest4x6; case hy4x6 => (intro w hSw; (try dsimp only at hSw); go_split_ands; go_simp; (try with_reducible rfl)))
 try simp only [Act.put, pu1, pu2, pu3, pu4, pu5, pu6]
 refine wpAnyH_done (by kernel_rfl) ?_ _
 clear hHeld
 go_wp2_with fail
 refine (mark_store W12 h _ _ s _ _ _ _ l b 1 o_x12.out o_xp12.out (by omega) (by omega) (by omega) (by omega) (by omega) (by omega) (by omega)).mono ?_
 rintro e W13 ⟨rfl, o_x13, o_xp13, p13⟩
 have z13 : W12.heap.size ≤ W13.heap.size := p13.size
 have B13 : Hid (Below w.heap.size w W13) := B12.out.trans (p13.below (by have := B12.out.size; omega) (by have := B12.out.size; omega) B12.out.size)
 have r_a13 : Hid (W13.heap[w.heap.size]? = some (.cells #[.slice ao0 l.length cap0, .int .i64 h.n, .string h.r, .slice ao1 b.length cap1, .int .i64 s] 29 (0, 0))) := (p13.block (w.heap.size) (by omega) (by omega) (by omega)).trans r_a12.out
 have r_w013 : Hid (W13.heap[W4.heap.size]? = some (.cells #[.slice ao_m L_m cap_m, .int .i64 h.n, .string h.r, .slice ao_mp L_mp cap_mp, .int .i64 N] 39 (0, 0))) := (p13.block (W4.heap.size) (by omega) (by omega) (by omega)).trans r_w012.out
 have r_g013 : Hid (W13.heap[W8.heap.size]? = some (.cells #[.slice ao_g L_g cap_g, .int .i64 h.n, .string h.r, .slice ao_gp L_gp cap_gp, .int .i64 N] 39 (0, 0))) := (p13.block (W8.heap.size) (by omega) (by omega) (by omega)).trans r_g012.out
 have o_m13 : Hid (Own W13 (lo_m) (hi_m) 9 (.slice ao_m L_m cap_m) (ss l)) := Sr.Own.apart2 o_m12.out p13 (by omega) (by omega) (by omega)
 have o_mp13 : Hid (Own W13 (lo_mp) (hi_mp) 5 (.slice ao_mp L_mp cap_mp) (bs b)) := Sr.Own.apart2 o_mp12.out p13 (by omega) (by omega) (by omega)
 have o_g13 : Hid (Own W13 (lo_g) (hi_g) 9 (.slice ao_g L_g cap_g) (ss l)) := Sr.Own.apart2 o_g12.out p13 (by omega) (by omega) (by omega)
 have o_gp13 : Hid (Own W13 (lo_gp) (hi_gp) 5 (.slice ao_gp L_gp cap_gp) (bs b)) := Sr.Own.apart2 o_gp12.out p13 (by omega) (by omega) (by omega)
 have c_w013_0 : W13.cell? ⟨W4.heap.size, 0, none⟩ = some (.slice ao_m L_m cap_m) := row_at r_w013.out 0
 have c_w013_1 : W13.cell? ⟨W4.heap.size, 1, none⟩ = some (.int .i64 h.n) := row_at r_w013.out 1
 have c_w013_2 : W13.cell? ⟨W4.heap.size, 2, none⟩ = some (.string h.r) := row_at r_w013.out 2
 have c_w013_3 : W13.cell? ⟨W4.heap.size, 3, none⟩ = some (.slice ao_mp L_mp cap_mp) := row_at r_w013.out 3
 have c_w013_4 : W13.cell? ⟨W4.heap.size, 4, none⟩ = some (.int .i64 N) := row_at r_w013.out 4
 have c_g013_0 : W13.cell? ⟨W8.heap.size, 0, none⟩ = some (.slice ao_g L_g cap_g) := row_at r_g013.out 0
 have c_g013_1 : W13.cell? ⟨W8.heap.size, 1, none⟩ = some (.int .i64 h.n) := row_at r_g013.out 1
 have c_g013_2 : W13.cell? ⟨W8.heap.size, 2, none⟩ = some (.string h.r) := row_at r_g013.out 2
 have c_g013_3 : W13.cell? ⟨W8.heap.size, 3, none⟩ = some (.slice ao_gp L_gp cap_gp) := row_at r_g013.out 3
 have c_g013_4 : W13.cell? ⟨W8.heap.size, 4, none⟩ = some (.int .i64 N) := row_at r_g013.out 4
 clear r_a12 r_w012 r_x012 c_x012_0 c_x012_1 c_x012_2 c_x012_3 c_x012_4 r_g012 o_m12 o_mp12 o_x12 o_xp12 o_g12 o_gp12
 have dk : ¬ ((1 + l.length + b.length : Nat) : Int) < 0 := by omega
 go_wp2_with fail
 refine (eq_store W13 _ _ _ _ l h b N o_g13.out.sl o_m13.out.sl o_gp13.out.sl o_mp13.out.sl (by omega) (by omega)).mono ?_
 rintro e W14 ⟨rfl, b14⟩
 have z14 : W13.heap.size ≤ W14.heap.size := b14.size
 have B14 : Hid (Below w.heap.size w W14) := B13.out.trans (b14.mono B13.out.size)
 have r_a14 : Hid (W14.heap[w.heap.size]? = some (.cells #[.slice ao0 l.length cap0, .int .i64 h.n, .string h.r, .slice ao1 b.length cap1, .int .i64 s] 29 (0, 0))) := rowKeep r_a13.out b14
 have r_w014 : Hid (W14.heap[W4.heap.size]? = some (.cells #[.slice ao_m L_m cap_m, .int .i64 h.n, .string h.r, .slice ao_mp L_mp cap_mp, .int .i64 N] 39 (0, 0))) := rowKeep r_w013.out b14
 have r_g014 : Hid (W14.heap[W8.heap.size]? = some (.cells #[.slice ao_g L_g cap_g, .int .i64 h.n, .string h.r, .slice ao_gp L_gp cap_gp, .int .i64 N] 39 (0, 0))) := rowKeep r_g013.out b14
 have o_m14 : Hid (Own W14 (lo_m) (hi_m) 9 (.slice ao_m L_m cap_m) (ss l)) := Own.later o_m13.out b14 (by omega)
 have o_mp14 : Hid (Own W14 (lo_mp) (hi_mp) 5 (.slice ao_mp L_mp cap_mp) (bs b)) := Own.later o_mp13.out b14 (by omega)
 have o_g14 : Hid (Own W14 (lo_g) (hi_g) 9 (.slice ao_g L_g cap_g) (ss l)) := Own.later o_g13.out b14 (by omega)
 have o_gp14 : Hid (Own W14 (lo_gp) (hi_gp) 5 (.slice ao_gp L_gp cap_gp) (bs b)) := Own.later o_gp13.out b14 (by omega)
 have c_g014_0 : W14.cell? ⟨W8.heap.size, 0, none⟩ = some (.slice ao_g L_g cap_g) := row_at r_g014.out 0
 have c_g014_1 : W14.cell? ⟨W8.heap.size, 1, none⟩ = some (.int .i64 h.n) := row_at r_g014.out 1
 have c_g014_2 : W14.cell? ⟨W8.heap.size, 2, none⟩ = some (.string h.r) := row_at r_g014.out 2
 have c_g014_3 : W14.cell? ⟨W8.heap.size, 3, none⟩ = some (.slice ao_gp L_gp cap_gp) := row_at r_g014.out 3
 have c_g014_4 : W14.cell? ⟨W8.heap.size, 4, none⟩ = some (.int .i64 N) := row_at r_g014.out 4
 clear r_a13 r_w013 c_w013_0 c_w013_1 c_w013_2 c_w013_3 c_w013_4 r_g013 c_g013_0 c_g013_1 c_g013_2 c_g013_3 c_g013_4 o_m13 o_mp13 o_g13 o_gp13
 go_wp2_with fail
 refine (mark_store W14 h _ _ N _ _ _ _ l b 1 o_g14.out o_gp14.out (by omega) (by omega) (by omega) (by omega) (by omega) (by omega) (by omega)).mono ?_
 rintro e W15 ⟨rfl, o_g15, o_gp15, p15⟩
 have o_g15 : Hid (Own W15 (lo_g) (hi_g) 9 (.slice ao_g L_g cap_g) (ss (Strs.mts 1 l.length))) := o_g15
 have o_gp15 : Hid (Own W15 (lo_gp) (hi_gp) 5 (.slice ao_gp L_gp cap_gp) (bs (marks (1 + l.length) b.length))) := o_gp15
 have z15 : W14.heap.size ≤ W15.heap.size := p15.size
 have B15 : Hid (Below w.heap.size w W15) := B14.out.trans (p15.below (by have := B14.out.size; omega) (by have := B14.out.size; omega) B14.out.size)
 have r_a15 : Hid (W15.heap[w.heap.size]? = some (.cells #[.slice ao0 l.length cap0, .int .i64 h.n, .string h.r, .slice ao1 b.length cap1, .int .i64 s] 29 (0, 0))) := (p15.block (w.heap.size) (by omega) (by omega) (by omega)).trans r_a14.out
 have r_w015 : Hid (W15.heap[W4.heap.size]? = some (.cells #[.slice ao_m L_m cap_m, .int .i64 h.n, .string h.r, .slice ao_mp L_mp cap_mp, .int .i64 N] 39 (0, 0))) := (p15.block (W4.heap.size) (by omega) (by omega) (by omega)).trans r_w014.out
 have r_g015 : Hid (W15.heap[W8.heap.size]? = some (.cells #[.slice ao_g L_g cap_g, .int .i64 h.n, .string h.r, .slice ao_gp L_gp cap_gp, .int .i64 N] 39 (0, 0))) := (p15.block (W8.heap.size) (by omega) (by omega) (by omega)).trans r_g014.out
 have o_m15 : Hid (Own W15 (lo_m) (hi_m) 9 (.slice ao_m L_m cap_m) (ss l)) := Sr.Own.apart2 o_m14.out p15 (by omega) (by omega) (by omega)
 have o_mp15 : Hid (Own W15 (lo_mp) (hi_mp) 5 (.slice ao_mp L_mp cap_mp) (bs b)) := Sr.Own.apart2 o_mp14.out p15 (by omega) (by omega) (by omega)
 have c_g015_0 : W15.cell? ⟨W8.heap.size, 0, none⟩ = some (.slice ao_g L_g cap_g) := row_at r_g015.out 0
 have c_g015_1 : W15.cell? ⟨W8.heap.size, 1, none⟩ = some (.int .i64 h.n) := row_at r_g015.out 1
 have c_g015_2 : W15.cell? ⟨W8.heap.size, 2, none⟩ = some (.string h.r) := row_at r_g015.out 2
 have c_g015_3 : W15.cell? ⟨W8.heap.size, 3, none⟩ = some (.slice ao_gp L_gp cap_gp) := row_at r_g015.out 3
 have c_g015_4 : W15.cell? ⟨W8.heap.size, 4, none⟩ = some (.int .i64 N) := row_at r_g015.out 4
 clear r_a14 r_w014 r_g014 c_g014_0 c_g014_1 c_g014_2 c_g014_3 c_g014_4 o_m14 o_mp14 o_g14 o_gp14
 go_wp2_with fail
 refine (held_store W15 h _ _ N l.length b.length 1 o_g15.out.sl o_gp15.out.sl (by omega) (by omega) (by omega) (by omega)).mono ?_
 rintro e W16 ⟨rfl, b16⟩
 have z16 : W15.heap.size ≤ W16.heap.size := b16.size
 have B16 : Hid (Below w.heap.size w W16) := B15.out.trans (b16.mono B15.out.size)
 have r_a16 : Hid (W16.heap[w.heap.size]? = some (.cells #[.slice ao0 l.length cap0, .int .i64 h.n, .string h.r, .slice ao1 b.length cap1, .int .i64 s] 29 (0, 0))) := rowKeep r_a15.out b16
 have r_w016 : Hid (W16.heap[W4.heap.size]? = some (.cells #[.slice ao_m L_m cap_m, .int .i64 h.n, .string h.r, .slice ao_mp L_mp cap_mp, .int .i64 N] 39 (0, 0))) := rowKeep r_w015.out b16
 have r_g016 : Hid (W16.heap[W8.heap.size]? = some (.cells #[.slice ao_g L_g cap_g, .int .i64 h.n, .string h.r, .slice ao_gp L_gp cap_gp, .int .i64 N] 39 (0, 0))) := rowKeep r_g015.out b16
 have o_m16 : Hid (Own W16 (lo_m) (hi_m) 9 (.slice ao_m L_m cap_m) (ss l)) := Own.later o_m15.out b16 (by omega)
 have o_mp16 : Hid (Own W16 (lo_mp) (hi_mp) 5 (.slice ao_mp L_mp cap_mp) (bs b)) := Own.later o_mp15.out b16 (by omega)
 have o_g16 : Hid (Own W16 (lo_g) (hi_g) 9 (.slice ao_g L_g cap_g) (ss (Strs.mts 1 l.length))) := Own.later o_g15.out b16 (by omega)
 have o_gp16 : Hid (Own W16 (lo_gp) (hi_gp) 5 (.slice ao_gp L_gp cap_gp) (bs (marks (1 + l.length) b.length))) := Own.later o_gp15.out b16 (by omega)
 have c_a16_0 : W16.cell? ⟨w.heap.size, 0, none⟩ = some (.slice ao0 l.length cap0) := row_at r_a16.out 0
 have c_a16_1 : W16.cell? ⟨w.heap.size, 1, none⟩ = some (.int .i64 h.n) := row_at r_a16.out 1
 have c_a16_2 : W16.cell? ⟨w.heap.size, 2, none⟩ = some (.string h.r) := row_at r_a16.out 2
 have c_a16_3 : W16.cell? ⟨w.heap.size, 3, none⟩ = some (.slice ao1 b.length cap1) := row_at r_a16.out 3
 have c_a16_4 : W16.cell? ⟨w.heap.size, 4, none⟩ = some (.int .i64 s) := row_at r_a16.out 4
 clear r_a15 r_w015 r_g015 c_g015_0 c_g015_1 c_g015_2 c_g015_3 c_g015_4 o_m15 o_mp15 o_g15 o_gp15
 go_wp2_with fail
 refine (to_store W16 _ _ l h b s (HS.out.later B16.out) (HSB.out.later B16.out) (by omega) (by omega)).mono ?_
 rintro e W17 ⟨v_y, v_yp, rfl, o_y17, o_yp17, b17⟩
 obtain ⟨lo_y, hi_y, lo_yp, hi_yp, d1_y, d2_y, d3_y, d4_y, d5_y, d6_y, d7_y, oo_y, oo_yp⟩ := Sr.pairN o_y17 o_yp17 b17.size
 clear o_y17 o_yp17
 obtain ⟨ao_y, L_y, cap_y, rfl, _, _⟩ := oo_y.form
 obtain ⟨ao_yp, L_yp, cap_yp, rfl, _, _⟩ := oo_yp.form
 have o_y17 : Hid (Own W17 lo_y hi_y 9 (.slice ao_y L_y cap_y) (ss l)) := oo_y
 have o_yp17 : Hid (Own W17 lo_yp hi_yp 5 (.slice ao_yp L_yp cap_yp) (bs b)) := oo_yp
 clear oo_y oo_yp
 have z17 : W16.heap.size ≤ W17.heap.size := b17.size
 have B17 : Hid (Below w.heap.size w W17) := B16.out.trans (b17.mono B16.out.size)
 have r_w017 : Hid (W17.heap[W4.heap.size]? = some (.cells #[.slice ao_m L_m cap_m, .int .i64 h.n, .string h.r, .slice ao_mp L_mp cap_mp, .int .i64 N] 39 (0, 0))) := rowKeep r_w016.out b17
 have r_g017 : Hid (W17.heap[W8.heap.size]? = some (.cells #[.slice ao_g L_g cap_g, .int .i64 h.n, .string h.r, .slice ao_gp L_gp cap_gp, .int .i64 N] 39 (0, 0))) := rowKeep r_g016.out b17
 have o_m17 : Hid (Own W17 (lo_m) (hi_m) 9 (.slice ao_m L_m cap_m) (ss l)) := Own.later o_m16.out b17 (by omega)
 have o_mp17 : Hid (Own W17 (lo_mp) (hi_mp) 5 (.slice ao_mp L_mp cap_mp) (bs b)) := Own.later o_mp16.out b17 (by omega)
 have o_g17 : Hid (Own W17 (lo_g) (hi_g) 9 (.slice ao_g L_g cap_g) (ss (Strs.mts 1 l.length))) := Own.later o_g16.out b17 (by omega)
 have o_gp17 : Hid (Own W17 (lo_gp) (hi_gp) 5 (.slice ao_gp L_gp cap_gp) (bs (marks (1 + l.length) b.length))) := Own.later o_gp16.out b17 (by omega)
 clear r_a16 c_a16_0 c_a16_1 c_a16_2 c_a16_3 c_a16_4 r_w016 r_g016 o_m16 o_mp16 o_g16 o_gp16
 go_wp2_with fail
 refine (q2 W17 _ _ B17.out o_y17.out.sl o_yp17.out.sl).mono ?_
 rintro e W18 ⟨v_h, v_hp, rfl, o_h18, o_hp18, b18⟩
 obtain ⟨lo_h, hi_h, lo_hp, hi_hp, d1_h, d2_h, d3_h, d4_h, d5_h, d6_h, d7_h, oo_h, oo_hp⟩ := Sr.pairN o_h18 o_hp18 b18.size
 clear o_h18 o_hp18
 obtain ⟨ao_h, L_h, cap_h, rfl, _, _⟩ := oo_h.form
 obtain ⟨ao_hp, L_hp, cap_hp, rfl, _, _⟩ := oo_hp.form
 have o_h18 : Hid (Own W18 lo_h hi_h 9 (.slice ao_h L_h cap_h) (ss l)) := oo_h
 have o_hp18 : Hid (Own W18 lo_hp hi_hp 5 (.slice ao_hp L_hp cap_hp) (bs b)) := oo_hp
 clear oo_h oo_hp
 have z18 : W17.heap.size ≤ W18.heap.size := b18.size
 have B18 : Hid (Below w.heap.size w W18) := B17.out.trans (b18.mono B17.out.size)
 have r_w018 : Hid (W18.heap[W4.heap.size]? = some (.cells #[.slice ao_m L_m cap_m, .int .i64 h.n, .string h.r, .slice ao_mp L_mp cap_mp, .int .i64 N] 39 (0, 0))) := rowKeep r_w017.out b18
 have r_g018 : Hid (W18.heap[W8.heap.size]? = some (.cells #[.slice ao_g L_g cap_g, .int .i64 h.n, .string h.r, .slice ao_gp L_gp cap_gp, .int .i64 N] 39 (0, 0))) := rowKeep r_g017.out b18
 have o_m18 : Hid (Own W18 (lo_m) (hi_m) 9 (.slice ao_m L_m cap_m) (ss l)) := Own.later o_m17.out b18 (by omega)
 have o_mp18 : Hid (Own W18 (lo_mp) (hi_mp) 5 (.slice ao_mp L_mp cap_mp) (bs b)) := Own.later o_mp17.out b18 (by omega)
 have o_g18 : Hid (Own W18 (lo_g) (hi_g) 9 (.slice ao_g L_g cap_g) (ss (Strs.mts 1 l.length))) := Own.later o_g17.out b18 (by omega)
 have o_gp18 : Hid (Own W18 (lo_gp) (hi_gp) 5 (.slice ao_gp L_gp cap_gp) (bs (marks (1 + l.length) b.length))) := Own.later o_gp17.out b18 (by omega)
 have c_w018_0 : W18.cell? ⟨W4.heap.size, 0, none⟩ = some (.slice ao_m L_m cap_m) := row_at r_w018.out 0
 have c_w018_1 : W18.cell? ⟨W4.heap.size, 1, none⟩ = some (.int .i64 h.n) := row_at r_w018.out 1
 have c_w018_2 : W18.cell? ⟨W4.heap.size, 2, none⟩ = some (.string h.r) := row_at r_w018.out 2
 have c_w018_3 : W18.cell? ⟨W4.heap.size, 3, none⟩ = some (.slice ao_mp L_mp cap_mp) := row_at r_w018.out 3
 have c_w018_4 : W18.cell? ⟨W4.heap.size, 4, none⟩ = some (.int .i64 N) := row_at r_w018.out 4
 clear r_w017 r_g017 o_m17 o_mp17 o_g17 o_gp17 o_y17 o_yp17
 have a_w018_0 : ∀ o, (W18.alloc o).cell? ⟨W4.heap.size, 0, none⟩ = some (.slice ao_m L_m cap_m) := fun o => keepR c_w018_0 ((Below.refl _ _).alloc (Nat.le_refl _) o)
 have a_w018_1 : ∀ o, (W18.alloc o).cell? ⟨W4.heap.size, 1, none⟩ = some (.int .i64 h.n) := fun o => keepR c_w018_1 ((Below.refl _ _).alloc (Nat.le_refl _) o)
 have a_w018_2 : ∀ o, (W18.alloc o).cell? ⟨W4.heap.size, 2, none⟩ = some (.string h.r) := fun o => keepR c_w018_2 ((Below.refl _ _).alloc (Nat.le_refl _) o)
 have a_w018_3 : ∀ o, (W18.alloc o).cell? ⟨W4.heap.size, 3, none⟩ = some (.slice ao_mp L_mp cap_mp) := fun o => keepR c_w018_3 ((Below.refl _ _).alloc (Nat.le_refl _) o)
 have a_w018_4 : ∀ o, (W18.alloc o).cell? ⟨W4.heap.size, 4, none⟩ = some (.int .i64 N) := fun o => keepR c_w018_4 ((Below.refl _ _).alloc (Nat.le_refl _) o)
 obtain ⟨W19, HW19, b19, y19, hS19, r_h019⟩ : ∃ X, Hid ((W18.alloc (.cells #[.slice ao_h L_h cap_h, .int .i64 h.n, .string h.r, .slice ao_hp L_hp cap_hp, .int .i64 N] 39)) = X) ∧ Below W18.heap.size W18 X ∧ W18.heap.size + 1 ≤ X.heap.size ∧ Hid (X.heap.size = W18.heap.size + 1) ∧ Hid (X.heap[W18.heap.size]? = some (.cells #[.slice ao_h L_h cap_h, .int .i64 h.n, .string h.r, .slice ao_hp L_hp cap_hp, .int .i64 N] 39 (0, 0))) := ⟨_, rfl, ((Below.refl _ _).alloc (Nat.le_refl _) _), by simp, by show _ = _; simp, (by show _ = _; exact alloc_nth1_0 W18 _)⟩
 have B19 : Hid (Below w.heap.size w W19) := B18.out.trans (b19.mono B18.out.size)
 have r_g019 : Hid (W19.heap[W8.heap.size]? = some (.cells #[.slice ao_g L_g cap_g, .int .i64 h.n, .string h.r, .slice ao_gp L_gp cap_gp, .int .i64 N] 39 (0, 0))) := rowKeep r_g018.out b19
 have o_m19 : Hid (Own W19 (lo_m) (hi_m) 9 (.slice ao_m L_m cap_m) (ss l)) := Own.later o_m18.out b19 (by omega)
 have o_mp19 : Hid (Own W19 (lo_mp) (hi_mp) 5 (.slice ao_mp L_mp cap_mp) (bs b)) := Own.later o_mp18.out b19 (by omega)
 have o_g19 : Hid (Own W19 (lo_g) (hi_g) 9 (.slice ao_g L_g cap_g) (ss (Strs.mts 1 l.length))) := Own.later o_g18.out b19 (by omega)
 have o_gp19 : Hid (Own W19 (lo_gp) (hi_gp) 5 (.slice ao_gp L_gp cap_gp) (bs (marks (1 + l.length) b.length))) := Own.later o_gp18.out b19 (by omega)
 have o_h19 : Hid (Own W19 (lo_h) (hi_h) 9 (.slice ao_h L_h cap_h) (ss l)) := Own.later o_h18.out b19 (by omega)
 have o_hp19 : Hid (Own W19 (lo_hp) (hi_hp) 5 (.slice ao_hp L_hp cap_hp) (bs b)) := Own.later o_hp18.out b19 (by omega)
 clear r_w018 c_w018_0 c_w018_1 c_w018_2 c_w018_3 c_w018_4 r_g018 o_m18 o_mp18 o_g18 o_gp18 o_h18 o_hp18
 go_wp2_with fail
 rw [HW19.out]
 clear a_w018_0 a_w018_1 a_w018_2 a_w018_3 a_w018_4
 refine (eq_store W19 _ _ _ _ l h b N o_h19.out.sl o_m19.out.sl o_hp19.out.sl o_mp19.out.sl (by omega) (by omega)).mono ?_
 rintro e W20 ⟨rfl, b20⟩
 have B20 : Hid (Below w.heap.size w W20) := B19.out.trans (b20.mono B19.out.size)
 have r_g020 : Hid (W20.heap[W8.heap.size]? = some (.cells #[.slice ao_g L_g cap_g, .int .i64 h.n, .string h.r, .slice ao_gp L_gp cap_gp, .int .i64 N] 39 (0, 0))) := rowKeep r_g019.out b20
 have o_g20 : Hid (Own W20 (lo_g) (hi_g) 9 (.slice ao_g L_g cap_g) (ss (Strs.mts 1 l.length))) := Own.later o_g19.out b20 (by omega)
 have o_gp20 : Hid (Own W20 (lo_gp) (hi_gp) 5 (.slice ao_gp L_gp cap_gp) (bs (marks (1 + l.length) b.length))) := Own.later o_gp19.out b20 (by omega)
 have c_g020_0 : W20.cell? ⟨W8.heap.size, 0, none⟩ = some (.slice ao_g L_g cap_g) := row_at r_g020.out 0
 have c_g020_1 : W20.cell? ⟨W8.heap.size, 1, none⟩ = some (.int .i64 h.n) := row_at r_g020.out 1
 have c_g020_2 : W20.cell? ⟨W8.heap.size, 2, none⟩ = some (.string h.r) := row_at r_g020.out 2
 have c_g020_3 : W20.cell? ⟨W8.heap.size, 3, none⟩ = some (.slice ao_gp L_gp cap_gp) := row_at r_g020.out 3
 have c_g020_4 : W20.cell? ⟨W8.heap.size, 4, none⟩ = some (.int .i64 N) := row_at r_g020.out 4
 clear r_g019 r_h019 o_m19 o_mp19 o_g19 o_gp19 o_h19 o_hp19
 go_wp2_with fail
 refine (held_store W20 h _ _ N l.length b.length 1 o_g20.out.sl o_gp20.out.sl (by omega) (by omega) (by omega) (by omega)).mono ?_
 rintro e W21 ⟨rfl, b21⟩
 have B21 : Hid (Below w.heap.size w W21) := B20.out.trans (b21.mono B20.out.size)
 clear r_g020 c_g020_0 c_g020_1 c_g020_2 c_g020_3 c_g020_4 o_g20 o_gp20
 go_wp2
 go_ret
 exact ⟨rfl, B21.out⟩
end Go.Proofs.YtfpaichdkddglabGreatDoor.Sr
