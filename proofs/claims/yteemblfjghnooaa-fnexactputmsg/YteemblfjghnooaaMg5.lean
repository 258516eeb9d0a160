/- Chapter 13: the exact laws over contracts of the landed functions. -/
import Derived.Test.YteemblfjghnooaaMg3
import Derived.Test.YteemblfjghnooaaMg4
namespace Go.Proofs.Yteemblfjghnooaa.Mg
open Go.RowKit Go.Proofs.Yteemblfjghnooaa.Mem Go.Proofs.Yteemblfjghnooaa.Laws Go.Proofs.Yteemblfjghnooaa.Bytes Go.Proofs.Yteemblfjghnooaa.Sha Go.Proofs.Yteemblfjghnooaa.Tr Go.Proofs.Yteemblfjghnooaa.He
set_option linter.unusedVariables false
set_option linter.unusedSimpArgs false

theorem mem_tot13 : ∀ {l : List ByteArray} {s : ByteArray}, s ∈ l → s.size ≤ Puts.tot l := by
  intro l
  induction l with
  | nil => intro s h; cases h
  | cons a r ih =>
    intro s h
    simp only [Puts.tot]
    rcases List.mem_cons.1 h with rfl | h
    · omega
    · have := ih h; omega
theorem putM_len (m : Ms) : (putM m).length ≤ m.h.r.size + 35 + 5 * m.x.length + Puts.tot m.x := by
  unfold putM
  split
  · exact bytes_len m
  · exact Nat.zero_le _

set_option maxRecDepth 1000000 in
set_option maxHeartbeats 16000000 in
theorem exact_msgok (w : World) (v : Value) (m : Ms) (hs : Sl w v (ss m.x)) (hz : ∀ s ∈ m.x, s.size ≤ maxLen) (hm : m.x.length ≤ maxLen) (hh : m.h.r.size ≤ maxLen)
    (iF : ∀ W v', Below w.heap.size w W → Sl W v' (ss m.x) → m.x.length ≤ 1048576 → (∀ s ∈ m.x, s.size ≤ 1048576) → Puts.tot m.x ≤ 1048576 → m.h.r.size ≤ 1048576 → Calls Try.prog 14 #[.agg #[.int .i64 m.k, .int .i64 m.f, .int .i64 m.t, .int .i64 m.h.n, .string m.h.r, .int .i64 m.n, v']] W fun e w' => e = .returned (.bool (msgOk m)) ∧ Below W.heap.size W w') :
    Calls Try.prog 4 #[.agg #[.int .i64 m.k, .int .i64 m.f, .int .i64 m.t, .int .i64 m.h.n, .string m.h.r, .int .i64 m.n, v]] w fun e w' => e = .returned (.bool true) ∧ Below w.heap.size w w' := by
  obtain ⟨k, f, t, h, n, x⟩ := m
  simp only at *
  have HS : Hid (Sl w v (ss x)) := hs
  unfold maxLen at *
  obtain ⟨ao0, cap0, rfl, hc0⟩ := hs.form
  simp only [ss_len] at *
  clear hs
  have B0 : Hid (Below w.heap.size w w) := Below.refl _ _
  obtain ⟨W1, HW1, b1, y1, hS1, r_a1⟩ : ∃ X, Hid ((w.alloc (.cells #[.int .i64 k, .int .i64 f, .int .i64 t, .int .i64 h.n, .string h.r, .int .i64 n, .slice ao0 x.length cap0] 38)) = X) ∧ Below w.heap.size w X ∧ w.heap.size + 1 ≤ X.heap.size ∧ Hid (X.heap.size = w.heap.size + 1) ∧ Hid (X.heap[w.heap.size]? = some (.cells #[.int .i64 k, .int .i64 f, .int .i64 t, .int .i64 h.n, .string h.r, .int .i64 n, .slice ao0 x.length cap0] 38 (0, 0))) := ⟨_, rfl, ((Below.refl _ _).alloc (Nat.le_refl _) _), by simp, by show _ = _; simp, (by show _ = _; exact alloc_nth1_0 w _)⟩
  have z1 : w.heap.size ≤ W1.heap.size := b1.size
  have B1 : Hid (Below w.heap.size w W1) := B0.out.trans (b1.mono B0.out.size)
  have c_a1_0 : W1.cell? ⟨w.heap.size, 0, none⟩ = some (.int .i64 k) := row_at r_a1.out 0
  have c_a1_1 : W1.cell? ⟨w.heap.size, 1, none⟩ = some (.int .i64 f) := row_at r_a1.out 1
  have c_a1_2 : W1.cell? ⟨w.heap.size, 2, none⟩ = some (.int .i64 t) := row_at r_a1.out 2
  have c_a1_3 : W1.cell? ⟨w.heap.size, 3, none⟩ = some (.int .i64 h.n) := row_at r_a1.out 3
  have c_a1_4 : W1.cell? ⟨w.heap.size, 4, none⟩ = some (.string h.r) := row_at r_a1.out 4
  have c_a1_5 : W1.cell? ⟨w.heap.size, 5, none⟩ = some (.int .i64 n) := row_at r_a1.out 5
  have c_a1_6 : W1.cell? ⟨w.heap.size, 6, none⟩ = some (.slice ao0 x.length cap0) := row_at r_a1.out 6
  go_enter Try.func4, Try.ntmps4
  go_wp2_with fail
  rw [HW1.out]
  refine (sz_msg W1 _ ⟨k, f, t, h, n, x⟩ (HS.out.later B1.out) (fun s h => by have := hz s h; omega) (by simp only; omega) (by simp only; omega)).mono ?_
  rintro e W2 ⟨⟨r0, rfl, hr0⟩, b2⟩
  have z2 : W1.heap.size ≤ W2.heap.size := b2.size
  have B2 : Hid (Below w.heap.size w W2) := B1.out.trans (b2.mono B1.out.size)
  have r_a2 : Hid (W2.heap[w.heap.size]? = some (.cells #[.int .i64 k, .int .i64 f, .int .i64 t, .int .i64 h.n, .string h.r, .int .i64 n, .slice ao0 x.length cap0] 38 (0, 0))) := rowKeep r_a1.out b2
  have c_a2_0 : W2.cell? ⟨w.heap.size, 0, none⟩ = some (.int .i64 k) := row_at r_a2.out 0
  have c_a2_1 : W2.cell? ⟨w.heap.size, 1, none⟩ = some (.int .i64 f) := row_at r_a2.out 1
  have c_a2_2 : W2.cell? ⟨w.heap.size, 2, none⟩ = some (.int .i64 t) := row_at r_a2.out 2
  have c_a2_3 : W2.cell? ⟨w.heap.size, 3, none⟩ = some (.int .i64 h.n) := row_at r_a2.out 3
  have c_a2_4 : W2.cell? ⟨w.heap.size, 4, none⟩ = some (.string h.r) := row_at r_a2.out 4
  have c_a2_5 : W2.cell? ⟨w.heap.size, 5, none⟩ = some (.int .i64 n) := row_at r_a2.out 5
  have c_a2_6 : W2.cell? ⟨w.heap.size, 6, none⟩ = some (.slice ao0 x.length cap0) := row_at r_a2.out 6
  clear r_a1 c_a1_0 c_a1_1 c_a1_2 c_a1_3 c_a1_4 c_a1_5 c_a1_6
  by_cases hr : r0 < 0
  · go_wp2
    go_ret
    exact ⟨rfl, B2.out⟩
  simp only at hr0
  have hr1 : x.length + Puts.tot x ≤ 1048576 ∧ h.r.size ≤ 1048576 ∧ 0 ≤ r0 ∧ r0 ≤ 1048576 := by rcases hr0 with h0 | h0; exact absurd h0 hr; exact h0
  obtain ⟨hr1, hzh, hr2, hr3⟩ := hr1
  have hl : x.length ≤ 1048576 := by omega
  have HZ : Hid (∀ s ∈ x, s.size ≤ 1048576) := fun s h => Nat.le_trans (mem_tot13 h) (by omega)
  clear hz hr0 hm hh
  have q1 : ∀ W v1, Sl W v1 (ss x) → _ := fun W v1 h1 => msgok_spec W v1 ⟨k, f, t, h, n, x⟩ h1 (by simp only; omega)
  have q2 : ∀ W v1, Below w.heap.size w W → Sl W v1 (ss x) → _ := fun W v1 hB h1 => iF W v1 hB h1 hl HZ.out (by omega) hzh
  obtain ⟨A, hA⟩ : ∃ A, msgOk ⟨k, f, t, h, n, x⟩ = A := ⟨_, rfl⟩
  simp only [hA] at q1 q2
  clear hA iF
  go_wp2_with fail
  refine (to_msg W2 _ ⟨k, f, t, h, n, x⟩ (HS.out.later B2.out) (by simp only; omega)).mono ?_
  rintro e W3 ⟨v_t, rfl, o_t3, b3⟩
  obtain ⟨ao_t, L_t, cap_t, rfl, hL_t, hM_t⟩ := o_t3.form
  have o_t3 : Hid (Own W3 W2.heap.size W3.heap.size 9 (.slice ao_t L_t cap_t) (ss x)) := o_t3
  clear hL_t hM_t
  have z3 : W2.heap.size ≤ W3.heap.size := b3.size
  have B3 : Hid (Below w.heap.size w W3) := B2.out.trans (b3.mono B2.out.size)
  have r_a3 : Hid (W3.heap[w.heap.size]? = some (.cells #[.int .i64 k, .int .i64 f, .int .i64 t, .int .i64 h.n, .string h.r, .int .i64 n, .slice ao0 x.length cap0] 38 (0, 0))) := rowKeep r_a2.out b3
  have c_a3_0 : W3.cell? ⟨w.heap.size, 0, none⟩ = some (.int .i64 k) := row_at r_a3.out 0
  have c_a3_1 : W3.cell? ⟨w.heap.size, 1, none⟩ = some (.int .i64 f) := row_at r_a3.out 1
  have c_a3_2 : W3.cell? ⟨w.heap.size, 2, none⟩ = some (.int .i64 t) := row_at r_a3.out 2
  have c_a3_3 : W3.cell? ⟨w.heap.size, 3, none⟩ = some (.int .i64 h.n) := row_at r_a3.out 3
  have c_a3_4 : W3.cell? ⟨w.heap.size, 4, none⟩ = some (.string h.r) := row_at r_a3.out 4
  have c_a3_5 : W3.cell? ⟨w.heap.size, 5, none⟩ = some (.int .i64 n) := row_at r_a3.out 5
  have c_a3_6 : W3.cell? ⟨w.heap.size, 6, none⟩ = some (.slice ao0 x.length cap0) := row_at r_a3.out 6
  clear r_a2 c_a2_0 c_a2_1 c_a2_2 c_a2_3 c_a2_4 c_a2_5 c_a2_6
  go_wp2_with fail
  refine (q1 W3 _ o_t3.out.sl).mono ?_
  rintro e W4 ⟨rfl, b4⟩
  have z4 : W3.heap.size ≤ W4.heap.size := b4.size
  have B4 : Hid (Below w.heap.size w W4) := B3.out.trans (b4.mono B3.out.size)
  have r_a4 : Hid (W4.heap[w.heap.size]? = some (.cells #[.int .i64 k, .int .i64 f, .int .i64 t, .int .i64 h.n, .string h.r, .int .i64 n, .slice ao0 x.length cap0] 38 (0, 0))) := rowKeep r_a3.out b4
  have o_t4 : Hid (Own W4 (W2.heap.size) (W3.heap.size) 9 (.slice ao_t L_t cap_t) (ss x)) := Own.later o_t3.out b4 (by omega)
  have c_a4_0 : W4.cell? ⟨w.heap.size, 0, none⟩ = some (.int .i64 k) := row_at r_a4.out 0
  have c_a4_1 : W4.cell? ⟨w.heap.size, 1, none⟩ = some (.int .i64 f) := row_at r_a4.out 1
  have c_a4_2 : W4.cell? ⟨w.heap.size, 2, none⟩ = some (.int .i64 t) := row_at r_a4.out 2
  have c_a4_3 : W4.cell? ⟨w.heap.size, 3, none⟩ = some (.int .i64 h.n) := row_at r_a4.out 3
  have c_a4_4 : W4.cell? ⟨w.heap.size, 4, none⟩ = some (.string h.r) := row_at r_a4.out 4
  have c_a4_5 : W4.cell? ⟨w.heap.size, 5, none⟩ = some (.int .i64 n) := row_at r_a4.out 5
  have c_a4_6 : W4.cell? ⟨w.heap.size, 6, none⟩ = some (.slice ao0 x.length cap0) := row_at r_a4.out 6
  clear r_a3 c_a3_0 c_a3_1 c_a3_2 c_a3_3 c_a3_4 c_a3_5 c_a3_6 o_t3
  clear o_t4
  go_wp2_with fail
  refine (to_msg W4 _ ⟨k, f, t, h, n, x⟩ (HS.out.later B4.out) (by simp only; omega)).mono ?_
  rintro e W5 ⟨v_x, rfl, o_x5, b5⟩
  obtain ⟨ao_x, L_x, cap_x, rfl, hL_x, hM_x⟩ := o_x5.form
  have o_x5 : Hid (Own W5 W4.heap.size W5.heap.size 9 (.slice ao_x L_x cap_x) (ss x)) := o_x5
  clear hL_x hM_x
  have z5 : W4.heap.size ≤ W5.heap.size := b5.size
  have B5 : Hid (Below w.heap.size w W5) := B4.out.trans (b5.mono B4.out.size)
  have r_a5 : Hid (W5.heap[w.heap.size]? = some (.cells #[.int .i64 k, .int .i64 f, .int .i64 t, .int .i64 h.n, .string h.r, .int .i64 n, .slice ao0 x.length cap0] 38 (0, 0))) := rowKeep r_a4.out b5
  have c_a5_0 : W5.cell? ⟨w.heap.size, 0, none⟩ = some (.int .i64 k) := row_at r_a5.out 0
  have c_a5_1 : W5.cell? ⟨w.heap.size, 1, none⟩ = some (.int .i64 f) := row_at r_a5.out 1
  have c_a5_2 : W5.cell? ⟨w.heap.size, 2, none⟩ = some (.int .i64 t) := row_at r_a5.out 2
  have c_a5_3 : W5.cell? ⟨w.heap.size, 3, none⟩ = some (.int .i64 h.n) := row_at r_a5.out 3
  have c_a5_4 : W5.cell? ⟨w.heap.size, 4, none⟩ = some (.string h.r) := row_at r_a5.out 4
  have c_a5_5 : W5.cell? ⟨w.heap.size, 5, none⟩ = some (.int .i64 n) := row_at r_a5.out 5
  have c_a5_6 : W5.cell? ⟨w.heap.size, 6, none⟩ = some (.slice ao0 x.length cap0) := row_at r_a5.out 6
  clear r_a4 c_a4_0 c_a4_1 c_a4_2 c_a4_3 c_a4_4 c_a4_5 c_a4_6
  have a_a5_0 : ∀ o, (W5.alloc o).cell? ⟨w.heap.size, 0, none⟩ = some (.int .i64 k) := fun o => keepR c_a5_0 ((Below.refl _ _).alloc (Nat.le_refl _) o)
  have a_a5_1 : ∀ o, (W5.alloc o).cell? ⟨w.heap.size, 1, none⟩ = some (.int .i64 f) := fun o => keepR c_a5_1 ((Below.refl _ _).alloc (Nat.le_refl _) o)
  have a_a5_2 : ∀ o, (W5.alloc o).cell? ⟨w.heap.size, 2, none⟩ = some (.int .i64 t) := fun o => keepR c_a5_2 ((Below.refl _ _).alloc (Nat.le_refl _) o)
  have a_a5_3 : ∀ o, (W5.alloc o).cell? ⟨w.heap.size, 3, none⟩ = some (.int .i64 h.n) := fun o => keepR c_a5_3 ((Below.refl _ _).alloc (Nat.le_refl _) o)
  have a_a5_4 : ∀ o, (W5.alloc o).cell? ⟨w.heap.size, 4, none⟩ = some (.string h.r) := fun o => keepR c_a5_4 ((Below.refl _ _).alloc (Nat.le_refl _) o)
  have a_a5_5 : ∀ o, (W5.alloc o).cell? ⟨w.heap.size, 5, none⟩ = some (.int .i64 n) := fun o => keepR c_a5_5 ((Below.refl _ _).alloc (Nat.le_refl _) o)
  have a_a5_6 : ∀ o, (W5.alloc o).cell? ⟨w.heap.size, 6, none⟩ = some (.slice ao0 x.length cap0) := fun o => keepR c_a5_6 ((Below.refl _ _).alloc (Nat.le_refl _) o)
  obtain ⟨W6, HW6, b6, y6, hS6, r_x06⟩ : ∃ X, Hid ((W5.alloc (.cells #[.int .i64 k, .int .i64 f, .int .i64 t, .int .i64 h.n, .string h.r, .int .i64 n, .slice ao_x L_x cap_x] 28)) = X) ∧ Below W5.heap.size W5 X ∧ W5.heap.size + 1 ≤ X.heap.size ∧ Hid (X.heap.size = W5.heap.size + 1) ∧ Hid (X.heap[W5.heap.size]? = some (.cells #[.int .i64 k, .int .i64 f, .int .i64 t, .int .i64 h.n, .string h.r, .int .i64 n, .slice ao_x L_x cap_x] 28 (0, 0))) := ⟨_, rfl, ((Below.refl _ _).alloc (Nat.le_refl _) _), by simp, by show _ = _; simp, (by show _ = _; exact alloc_nth1_0 W5 _)⟩
  have z6 : W5.heap.size ≤ W6.heap.size := b6.size
  have B6 : Hid (Below w.heap.size w W6) := B5.out.trans (b6.mono B5.out.size)
  have r_a6 : Hid (W6.heap[w.heap.size]? = some (.cells #[.int .i64 k, .int .i64 f, .int .i64 t, .int .i64 h.n, .string h.r, .int .i64 n, .slice ao0 x.length cap0] 38 (0, 0))) := rowKeep r_a5.out b6
  have o_x6 : Hid (Own W6 (W4.heap.size) (W5.heap.size) 9 (.slice ao_x L_x cap_x) (ss x)) := Own.later o_x5.out b6 (by omega)
  have c_a6_0 : W6.cell? ⟨w.heap.size, 0, none⟩ = some (.int .i64 k) := row_at r_a6.out 0
  have c_a6_1 : W6.cell? ⟨w.heap.size, 1, none⟩ = some (.int .i64 f) := row_at r_a6.out 1
  have c_a6_2 : W6.cell? ⟨w.heap.size, 2, none⟩ = some (.int .i64 t) := row_at r_a6.out 2
  have c_a6_3 : W6.cell? ⟨w.heap.size, 3, none⟩ = some (.int .i64 h.n) := row_at r_a6.out 3
  have c_a6_4 : W6.cell? ⟨w.heap.size, 4, none⟩ = some (.string h.r) := row_at r_a6.out 4
  have c_a6_5 : W6.cell? ⟨w.heap.size, 5, none⟩ = some (.int .i64 n) := row_at r_a6.out 5
  have c_a6_6 : W6.cell? ⟨w.heap.size, 6, none⟩ = some (.slice ao0 x.length cap0) := row_at r_a6.out 6
  have c_x06_0 : W6.cell? ⟨W5.heap.size, 0, none⟩ = some (.int .i64 k) := row_at r_x06.out 0
  have c_x06_1 : W6.cell? ⟨W5.heap.size, 1, none⟩ = some (.int .i64 f) := row_at r_x06.out 1
  have c_x06_2 : W6.cell? ⟨W5.heap.size, 2, none⟩ = some (.int .i64 t) := row_at r_x06.out 2
  have c_x06_3 : W6.cell? ⟨W5.heap.size, 3, none⟩ = some (.int .i64 h.n) := row_at r_x06.out 3
  have c_x06_4 : W6.cell? ⟨W5.heap.size, 4, none⟩ = some (.string h.r) := row_at r_x06.out 4
  have c_x06_5 : W6.cell? ⟨W5.heap.size, 5, none⟩ = some (.int .i64 n) := row_at r_x06.out 5
  have c_x06_6 : W6.cell? ⟨W5.heap.size, 6, none⟩ = some (.slice ao_x L_x cap_x) := row_at r_x06.out 6
  clear r_a5 c_a5_0 c_a5_1 c_a5_2 c_a5_3 c_a5_4 c_a5_5 c_a5_6 o_x5
  go_wp2_with fail
  rw [HW6.out]
  clear a_a5_0 a_a5_1 a_a5_2 a_a5_3 a_a5_4 a_a5_5 a_a5_6
  refine (q2 W6 _ B6.out o_x6.out.sl).mono ?_
  rintro e W7 ⟨rfl, b7⟩
  have z7 : W6.heap.size ≤ W7.heap.size := b7.size
  have B7 : Hid (Below w.heap.size w W7) := B6.out.trans (b7.mono B6.out.size)
  have r_a7 : Hid (W7.heap[w.heap.size]? = some (.cells #[.int .i64 k, .int .i64 f, .int .i64 t, .int .i64 h.n, .string h.r, .int .i64 n, .slice ao0 x.length cap0] 38 (0, 0))) := rowKeep r_a6.out b7
  have r_x07 : Hid (W7.heap[W5.heap.size]? = some (.cells #[.int .i64 k, .int .i64 f, .int .i64 t, .int .i64 h.n, .string h.r, .int .i64 n, .slice ao_x L_x cap_x] 28 (0, 0))) := rowKeep r_x06.out b7
  have o_x7 : Hid (Own W7 (W4.heap.size) (W5.heap.size) 9 (.slice ao_x L_x cap_x) (ss x)) := Own.later o_x6.out b7 (by omega)
  have c_a7_0 : W7.cell? ⟨w.heap.size, 0, none⟩ = some (.int .i64 k) := row_at r_a7.out 0
  have c_a7_1 : W7.cell? ⟨w.heap.size, 1, none⟩ = some (.int .i64 f) := row_at r_a7.out 1
  have c_a7_2 : W7.cell? ⟨w.heap.size, 2, none⟩ = some (.int .i64 t) := row_at r_a7.out 2
  have c_a7_3 : W7.cell? ⟨w.heap.size, 3, none⟩ = some (.int .i64 h.n) := row_at r_a7.out 3
  have c_a7_4 : W7.cell? ⟨w.heap.size, 4, none⟩ = some (.string h.r) := row_at r_a7.out 4
  have c_a7_5 : W7.cell? ⟨w.heap.size, 5, none⟩ = some (.int .i64 n) := row_at r_a7.out 5
  have c_a7_6 : W7.cell? ⟨w.heap.size, 6, none⟩ = some (.slice ao0 x.length cap0) := row_at r_a7.out 6
  have c_x07_0 : W7.cell? ⟨W5.heap.size, 0, none⟩ = some (.int .i64 k) := row_at r_x07.out 0
  have c_x07_1 : W7.cell? ⟨W5.heap.size, 1, none⟩ = some (.int .i64 f) := row_at r_x07.out 1
  have c_x07_2 : W7.cell? ⟨W5.heap.size, 2, none⟩ = some (.int .i64 t) := row_at r_x07.out 2
  have c_x07_3 : W7.cell? ⟨W5.heap.size, 3, none⟩ = some (.int .i64 h.n) := row_at r_x07.out 3
  have c_x07_4 : W7.cell? ⟨W5.heap.size, 4, none⟩ = some (.string h.r) := row_at r_x07.out 4
  have c_x07_5 : W7.cell? ⟨W5.heap.size, 5, none⟩ = some (.int .i64 n) := row_at r_x07.out 5
  have c_x07_6 : W7.cell? ⟨W5.heap.size, 6, none⟩ = some (.slice ao_x L_x cap_x) := row_at r_x07.out 6
  clear r_a6 c_a6_0 c_a6_1 c_a6_2 c_a6_3 c_a6_4 c_a6_5 c_a6_6 r_x06 c_x06_0 c_x06_1 c_x06_2 c_x06_3 c_x06_4 c_x06_5 c_x06_6 o_x6
  have nM : (A != A) = false := by simp
  have nE : (A == A) = true := by simp
  go_wp2_with fail
  refine wp_region_held_drew (S := fun w' => w'.cell? ⟨W5.heap.size, 0, none⟩ = some (.int .i64 k) ∧ w'.cell? ⟨W5.heap.size, 1, none⟩ = some (.int .i64 f) ∧ w'.cell? ⟨W5.heap.size, 2, none⟩ = some (.int .i64 t) ∧ w'.cell? ⟨W5.heap.size, 3, none⟩ = some (.int .i64 h.n) ∧ w'.cell? ⟨W5.heap.size, 4, none⟩ = some (.string h.r) ∧ w'.cell? ⟨W5.heap.size, 5, none⟩ = some (.int .i64 n) ∧ w'.cell? ⟨W5.heap.size, 6, none⟩ = some (.slice ao_x L_x cap_x) ∧ w'.cell? ⟨w.heap.size, 0, none⟩ = some (.int .i64 k) ∧ w'.cell? ⟨w.heap.size, 1, none⟩ = some (.int .i64 f) ∧ w'.cell? ⟨w.heap.size, 2, none⟩ = some (.int .i64 t) ∧ w'.cell? ⟨w.heap.size, 3, none⟩ = some (.int .i64 h.n) ∧ w'.cell? ⟨w.heap.size, 4, none⟩ = some (.string h.r) ∧ w'.cell? ⟨w.heap.size, 5, none⟩ = some (.int .i64 n) ∧ w'.cell? ⟨w.heap.size, 6, none⟩ = some (.slice ao0 x.length cap0)) (by kernel_rfl) ⟨c_x07_0, c_x07_1, c_x07_2, c_x07_3, c_x07_4, c_x07_5, c_x07_6, c_a7_0, c_a7_1, c_a7_2, c_a7_3, c_a7_4, c_a7_5, c_a7_6⟩ (fun hHeld => ?_)
  (refine wpAnyH_take (i := 0) (v := ?v0x20) rfl (by kernel_rfl) (by kernel_rfl) (by kernel_rfl) (fun _ _ _ h => h) (Or.inl ⟨by rfl, ?hy0x20⟩) (by assumption) ?rest0x20; case hy0x20 => (intro w hSw; (try dsimp only at hSw); go_split_ands; go_simp; (try with_reducible rfl)))
  try simp only [Act.put, List.setIfInBounds_toArray, List.set_cons_zero, List.set_cons_succ, List.getElem_toArray, List.getElem_cons_zero, List.getElem_cons_succ]
  (refine wpAnyH_take (i := 1) (v := ?v1x21) rfl (by kernel_rfl) (by kernel_rfl) (by kernel_rfl) (fun _ _ _ h => h) (Or.inl ⟨by rfl, ?hy1x21⟩) (by assumption) ?rest1x21; case hy1x21 => (intro w hSw; (try dsimp only at hSw); go_split_ands; go_simp; (try with_reducible rfl)))
  try simp only [Act.put, List.setIfInBounds_toArray, List.set_cons_zero, List.set_cons_succ, List.getElem_toArray, List.getElem_cons_zero, List.getElem_cons_succ]
  refine wpAnyH_ready (rs := [2]) (by kernel_rfl) (by simp) ?_
  refine AllReadyH.cons rfl (fun K hK => ?_) AllReadyH.nil
  go_simp
  refine (to_msg W7.drew _ ⟨k, f, t, h, n, x⟩ (Sl.later (w := W7) (HS.out.later B7.out) (Below.drew (Below.refl _ _))) (by simp only; omega)).mono ?_
  rintro e W8 ⟨v_u, rfl, o_u8, b8⟩
  have b8 : Below W7.heap.size W7 W8 := (Below.drew (Below.refl _ _)).trans b8
  refine hK.out _ _ ⟨(keepR (W := W7) hHeld.1 b8), (keepR (W := W7) hHeld.2.1 b8), (keepR (W := W7) hHeld.2.2.1 b8), (keepR (W := W7) hHeld.2.2.2.1 b8), (keepR (W := W7) hHeld.2.2.2.2.1 b8), (keepR (W := W7) hHeld.2.2.2.2.2.1 b8), (keepR (W := W7) hHeld.2.2.2.2.2.2.1 b8), (keepR (W := W7) hHeld.2.2.2.2.2.2.2.1 b8), (keepR (W := W7) hHeld.2.2.2.2.2.2.2.2.1 b8), (keepR (W := W7) hHeld.2.2.2.2.2.2.2.2.2.1 b8), (keepR (W := W7) hHeld.2.2.2.2.2.2.2.2.2.2.1 b8), (keepR (W := W7) hHeld.2.2.2.2.2.2.2.2.2.2.2.1 b8), (keepR (W := W7) hHeld.2.2.2.2.2.2.2.2.2.2.2.2.1 b8), (keepR (W := W7) hHeld.2.2.2.2.2.2.2.2.2.2.2.2.2 b8)⟩ (fun hHeld => ?_)
  clear hK K
  try simp only [Act.put, List.setIfInBounds_toArray, List.set_cons_zero, List.set_cons_succ, List.getElem_toArray, List.getElem_cons_zero, List.getElem_cons_succ]
  have o_u8 : Own W8 W7.heap.size W8.heap.size 9 _ _ := o_u8
  obtain ⟨ao_u, L_u, cap_u, rfl, hL_u, hM_u⟩ := o_u8.form
  have o_u8 : Hid (Own W8 W7.heap.size W8.heap.size 9 (.slice ao_u L_u cap_u) (ss x)) := o_u8
  clear hL_u hM_u
  have z8 : W7.heap.size ≤ W8.heap.size := b8.size
  have B8 : Hid (Below w.heap.size w W8) := B7.out.trans (b8.mono B7.out.size)
  have r_a8 : Hid (W8.heap[w.heap.size]? = some (.cells #[.int .i64 k, .int .i64 f, .int .i64 t, .int .i64 h.n, .string h.r, .int .i64 n, .slice ao0 x.length cap0] 38 (0, 0))) := rowKeep r_a7.out b8
  have r_x08 : Hid (W8.heap[W5.heap.size]? = some (.cells #[.int .i64 k, .int .i64 f, .int .i64 t, .int .i64 h.n, .string h.r, .int .i64 n, .slice ao_x L_x cap_x] 28 (0, 0))) := rowKeep r_x07.out b8
  have o_x8 : Hid (Own W8 (W4.heap.size) (W5.heap.size) 9 (.slice ao_x L_x cap_x) (ss x)) := Own.later o_x7.out b8 (by omega)
  have c_a8_0 : W8.cell? ⟨w.heap.size, 0, none⟩ = some (.int .i64 k) := row_at r_a8.out 0
  have c_a8_1 : W8.cell? ⟨w.heap.size, 1, none⟩ = some (.int .i64 f) := row_at r_a8.out 1
  have c_a8_2 : W8.cell? ⟨w.heap.size, 2, none⟩ = some (.int .i64 t) := row_at r_a8.out 2
  have c_a8_3 : W8.cell? ⟨w.heap.size, 3, none⟩ = some (.int .i64 h.n) := row_at r_a8.out 3
  have c_a8_4 : W8.cell? ⟨w.heap.size, 4, none⟩ = some (.string h.r) := row_at r_a8.out 4
  have c_a8_5 : W8.cell? ⟨w.heap.size, 5, none⟩ = some (.int .i64 n) := row_at r_a8.out 5
  have c_a8_6 : W8.cell? ⟨w.heap.size, 6, none⟩ = some (.slice ao0 x.length cap0) := row_at r_a8.out 6
  have c_x08_0 : W8.cell? ⟨W5.heap.size, 0, none⟩ = some (.int .i64 k) := row_at r_x08.out 0
  have c_x08_1 : W8.cell? ⟨W5.heap.size, 1, none⟩ = some (.int .i64 f) := row_at r_x08.out 1
  have c_x08_2 : W8.cell? ⟨W5.heap.size, 2, none⟩ = some (.int .i64 t) := row_at r_x08.out 2
  have c_x08_3 : W8.cell? ⟨W5.heap.size, 3, none⟩ = some (.int .i64 h.n) := row_at r_x08.out 3
  have c_x08_4 : W8.cell? ⟨W5.heap.size, 4, none⟩ = some (.string h.r) := row_at r_x08.out 4
  have c_x08_5 : W8.cell? ⟨W5.heap.size, 5, none⟩ = some (.int .i64 n) := row_at r_x08.out 5
  have c_x08_6 : W8.cell? ⟨W5.heap.size, 6, none⟩ = some (.slice ao_x L_x cap_x) := row_at r_x08.out 6
  clear r_a7 c_a7_0 c_a7_1 c_a7_2 c_a7_3 c_a7_4 c_a7_5 c_a7_6 r_x07 c_x07_0 c_x07_1 c_x07_2 c_x07_3 c_x07_4 c_x07_5 c_x07_6 o_x7
  refine wpAnyH_ready (rs := [3]) (by kernel_rfl) (by simp) ?_
  refine AllReadyH.cons rfl (fun K hK => ?_) AllReadyH.nil
  go_simp
  refine (eq_msg W8 _ _ ⟨k, f, t, h, n, x⟩ o_x8.out.sl o_u8.out.sl (by simp only; omega)).mono ?_
  rintro e W9 ⟨rfl, b9⟩
  refine hK.out _ _ ⟨(keepR (W := W8) hHeld.1 b9), (keepR (W := W8) hHeld.2.1 b9), (keepR (W := W8) hHeld.2.2.1 b9), (keepR (W := W8) hHeld.2.2.2.1 b9), (keepR (W := W8) hHeld.2.2.2.2.1 b9), (keepR (W := W8) hHeld.2.2.2.2.2.1 b9), (keepR (W := W8) hHeld.2.2.2.2.2.2.1 b9), (keepR (W := W8) hHeld.2.2.2.2.2.2.2.1 b9), (keepR (W := W8) hHeld.2.2.2.2.2.2.2.2.1 b9), (keepR (W := W8) hHeld.2.2.2.2.2.2.2.2.2.1 b9), (keepR (W := W8) hHeld.2.2.2.2.2.2.2.2.2.2.1 b9), (keepR (W := W8) hHeld.2.2.2.2.2.2.2.2.2.2.2.1 b9), (keepR (W := W8) hHeld.2.2.2.2.2.2.2.2.2.2.2.2.1 b9), (keepR (W := W8) hHeld.2.2.2.2.2.2.2.2.2.2.2.2.2 b9)⟩ (fun hHeld => ?_)
  clear hK K
  try simp only [Act.put, List.setIfInBounds_toArray, List.set_cons_zero, List.set_cons_succ, List.getElem_toArray, List.getElem_cons_zero, List.getElem_cons_succ]
  have z9 : W8.heap.size ≤ W9.heap.size := b9.size
  have B9 : Hid (Below w.heap.size w W9) := B8.out.trans (b9.mono B8.out.size)
  have r_a9 : Hid (W9.heap[w.heap.size]? = some (.cells #[.int .i64 k, .int .i64 f, .int .i64 t, .int .i64 h.n, .string h.r, .int .i64 n, .slice ao0 x.length cap0] 38 (0, 0))) := rowKeep r_a8.out b9
  have r_x09 : Hid (W9.heap[W5.heap.size]? = some (.cells #[.int .i64 k, .int .i64 f, .int .i64 t, .int .i64 h.n, .string h.r, .int .i64 n, .slice ao_x L_x cap_x] 28 (0, 0))) := rowKeep r_x08.out b9
  have o_x9 : Hid (Own W9 (W4.heap.size) (W5.heap.size) 9 (.slice ao_x L_x cap_x) (ss x)) := Own.later o_x8.out b9 (by omega)
  have o_u9 : Hid (Own W9 (W7.heap.size) (W8.heap.size) 9 (.slice ao_u L_u cap_u) (ss x)) := Own.later o_u8.out b9 (by omega)
  have c_a9_0 : W9.cell? ⟨w.heap.size, 0, none⟩ = some (.int .i64 k) := row_at r_a9.out 0
  have c_a9_1 : W9.cell? ⟨w.heap.size, 1, none⟩ = some (.int .i64 f) := row_at r_a9.out 1
  have c_a9_2 : W9.cell? ⟨w.heap.size, 2, none⟩ = some (.int .i64 t) := row_at r_a9.out 2
  have c_a9_3 : W9.cell? ⟨w.heap.size, 3, none⟩ = some (.int .i64 h.n) := row_at r_a9.out 3
  have c_a9_4 : W9.cell? ⟨w.heap.size, 4, none⟩ = some (.string h.r) := row_at r_a9.out 4
  have c_a9_5 : W9.cell? ⟨w.heap.size, 5, none⟩ = some (.int .i64 n) := row_at r_a9.out 5
  have c_a9_6 : W9.cell? ⟨w.heap.size, 6, none⟩ = some (.slice ao0 x.length cap0) := row_at r_a9.out 6
  have c_x09_0 : W9.cell? ⟨W5.heap.size, 0, none⟩ = some (.int .i64 k) := row_at r_x09.out 0
  have c_x09_1 : W9.cell? ⟨W5.heap.size, 1, none⟩ = some (.int .i64 f) := row_at r_x09.out 1
  have c_x09_2 : W9.cell? ⟨W5.heap.size, 2, none⟩ = some (.int .i64 t) := row_at r_x09.out 2
  have c_x09_3 : W9.cell? ⟨W5.heap.size, 3, none⟩ = some (.int .i64 h.n) := row_at r_x09.out 3
  have c_x09_4 : W9.cell? ⟨W5.heap.size, 4, none⟩ = some (.string h.r) := row_at r_x09.out 4
  have c_x09_5 : W9.cell? ⟨W5.heap.size, 5, none⟩ = some (.int .i64 n) := row_at r_x09.out 5
  have c_x09_6 : W9.cell? ⟨W5.heap.size, 6, none⟩ = some (.slice ao_x L_x cap_x) := row_at r_x09.out 6
  clear r_a8 c_a8_0 c_a8_1 c_a8_2 c_a8_3 c_a8_4 c_a8_5 c_a8_6 r_x08 c_x08_0 c_x08_1 c_x08_2 c_x08_3 c_x08_4 c_x08_5 c_x08_6 o_x8 o_u8
  (refine wpAnyH_take (i := 4) (v := ?v4x22) rfl (by kernel_rfl) (by kernel_rfl) (by kernel_rfl) (fun _ _ _ h => h) (Or.inl ⟨by rfl, ?hy4x22⟩) (by assumption) ?rest4x22; case hy4x22 => (intro w hSw; (try dsimp only at hSw); go_split_ands; go_simp; (try with_reducible rfl)))
  try simp only [Act.put, List.setIfInBounds_toArray, List.set_cons_zero, List.set_cons_succ, List.getElem_toArray, List.getElem_cons_zero, List.getElem_cons_succ]
  refine wpAnyH_done (by kernel_rfl) ?_ _
  clear hHeld
  clear o_u9
  go_wp2
  go_ret
  exact ⟨rfl, B9.out⟩

set_option maxRecDepth 1000000 in
set_option maxHeartbeats 16000000 in
theorem exact_putmsg (w : World) (v : Value) (m : Ms) (hs : Sl w v (ss m.x)) (hz : ∀ s ∈ m.x, s.size ≤ maxLen) (hm : m.x.length ≤ maxLen) (hh : m.h.r.size ≤ maxLen)
    (iF : ∀ W v', Below w.heap.size w W → Sl W v' (ss m.x) → m.x.length ≤ 1048576 → (∀ s ∈ m.x, s.size ≤ 1048576) → Puts.tot m.x ≤ 1048576 → m.h.r.size ≤ 1048576 → Calls Try.prog 9 #[.agg #[.int .i64 m.k, .int .i64 m.f, .int .i64 m.t, .int .i64 m.h.n, .string m.h.r, .int .i64 m.n, v']] W fun e w' => ∃ u, e = .returned u ∧ Own w' W.heap.size w'.heap.size 5 u (bs (putM m)) ∧ Below W.heap.size W w') :
    Calls Try.prog 5 #[.agg #[.int .i64 m.k, .int .i64 m.f, .int .i64 m.t, .int .i64 m.h.n, .string m.h.r, .int .i64 m.n, v]] w fun e w' => e = .returned (.bool true) ∧ Below w.heap.size w w' := by
  obtain ⟨k, f, t, h, n, x⟩ := m
  simp only at *
  have HS : Hid (Sl w v (ss x)) := hs
  unfold maxLen at *
  obtain ⟨ao0, cap0, rfl, hc0⟩ := hs.form
  simp only [ss_len] at *
  clear hs
  have B0 : Hid (Below w.heap.size w w) := Below.refl _ _
  obtain ⟨W1, HW1, b1, y1, hS1, r_a1⟩ : ∃ X, Hid ((w.alloc (.cells #[.int .i64 k, .int .i64 f, .int .i64 t, .int .i64 h.n, .string h.r, .int .i64 n, .slice ao0 x.length cap0] 38)) = X) ∧ Below w.heap.size w X ∧ w.heap.size + 1 ≤ X.heap.size ∧ Hid (X.heap.size = w.heap.size + 1) ∧ Hid (X.heap[w.heap.size]? = some (.cells #[.int .i64 k, .int .i64 f, .int .i64 t, .int .i64 h.n, .string h.r, .int .i64 n, .slice ao0 x.length cap0] 38 (0, 0))) := ⟨_, rfl, ((Below.refl _ _).alloc (Nat.le_refl _) _), by simp, by show _ = _; simp, (by show _ = _; exact alloc_nth1_0 w _)⟩
  have z1 : w.heap.size ≤ W1.heap.size := b1.size
  have B1 : Hid (Below w.heap.size w W1) := B0.out.trans (b1.mono B0.out.size)
  have c_a1_0 : W1.cell? ⟨w.heap.size, 0, none⟩ = some (.int .i64 k) := row_at r_a1.out 0
  have c_a1_1 : W1.cell? ⟨w.heap.size, 1, none⟩ = some (.int .i64 f) := row_at r_a1.out 1
  have c_a1_2 : W1.cell? ⟨w.heap.size, 2, none⟩ = some (.int .i64 t) := row_at r_a1.out 2
  have c_a1_3 : W1.cell? ⟨w.heap.size, 3, none⟩ = some (.int .i64 h.n) := row_at r_a1.out 3
  have c_a1_4 : W1.cell? ⟨w.heap.size, 4, none⟩ = some (.string h.r) := row_at r_a1.out 4
  have c_a1_5 : W1.cell? ⟨w.heap.size, 5, none⟩ = some (.int .i64 n) := row_at r_a1.out 5
  have c_a1_6 : W1.cell? ⟨w.heap.size, 6, none⟩ = some (.slice ao0 x.length cap0) := row_at r_a1.out 6
  go_enter Try.func5, Try.ntmps5
  go_wp2_with fail
  rw [HW1.out]
  refine (sz_msg W1 _ ⟨k, f, t, h, n, x⟩ (HS.out.later B1.out) (fun s h => by have := hz s h; omega) (by simp only; omega) (by simp only; omega)).mono ?_
  rintro e W2 ⟨⟨r0, rfl, hr0⟩, b2⟩
  have z2 : W1.heap.size ≤ W2.heap.size := b2.size
  have B2 : Hid (Below w.heap.size w W2) := B1.out.trans (b2.mono B1.out.size)
  have r_a2 : Hid (W2.heap[w.heap.size]? = some (.cells #[.int .i64 k, .int .i64 f, .int .i64 t, .int .i64 h.n, .string h.r, .int .i64 n, .slice ao0 x.length cap0] 38 (0, 0))) := rowKeep r_a1.out b2
  have c_a2_0 : W2.cell? ⟨w.heap.size, 0, none⟩ = some (.int .i64 k) := row_at r_a2.out 0
  have c_a2_1 : W2.cell? ⟨w.heap.size, 1, none⟩ = some (.int .i64 f) := row_at r_a2.out 1
  have c_a2_2 : W2.cell? ⟨w.heap.size, 2, none⟩ = some (.int .i64 t) := row_at r_a2.out 2
  have c_a2_3 : W2.cell? ⟨w.heap.size, 3, none⟩ = some (.int .i64 h.n) := row_at r_a2.out 3
  have c_a2_4 : W2.cell? ⟨w.heap.size, 4, none⟩ = some (.string h.r) := row_at r_a2.out 4
  have c_a2_5 : W2.cell? ⟨w.heap.size, 5, none⟩ = some (.int .i64 n) := row_at r_a2.out 5
  have c_a2_6 : W2.cell? ⟨w.heap.size, 6, none⟩ = some (.slice ao0 x.length cap0) := row_at r_a2.out 6
  clear r_a1 c_a1_0 c_a1_1 c_a1_2 c_a1_3 c_a1_4 c_a1_5 c_a1_6
  by_cases hr : r0 < 0
  · go_wp2
    go_ret
    exact ⟨rfl, B2.out⟩
  simp only at hr0
  have hr1 : x.length + Puts.tot x ≤ 1048576 ∧ h.r.size ≤ 1048576 ∧ 0 ≤ r0 ∧ r0 ≤ 1048576 := by rcases hr0 with h0 | h0; exact absurd h0 hr; exact h0
  obtain ⟨hr1, hzh, hr2, hr3⟩ := hr1
  have hl : x.length ≤ 1048576 := by omega
  have HZ : Hid (∀ s ∈ x, s.size ≤ 1048576) := fun s h => Nat.le_trans (mem_tot13 h) (by omega)
  clear hz hr0 hm hh
  have q1 : ∀ W v1, Sl W v1 (ss x) → _ := fun W v1 h1 => putm_spec W v1 ⟨k, f, t, h, n, x⟩ h1 (by simp only; omega) (by simp only; omega) (by simp only; omega)
  have q2 : ∀ W v1, Below w.heap.size w W → Sl W v1 (ss x) → _ := fun W v1 hB h1 => iF W v1 hB h1 hl HZ.out (by omega) hzh
  have hPl := putM_len ⟨k, f, t, h, n, x⟩
  obtain ⟨P, hP⟩ : ∃ P, putM ⟨k, f, t, h, n, x⟩ = P := ⟨_, rfl⟩
  simp only [hP] at q1 q2 hPl
  have hPb : P.length ≤ 10000000 := by omega
  clear hP iF hPl
  go_wp2_with fail
  refine (to_msg W2 _ ⟨k, f, t, h, n, x⟩ (HS.out.later B2.out) (by simp only; omega)).mono ?_
  rintro e W3 ⟨v_t, rfl, o_t3, b3⟩
  obtain ⟨ao_t, L_t, cap_t, rfl, hL_t, hM_t⟩ := o_t3.form
  have o_t3 : Hid (Own W3 W2.heap.size W3.heap.size 9 (.slice ao_t L_t cap_t) (ss x)) := o_t3
  clear hL_t hM_t
  have z3 : W2.heap.size ≤ W3.heap.size := b3.size
  have B3 : Hid (Below w.heap.size w W3) := B2.out.trans (b3.mono B2.out.size)
  have r_a3 : Hid (W3.heap[w.heap.size]? = some (.cells #[.int .i64 k, .int .i64 f, .int .i64 t, .int .i64 h.n, .string h.r, .int .i64 n, .slice ao0 x.length cap0] 38 (0, 0))) := rowKeep r_a2.out b3
  have c_a3_0 : W3.cell? ⟨w.heap.size, 0, none⟩ = some (.int .i64 k) := row_at r_a3.out 0
  have c_a3_1 : W3.cell? ⟨w.heap.size, 1, none⟩ = some (.int .i64 f) := row_at r_a3.out 1
  have c_a3_2 : W3.cell? ⟨w.heap.size, 2, none⟩ = some (.int .i64 t) := row_at r_a3.out 2
  have c_a3_3 : W3.cell? ⟨w.heap.size, 3, none⟩ = some (.int .i64 h.n) := row_at r_a3.out 3
  have c_a3_4 : W3.cell? ⟨w.heap.size, 4, none⟩ = some (.string h.r) := row_at r_a3.out 4
  have c_a3_5 : W3.cell? ⟨w.heap.size, 5, none⟩ = some (.int .i64 n) := row_at r_a3.out 5
  have c_a3_6 : W3.cell? ⟨w.heap.size, 6, none⟩ = some (.slice ao0 x.length cap0) := row_at r_a3.out 6
  clear r_a2 c_a2_0 c_a2_1 c_a2_2 c_a2_3 c_a2_4 c_a2_5 c_a2_6
  go_wp2_with fail
  refine (q1 W3 _ o_t3.out.sl).mono ?_
  rintro e W4 ⟨v_m, rfl, o_m4, b4⟩
  obtain ⟨ao_m, L_m, cap_m, rfl, hL_m, hM_m⟩ := o_m4.form
  have o_m4 : Hid (Own W4 W3.heap.size W4.heap.size 5 (.slice ao_m L_m cap_m) (bs P)) := o_m4
  clear hL_m hM_m
  have z4 : W3.heap.size ≤ W4.heap.size := b4.size
  have B4 : Hid (Below w.heap.size w W4) := B3.out.trans (b4.mono B3.out.size)
  have r_a4 : Hid (W4.heap[w.heap.size]? = some (.cells #[.int .i64 k, .int .i64 f, .int .i64 t, .int .i64 h.n, .string h.r, .int .i64 n, .slice ao0 x.length cap0] 38 (0, 0))) := rowKeep r_a3.out b4
  have o_t4 : Hid (Own W4 (W2.heap.size) (W3.heap.size) 9 (.slice ao_t L_t cap_t) (ss x)) := Own.later o_t3.out b4 (by omega)
  have c_a4_0 : W4.cell? ⟨w.heap.size, 0, none⟩ = some (.int .i64 k) := row_at r_a4.out 0
  have c_a4_1 : W4.cell? ⟨w.heap.size, 1, none⟩ = some (.int .i64 f) := row_at r_a4.out 1
  have c_a4_2 : W4.cell? ⟨w.heap.size, 2, none⟩ = some (.int .i64 t) := row_at r_a4.out 2
  have c_a4_3 : W4.cell? ⟨w.heap.size, 3, none⟩ = some (.int .i64 h.n) := row_at r_a4.out 3
  have c_a4_4 : W4.cell? ⟨w.heap.size, 4, none⟩ = some (.string h.r) := row_at r_a4.out 4
  have c_a4_5 : W4.cell? ⟨w.heap.size, 5, none⟩ = some (.int .i64 n) := row_at r_a4.out 5
  have c_a4_6 : W4.cell? ⟨w.heap.size, 6, none⟩ = some (.slice ao0 x.length cap0) := row_at r_a4.out 6
  clear r_a3 c_a3_0 c_a3_1 c_a3_2 c_a3_3 c_a3_4 c_a3_5 c_a3_6 o_t3
  clear o_t4
  go_wp2_with fail
  refine (to_msg W4 _ ⟨k, f, t, h, n, x⟩ (HS.out.later B4.out) (by simp only; omega)).mono ?_
  rintro e W5 ⟨v_x, rfl, o_x5, b5⟩
  obtain ⟨ao_x, L_x, cap_x, rfl, hL_x, hM_x⟩ := o_x5.form
  have o_x5 : Hid (Own W5 W4.heap.size W5.heap.size 9 (.slice ao_x L_x cap_x) (ss x)) := o_x5
  clear hL_x hM_x
  have z5 : W4.heap.size ≤ W5.heap.size := b5.size
  have B5 : Hid (Below w.heap.size w W5) := B4.out.trans (b5.mono B4.out.size)
  have r_a5 : Hid (W5.heap[w.heap.size]? = some (.cells #[.int .i64 k, .int .i64 f, .int .i64 t, .int .i64 h.n, .string h.r, .int .i64 n, .slice ao0 x.length cap0] 38 (0, 0))) := rowKeep r_a4.out b5
  have o_m5 : Hid (Own W5 (W3.heap.size) (W4.heap.size) 5 (.slice ao_m L_m cap_m) (bs P)) := Own.later o_m4.out b5 (by omega)
  have c_a5_0 : W5.cell? ⟨w.heap.size, 0, none⟩ = some (.int .i64 k) := row_at r_a5.out 0
  have c_a5_1 : W5.cell? ⟨w.heap.size, 1, none⟩ = some (.int .i64 f) := row_at r_a5.out 1
  have c_a5_2 : W5.cell? ⟨w.heap.size, 2, none⟩ = some (.int .i64 t) := row_at r_a5.out 2
  have c_a5_3 : W5.cell? ⟨w.heap.size, 3, none⟩ = some (.int .i64 h.n) := row_at r_a5.out 3
  have c_a5_4 : W5.cell? ⟨w.heap.size, 4, none⟩ = some (.string h.r) := row_at r_a5.out 4
  have c_a5_5 : W5.cell? ⟨w.heap.size, 5, none⟩ = some (.int .i64 n) := row_at r_a5.out 5
  have c_a5_6 : W5.cell? ⟨w.heap.size, 6, none⟩ = some (.slice ao0 x.length cap0) := row_at r_a5.out 6
  clear r_a4 c_a4_0 c_a4_1 c_a4_2 c_a4_3 c_a4_4 c_a4_5 c_a4_6 o_m4
  have a_a5_0 : ∀ o, (W5.alloc o).cell? ⟨w.heap.size, 0, none⟩ = some (.int .i64 k) := fun o => keepR c_a5_0 ((Below.refl _ _).alloc (Nat.le_refl _) o)
  have a_a5_1 : ∀ o, (W5.alloc o).cell? ⟨w.heap.size, 1, none⟩ = some (.int .i64 f) := fun o => keepR c_a5_1 ((Below.refl _ _).alloc (Nat.le_refl _) o)
  have a_a5_2 : ∀ o, (W5.alloc o).cell? ⟨w.heap.size, 2, none⟩ = some (.int .i64 t) := fun o => keepR c_a5_2 ((Below.refl _ _).alloc (Nat.le_refl _) o)
  have a_a5_3 : ∀ o, (W5.alloc o).cell? ⟨w.heap.size, 3, none⟩ = some (.int .i64 h.n) := fun o => keepR c_a5_3 ((Below.refl _ _).alloc (Nat.le_refl _) o)
  have a_a5_4 : ∀ o, (W5.alloc o).cell? ⟨w.heap.size, 4, none⟩ = some (.string h.r) := fun o => keepR c_a5_4 ((Below.refl _ _).alloc (Nat.le_refl _) o)
  have a_a5_5 : ∀ o, (W5.alloc o).cell? ⟨w.heap.size, 5, none⟩ = some (.int .i64 n) := fun o => keepR c_a5_5 ((Below.refl _ _).alloc (Nat.le_refl _) o)
  have a_a5_6 : ∀ o, (W5.alloc o).cell? ⟨w.heap.size, 6, none⟩ = some (.slice ao0 x.length cap0) := fun o => keepR c_a5_6 ((Below.refl _ _).alloc (Nat.le_refl _) o)
  obtain ⟨W6, HW6, b6, y6, hS6, r_x06⟩ : ∃ X, Hid ((W5.alloc (.cells #[.int .i64 k, .int .i64 f, .int .i64 t, .int .i64 h.n, .string h.r, .int .i64 n, .slice ao_x L_x cap_x] 28)) = X) ∧ Below W5.heap.size W5 X ∧ W5.heap.size + 1 ≤ X.heap.size ∧ Hid (X.heap.size = W5.heap.size + 1) ∧ Hid (X.heap[W5.heap.size]? = some (.cells #[.int .i64 k, .int .i64 f, .int .i64 t, .int .i64 h.n, .string h.r, .int .i64 n, .slice ao_x L_x cap_x] 28 (0, 0))) := ⟨_, rfl, ((Below.refl _ _).alloc (Nat.le_refl _) _), by simp, by show _ = _; simp, (by show _ = _; exact alloc_nth1_0 W5 _)⟩
  have z6 : W5.heap.size ≤ W6.heap.size := b6.size
  have B6 : Hid (Below w.heap.size w W6) := B5.out.trans (b6.mono B5.out.size)
  have r_a6 : Hid (W6.heap[w.heap.size]? = some (.cells #[.int .i64 k, .int .i64 f, .int .i64 t, .int .i64 h.n, .string h.r, .int .i64 n, .slice ao0 x.length cap0] 38 (0, 0))) := rowKeep r_a5.out b6
  have o_m6 : Hid (Own W6 (W3.heap.size) (W4.heap.size) 5 (.slice ao_m L_m cap_m) (bs P)) := Own.later o_m5.out b6 (by omega)
  have o_x6 : Hid (Own W6 (W4.heap.size) (W5.heap.size) 9 (.slice ao_x L_x cap_x) (ss x)) := Own.later o_x5.out b6 (by omega)
  have c_a6_0 : W6.cell? ⟨w.heap.size, 0, none⟩ = some (.int .i64 k) := row_at r_a6.out 0
  have c_a6_1 : W6.cell? ⟨w.heap.size, 1, none⟩ = some (.int .i64 f) := row_at r_a6.out 1
  have c_a6_2 : W6.cell? ⟨w.heap.size, 2, none⟩ = some (.int .i64 t) := row_at r_a6.out 2
  have c_a6_3 : W6.cell? ⟨w.heap.size, 3, none⟩ = some (.int .i64 h.n) := row_at r_a6.out 3
  have c_a6_4 : W6.cell? ⟨w.heap.size, 4, none⟩ = some (.string h.r) := row_at r_a6.out 4
  have c_a6_5 : W6.cell? ⟨w.heap.size, 5, none⟩ = some (.int .i64 n) := row_at r_a6.out 5
  have c_a6_6 : W6.cell? ⟨w.heap.size, 6, none⟩ = some (.slice ao0 x.length cap0) := row_at r_a6.out 6
  have c_x06_0 : W6.cell? ⟨W5.heap.size, 0, none⟩ = some (.int .i64 k) := row_at r_x06.out 0
  have c_x06_1 : W6.cell? ⟨W5.heap.size, 1, none⟩ = some (.int .i64 f) := row_at r_x06.out 1
  have c_x06_2 : W6.cell? ⟨W5.heap.size, 2, none⟩ = some (.int .i64 t) := row_at r_x06.out 2
  have c_x06_3 : W6.cell? ⟨W5.heap.size, 3, none⟩ = some (.int .i64 h.n) := row_at r_x06.out 3
  have c_x06_4 : W6.cell? ⟨W5.heap.size, 4, none⟩ = some (.string h.r) := row_at r_x06.out 4
  have c_x06_5 : W6.cell? ⟨W5.heap.size, 5, none⟩ = some (.int .i64 n) := row_at r_x06.out 5
  have c_x06_6 : W6.cell? ⟨W5.heap.size, 6, none⟩ = some (.slice ao_x L_x cap_x) := row_at r_x06.out 6
  clear r_a5 c_a5_0 c_a5_1 c_a5_2 c_a5_3 c_a5_4 c_a5_5 c_a5_6 o_m5 o_x5
  go_wp2_with fail
  rw [HW6.out]
  clear a_a5_0 a_a5_1 a_a5_2 a_a5_3 a_a5_4 a_a5_5 a_a5_6
  refine (q2 W6 _ B6.out o_x6.out.sl).mono ?_
  rintro e W7 ⟨v_g, rfl, o_g7, b7⟩
  obtain ⟨ao_g, L_g, cap_g, rfl, hL_g, hM_g⟩ := o_g7.form
  have o_g7 : Hid (Own W7 W6.heap.size W7.heap.size 5 (.slice ao_g L_g cap_g) (bs P)) := o_g7
  clear hL_g hM_g
  have z7 : W6.heap.size ≤ W7.heap.size := b7.size
  have B7 : Hid (Below w.heap.size w W7) := B6.out.trans (b7.mono B6.out.size)
  have r_a7 : Hid (W7.heap[w.heap.size]? = some (.cells #[.int .i64 k, .int .i64 f, .int .i64 t, .int .i64 h.n, .string h.r, .int .i64 n, .slice ao0 x.length cap0] 38 (0, 0))) := rowKeep r_a6.out b7
  have r_x07 : Hid (W7.heap[W5.heap.size]? = some (.cells #[.int .i64 k, .int .i64 f, .int .i64 t, .int .i64 h.n, .string h.r, .int .i64 n, .slice ao_x L_x cap_x] 28 (0, 0))) := rowKeep r_x06.out b7
  have o_m7 : Hid (Own W7 (W3.heap.size) (W4.heap.size) 5 (.slice ao_m L_m cap_m) (bs P)) := Own.later o_m6.out b7 (by omega)
  have o_x7 : Hid (Own W7 (W4.heap.size) (W5.heap.size) 9 (.slice ao_x L_x cap_x) (ss x)) := Own.later o_x6.out b7 (by omega)
  have c_a7_0 : W7.cell? ⟨w.heap.size, 0, none⟩ = some (.int .i64 k) := row_at r_a7.out 0
  have c_a7_1 : W7.cell? ⟨w.heap.size, 1, none⟩ = some (.int .i64 f) := row_at r_a7.out 1
  have c_a7_2 : W7.cell? ⟨w.heap.size, 2, none⟩ = some (.int .i64 t) := row_at r_a7.out 2
  have c_a7_3 : W7.cell? ⟨w.heap.size, 3, none⟩ = some (.int .i64 h.n) := row_at r_a7.out 3
  have c_a7_4 : W7.cell? ⟨w.heap.size, 4, none⟩ = some (.string h.r) := row_at r_a7.out 4
  have c_a7_5 : W7.cell? ⟨w.heap.size, 5, none⟩ = some (.int .i64 n) := row_at r_a7.out 5
  have c_a7_6 : W7.cell? ⟨w.heap.size, 6, none⟩ = some (.slice ao0 x.length cap0) := row_at r_a7.out 6
  have c_x07_0 : W7.cell? ⟨W5.heap.size, 0, none⟩ = some (.int .i64 k) := row_at r_x07.out 0
  have c_x07_1 : W7.cell? ⟨W5.heap.size, 1, none⟩ = some (.int .i64 f) := row_at r_x07.out 1
  have c_x07_2 : W7.cell? ⟨W5.heap.size, 2, none⟩ = some (.int .i64 t) := row_at r_x07.out 2
  have c_x07_3 : W7.cell? ⟨W5.heap.size, 3, none⟩ = some (.int .i64 h.n) := row_at r_x07.out 3
  have c_x07_4 : W7.cell? ⟨W5.heap.size, 4, none⟩ = some (.string h.r) := row_at r_x07.out 4
  have c_x07_5 : W7.cell? ⟨W5.heap.size, 5, none⟩ = some (.int .i64 n) := row_at r_x07.out 5
  have c_x07_6 : W7.cell? ⟨W5.heap.size, 6, none⟩ = some (.slice ao_x L_x cap_x) := row_at r_x07.out 6
  clear r_a6 c_a6_0 c_a6_1 c_a6_2 c_a6_3 c_a6_4 c_a6_5 c_a6_6 r_x06 c_x06_0 c_x06_1 c_x06_2 c_x06_3 c_x06_4 c_x06_5 c_x06_6 o_m6 o_x6
  go_wp2_with fail
  refine (eq_true W7 _ _ P o_g7.out.sl o_m7.out.sl (by omega)).mono ?_
  rintro e W8 ⟨rfl, h8, _⟩
  have b8 : Below W7.heap.size W7 W8 := h8 _
  clear h8
  have z8 : W7.heap.size ≤ W8.heap.size := b8.size
  have B8 : Hid (Below w.heap.size w W8) := B7.out.trans (b8.mono B7.out.size)
  have r_a8 : Hid (W8.heap[w.heap.size]? = some (.cells #[.int .i64 k, .int .i64 f, .int .i64 t, .int .i64 h.n, .string h.r, .int .i64 n, .slice ao0 x.length cap0] 38 (0, 0))) := rowKeep r_a7.out b8
  have r_x08 : Hid (W8.heap[W5.heap.size]? = some (.cells #[.int .i64 k, .int .i64 f, .int .i64 t, .int .i64 h.n, .string h.r, .int .i64 n, .slice ao_x L_x cap_x] 28 (0, 0))) := rowKeep r_x07.out b8
  have o_m8 : Hid (Own W8 (W3.heap.size) (W4.heap.size) 5 (.slice ao_m L_m cap_m) (bs P)) := Own.later o_m7.out b8 (by omega)
  have o_x8 : Hid (Own W8 (W4.heap.size) (W5.heap.size) 9 (.slice ao_x L_x cap_x) (ss x)) := Own.later o_x7.out b8 (by omega)
  have o_g8 : Hid (Own W8 (W6.heap.size) (W7.heap.size) 5 (.slice ao_g L_g cap_g) (bs P)) := Own.later o_g7.out b8 (by omega)
  have c_a8_0 : W8.cell? ⟨w.heap.size, 0, none⟩ = some (.int .i64 k) := row_at r_a8.out 0
  have c_a8_1 : W8.cell? ⟨w.heap.size, 1, none⟩ = some (.int .i64 f) := row_at r_a8.out 1
  have c_a8_2 : W8.cell? ⟨w.heap.size, 2, none⟩ = some (.int .i64 t) := row_at r_a8.out 2
  have c_a8_3 : W8.cell? ⟨w.heap.size, 3, none⟩ = some (.int .i64 h.n) := row_at r_a8.out 3
  have c_a8_4 : W8.cell? ⟨w.heap.size, 4, none⟩ = some (.string h.r) := row_at r_a8.out 4
  have c_a8_5 : W8.cell? ⟨w.heap.size, 5, none⟩ = some (.int .i64 n) := row_at r_a8.out 5
  have c_a8_6 : W8.cell? ⟨w.heap.size, 6, none⟩ = some (.slice ao0 x.length cap0) := row_at r_a8.out 6
  have c_x08_0 : W8.cell? ⟨W5.heap.size, 0, none⟩ = some (.int .i64 k) := row_at r_x08.out 0
  have c_x08_1 : W8.cell? ⟨W5.heap.size, 1, none⟩ = some (.int .i64 f) := row_at r_x08.out 1
  have c_x08_2 : W8.cell? ⟨W5.heap.size, 2, none⟩ = some (.int .i64 t) := row_at r_x08.out 2
  have c_x08_3 : W8.cell? ⟨W5.heap.size, 3, none⟩ = some (.int .i64 h.n) := row_at r_x08.out 3
  have c_x08_4 : W8.cell? ⟨W5.heap.size, 4, none⟩ = some (.string h.r) := row_at r_x08.out 4
  have c_x08_5 : W8.cell? ⟨W5.heap.size, 5, none⟩ = some (.int .i64 n) := row_at r_x08.out 5
  have c_x08_6 : W8.cell? ⟨W5.heap.size, 6, none⟩ = some (.slice ao_x L_x cap_x) := row_at r_x08.out 6
  clear r_a7 c_a7_0 c_a7_1 c_a7_2 c_a7_3 c_a7_4 c_a7_5 c_a7_6 r_x07 c_x07_0 c_x07_1 c_x07_2 c_x07_3 c_x07_4 c_x07_5 c_x07_6 o_m7 o_x7 o_g7
  go_wp2_with fail
  refine wp_region_held_drew (S := fun w' => w'.cell? ⟨W5.heap.size, 0, none⟩ = some (.int .i64 k) ∧ w'.cell? ⟨W5.heap.size, 1, none⟩ = some (.int .i64 f) ∧ w'.cell? ⟨W5.heap.size, 2, none⟩ = some (.int .i64 t) ∧ w'.cell? ⟨W5.heap.size, 3, none⟩ = some (.int .i64 h.n) ∧ w'.cell? ⟨W5.heap.size, 4, none⟩ = some (.string h.r) ∧ w'.cell? ⟨W5.heap.size, 5, none⟩ = some (.int .i64 n) ∧ w'.cell? ⟨W5.heap.size, 6, none⟩ = some (.slice ao_x L_x cap_x) ∧ w'.cell? ⟨w.heap.size, 0, none⟩ = some (.int .i64 k) ∧ w'.cell? ⟨w.heap.size, 1, none⟩ = some (.int .i64 f) ∧ w'.cell? ⟨w.heap.size, 2, none⟩ = some (.int .i64 t) ∧ w'.cell? ⟨w.heap.size, 3, none⟩ = some (.int .i64 h.n) ∧ w'.cell? ⟨w.heap.size, 4, none⟩ = some (.string h.r) ∧ w'.cell? ⟨w.heap.size, 5, none⟩ = some (.int .i64 n) ∧ w'.cell? ⟨w.heap.size, 6, none⟩ = some (.slice ao0 x.length cap0)) (by kernel_rfl) ⟨c_x08_0, c_x08_1, c_x08_2, c_x08_3, c_x08_4, c_x08_5, c_x08_6, c_a8_0, c_a8_1, c_a8_2, c_a8_3, c_a8_4, c_a8_5, c_a8_6⟩ (fun hHeld => ?_)
  (refine wpAnyH_take (i := 0) (v := ?v0x23) rfl (by kernel_rfl) (by kernel_rfl) (by kernel_rfl) (fun _ _ _ h => h) (Or.inl ⟨by rfl, ?hy0x23⟩) (by assumption) ?rest0x23; case hy0x23 => (intro w hSw; (try dsimp only at hSw); go_split_ands; go_simp; (try with_reducible rfl)))
  try simp only [Act.put, List.setIfInBounds_toArray, List.set_cons_zero, List.set_cons_succ, List.getElem_toArray, List.getElem_cons_zero, List.getElem_cons_succ]
  (refine wpAnyH_take (i := 1) (v := ?v1x24) rfl (by kernel_rfl) (by kernel_rfl) (by kernel_rfl) (fun _ _ _ h => h) (Or.inl ⟨by rfl, ?hy1x24⟩) (by assumption) ?rest1x24; case hy1x24 => (intro w hSw; (try dsimp only at hSw); go_split_ands; go_simp; (try with_reducible rfl)))
  try simp only [Act.put, List.setIfInBounds_toArray, List.set_cons_zero, List.set_cons_succ, List.getElem_toArray, List.getElem_cons_zero, List.getElem_cons_succ]
  refine wpAnyH_ready (rs := [2]) (by kernel_rfl) (by simp) ?_
  refine AllReadyH.cons rfl (fun K hK => ?_) AllReadyH.nil
  go_simp
  refine (to_msg W8.drew _ ⟨k, f, t, h, n, x⟩ (Sl.later (w := W8) (HS.out.later B8.out) (Below.drew (Below.refl _ _))) (by simp only; omega)).mono ?_
  rintro e W9 ⟨v_u, rfl, o_u9, b9⟩
  have b9 : Below W8.heap.size W8 W9 := (Below.drew (Below.refl _ _)).trans b9
  refine hK.out _ _ ⟨(keepR (W := W8) hHeld.1 b9), (keepR (W := W8) hHeld.2.1 b9), (keepR (W := W8) hHeld.2.2.1 b9), (keepR (W := W8) hHeld.2.2.2.1 b9), (keepR (W := W8) hHeld.2.2.2.2.1 b9), (keepR (W := W8) hHeld.2.2.2.2.2.1 b9), (keepR (W := W8) hHeld.2.2.2.2.2.2.1 b9), (keepR (W := W8) hHeld.2.2.2.2.2.2.2.1 b9), (keepR (W := W8) hHeld.2.2.2.2.2.2.2.2.1 b9), (keepR (W := W8) hHeld.2.2.2.2.2.2.2.2.2.1 b9), (keepR (W := W8) hHeld.2.2.2.2.2.2.2.2.2.2.1 b9), (keepR (W := W8) hHeld.2.2.2.2.2.2.2.2.2.2.2.1 b9), (keepR (W := W8) hHeld.2.2.2.2.2.2.2.2.2.2.2.2.1 b9), (keepR (W := W8) hHeld.2.2.2.2.2.2.2.2.2.2.2.2.2 b9)⟩ (fun hHeld => ?_)
  clear hK K
  try simp only [Act.put, List.setIfInBounds_toArray, List.set_cons_zero, List.set_cons_succ, List.getElem_toArray, List.getElem_cons_zero, List.getElem_cons_succ]
  have o_u9 : Own W9 W8.heap.size W9.heap.size 9 _ _ := o_u9
  obtain ⟨ao_u, L_u, cap_u, rfl, hL_u, hM_u⟩ := o_u9.form
  have o_u9 : Hid (Own W9 W8.heap.size W9.heap.size 9 (.slice ao_u L_u cap_u) (ss x)) := o_u9
  clear hL_u hM_u
  have z9 : W8.heap.size ≤ W9.heap.size := b9.size
  have B9 : Hid (Below w.heap.size w W9) := B8.out.trans (b9.mono B8.out.size)
  have r_a9 : Hid (W9.heap[w.heap.size]? = some (.cells #[.int .i64 k, .int .i64 f, .int .i64 t, .int .i64 h.n, .string h.r, .int .i64 n, .slice ao0 x.length cap0] 38 (0, 0))) := rowKeep r_a8.out b9
  have r_x09 : Hid (W9.heap[W5.heap.size]? = some (.cells #[.int .i64 k, .int .i64 f, .int .i64 t, .int .i64 h.n, .string h.r, .int .i64 n, .slice ao_x L_x cap_x] 28 (0, 0))) := rowKeep r_x08.out b9
  have o_m9 : Hid (Own W9 (W3.heap.size) (W4.heap.size) 5 (.slice ao_m L_m cap_m) (bs P)) := Own.later o_m8.out b9 (by omega)
  have o_x9 : Hid (Own W9 (W4.heap.size) (W5.heap.size) 9 (.slice ao_x L_x cap_x) (ss x)) := Own.later o_x8.out b9 (by omega)
  have o_g9 : Hid (Own W9 (W6.heap.size) (W7.heap.size) 5 (.slice ao_g L_g cap_g) (bs P)) := Own.later o_g8.out b9 (by omega)
  have c_a9_0 : W9.cell? ⟨w.heap.size, 0, none⟩ = some (.int .i64 k) := row_at r_a9.out 0
  have c_a9_1 : W9.cell? ⟨w.heap.size, 1, none⟩ = some (.int .i64 f) := row_at r_a9.out 1
  have c_a9_2 : W9.cell? ⟨w.heap.size, 2, none⟩ = some (.int .i64 t) := row_at r_a9.out 2
  have c_a9_3 : W9.cell? ⟨w.heap.size, 3, none⟩ = some (.int .i64 h.n) := row_at r_a9.out 3
  have c_a9_4 : W9.cell? ⟨w.heap.size, 4, none⟩ = some (.string h.r) := row_at r_a9.out 4
  have c_a9_5 : W9.cell? ⟨w.heap.size, 5, none⟩ = some (.int .i64 n) := row_at r_a9.out 5
  have c_a9_6 : W9.cell? ⟨w.heap.size, 6, none⟩ = some (.slice ao0 x.length cap0) := row_at r_a9.out 6
  have c_x09_0 : W9.cell? ⟨W5.heap.size, 0, none⟩ = some (.int .i64 k) := row_at r_x09.out 0
  have c_x09_1 : W9.cell? ⟨W5.heap.size, 1, none⟩ = some (.int .i64 f) := row_at r_x09.out 1
  have c_x09_2 : W9.cell? ⟨W5.heap.size, 2, none⟩ = some (.int .i64 t) := row_at r_x09.out 2
  have c_x09_3 : W9.cell? ⟨W5.heap.size, 3, none⟩ = some (.int .i64 h.n) := row_at r_x09.out 3
  have c_x09_4 : W9.cell? ⟨W5.heap.size, 4, none⟩ = some (.string h.r) := row_at r_x09.out 4
  have c_x09_5 : W9.cell? ⟨W5.heap.size, 5, none⟩ = some (.int .i64 n) := row_at r_x09.out 5
  have c_x09_6 : W9.cell? ⟨W5.heap.size, 6, none⟩ = some (.slice ao_x L_x cap_x) := row_at r_x09.out 6
  clear r_a8 c_a8_0 c_a8_1 c_a8_2 c_a8_3 c_a8_4 c_a8_5 c_a8_6 r_x08 c_x08_0 c_x08_1 c_x08_2 c_x08_3 c_x08_4 c_x08_5 c_x08_6 o_m8 o_x8 o_g8
  refine wpAnyH_ready (rs := [3]) (by kernel_rfl) (by simp) ?_
  refine AllReadyH.cons rfl (fun K hK => ?_) AllReadyH.nil
  go_simp
  refine (eq_msg W9 _ _ ⟨k, f, t, h, n, x⟩ o_x9.out.sl o_u9.out.sl (by simp only; omega)).mono ?_
  rintro e W10 ⟨rfl, b10⟩
  refine hK.out _ _ ⟨(keepR (W := W9) hHeld.1 b10), (keepR (W := W9) hHeld.2.1 b10), (keepR (W := W9) hHeld.2.2.1 b10), (keepR (W := W9) hHeld.2.2.2.1 b10), (keepR (W := W9) hHeld.2.2.2.2.1 b10), (keepR (W := W9) hHeld.2.2.2.2.2.1 b10), (keepR (W := W9) hHeld.2.2.2.2.2.2.1 b10), (keepR (W := W9) hHeld.2.2.2.2.2.2.2.1 b10), (keepR (W := W9) hHeld.2.2.2.2.2.2.2.2.1 b10), (keepR (W := W9) hHeld.2.2.2.2.2.2.2.2.2.1 b10), (keepR (W := W9) hHeld.2.2.2.2.2.2.2.2.2.2.1 b10), (keepR (W := W9) hHeld.2.2.2.2.2.2.2.2.2.2.2.1 b10), (keepR (W := W9) hHeld.2.2.2.2.2.2.2.2.2.2.2.2.1 b10), (keepR (W := W9) hHeld.2.2.2.2.2.2.2.2.2.2.2.2.2 b10)⟩ (fun hHeld => ?_)
  clear hK K
  try simp only [Act.put, List.setIfInBounds_toArray, List.set_cons_zero, List.set_cons_succ, List.getElem_toArray, List.getElem_cons_zero, List.getElem_cons_succ]
  have z10 : W9.heap.size ≤ W10.heap.size := b10.size
  have B10 : Hid (Below w.heap.size w W10) := B9.out.trans (b10.mono B9.out.size)
  have r_a10 : Hid (W10.heap[w.heap.size]? = some (.cells #[.int .i64 k, .int .i64 f, .int .i64 t, .int .i64 h.n, .string h.r, .int .i64 n, .slice ao0 x.length cap0] 38 (0, 0))) := rowKeep r_a9.out b10
  have r_x010 : Hid (W10.heap[W5.heap.size]? = some (.cells #[.int .i64 k, .int .i64 f, .int .i64 t, .int .i64 h.n, .string h.r, .int .i64 n, .slice ao_x L_x cap_x] 28 (0, 0))) := rowKeep r_x09.out b10
  have o_m10 : Hid (Own W10 (W3.heap.size) (W4.heap.size) 5 (.slice ao_m L_m cap_m) (bs P)) := Own.later o_m9.out b10 (by omega)
  have o_x10 : Hid (Own W10 (W4.heap.size) (W5.heap.size) 9 (.slice ao_x L_x cap_x) (ss x)) := Own.later o_x9.out b10 (by omega)
  have o_g10 : Hid (Own W10 (W6.heap.size) (W7.heap.size) 5 (.slice ao_g L_g cap_g) (bs P)) := Own.later o_g9.out b10 (by omega)
  have o_u10 : Hid (Own W10 (W8.heap.size) (W9.heap.size) 9 (.slice ao_u L_u cap_u) (ss x)) := Own.later o_u9.out b10 (by omega)
  have c_a10_0 : W10.cell? ⟨w.heap.size, 0, none⟩ = some (.int .i64 k) := row_at r_a10.out 0
  have c_a10_1 : W10.cell? ⟨w.heap.size, 1, none⟩ = some (.int .i64 f) := row_at r_a10.out 1
  have c_a10_2 : W10.cell? ⟨w.heap.size, 2, none⟩ = some (.int .i64 t) := row_at r_a10.out 2
  have c_a10_3 : W10.cell? ⟨w.heap.size, 3, none⟩ = some (.int .i64 h.n) := row_at r_a10.out 3
  have c_a10_4 : W10.cell? ⟨w.heap.size, 4, none⟩ = some (.string h.r) := row_at r_a10.out 4
  have c_a10_5 : W10.cell? ⟨w.heap.size, 5, none⟩ = some (.int .i64 n) := row_at r_a10.out 5
  have c_a10_6 : W10.cell? ⟨w.heap.size, 6, none⟩ = some (.slice ao0 x.length cap0) := row_at r_a10.out 6
  have c_x010_0 : W10.cell? ⟨W5.heap.size, 0, none⟩ = some (.int .i64 k) := row_at r_x010.out 0
  have c_x010_1 : W10.cell? ⟨W5.heap.size, 1, none⟩ = some (.int .i64 f) := row_at r_x010.out 1
  have c_x010_2 : W10.cell? ⟨W5.heap.size, 2, none⟩ = some (.int .i64 t) := row_at r_x010.out 2
  have c_x010_3 : W10.cell? ⟨W5.heap.size, 3, none⟩ = some (.int .i64 h.n) := row_at r_x010.out 3
  have c_x010_4 : W10.cell? ⟨W5.heap.size, 4, none⟩ = some (.string h.r) := row_at r_x010.out 4
  have c_x010_5 : W10.cell? ⟨W5.heap.size, 5, none⟩ = some (.int .i64 n) := row_at r_x010.out 5
  have c_x010_6 : W10.cell? ⟨W5.heap.size, 6, none⟩ = some (.slice ao_x L_x cap_x) := row_at r_x010.out 6
  clear r_a9 c_a9_0 c_a9_1 c_a9_2 c_a9_3 c_a9_4 c_a9_5 c_a9_6 r_x09 c_x09_0 c_x09_1 c_x09_2 c_x09_3 c_x09_4 c_x09_5 c_x09_6 o_m9 o_x9 o_g9 o_u9
  (refine wpAnyH_take (i := 4) (v := ?v4x25) rfl (by kernel_rfl) (by kernel_rfl) (by kernel_rfl) (fun _ _ _ h => h) (Or.inl ⟨by rfl, ?hy4x25⟩) (by assumption) ?rest4x25; case hy4x25 => (intro w hSw; (try dsimp only at hSw); go_split_ands; go_simp; (try with_reducible rfl)))
  try simp only [Act.put, List.setIfInBounds_toArray, List.set_cons_zero, List.set_cons_succ, List.getElem_toArray, List.getElem_cons_zero, List.getElem_cons_succ]
  refine wpAnyH_done (by kernel_rfl) ?_ _
  clear hHeld
  clear o_u10
  have dk : ¬ ((1 + x.length : Nat) : Int) < 0 := by omega
  go_wp2_with fail
  refine (mark_msg W10 ⟨k, f, t, h, n, x⟩ _ (W4.heap.size) (W5.heap.size) x 1 o_x10.out (by omega) (by omega) (by omega) (by omega)).mono ?_
  rintro e W11 ⟨rfl, o_x11, p11⟩
  have o_x11 : Hid (Own W11 (W4.heap.size) (W5.heap.size) 9 (.slice ao_x L_x cap_x) (ss (Strs.mts 1 x.length))) := o_x11
  have z11 : W10.heap.size ≤ W11.heap.size := p11.size
  have B11 : Hid (Below w.heap.size w W11) := B10.out.trans (p11.below (by have := B10.out.size; omega) B10.out.size)
  have r_a11 : Hid (W11.heap[w.heap.size]? = some (.cells #[.int .i64 k, .int .i64 f, .int .i64 t, .int .i64 h.n, .string h.r, .int .i64 n, .slice ao0 x.length cap0] 38 (0, 0))) := (p11.block (w.heap.size) (by omega) (by omega)).trans r_a10.out
  have r_x011 : Hid (W11.heap[W5.heap.size]? = some (.cells #[.int .i64 k, .int .i64 f, .int .i64 t, .int .i64 h.n, .string h.r, .int .i64 n, .slice ao_x L_x cap_x] 28 (0, 0))) := (p11.block (W5.heap.size) (by omega) (by omega)).trans r_x010.out
  have o_m11 : Hid (Own W11 (W3.heap.size) (W4.heap.size) 5 (.slice ao_m L_m cap_m) (bs P)) := Own.apart o_m10.out p11 (by omega) (by omega)
  have o_g11 : Hid (Own W11 (W6.heap.size) (W7.heap.size) 5 (.slice ao_g L_g cap_g) (bs P)) := Own.apart o_g10.out p11 (by omega) (by omega)
  have c_a11_0 : W11.cell? ⟨w.heap.size, 0, none⟩ = some (.int .i64 k) := row_at r_a11.out 0
  have c_a11_1 : W11.cell? ⟨w.heap.size, 1, none⟩ = some (.int .i64 f) := row_at r_a11.out 1
  have c_a11_2 : W11.cell? ⟨w.heap.size, 2, none⟩ = some (.int .i64 t) := row_at r_a11.out 2
  have c_a11_3 : W11.cell? ⟨w.heap.size, 3, none⟩ = some (.int .i64 h.n) := row_at r_a11.out 3
  have c_a11_4 : W11.cell? ⟨w.heap.size, 4, none⟩ = some (.string h.r) := row_at r_a11.out 4
  have c_a11_5 : W11.cell? ⟨w.heap.size, 5, none⟩ = some (.int .i64 n) := row_at r_a11.out 5
  have c_a11_6 : W11.cell? ⟨w.heap.size, 6, none⟩ = some (.slice ao0 x.length cap0) := row_at r_a11.out 6
  have c_x011_0 : W11.cell? ⟨W5.heap.size, 0, none⟩ = some (.int .i64 k) := row_at r_x011.out 0
  have c_x011_1 : W11.cell? ⟨W5.heap.size, 1, none⟩ = some (.int .i64 f) := row_at r_x011.out 1
  have c_x011_2 : W11.cell? ⟨W5.heap.size, 2, none⟩ = some (.int .i64 t) := row_at r_x011.out 2
  have c_x011_3 : W11.cell? ⟨W5.heap.size, 3, none⟩ = some (.int .i64 h.n) := row_at r_x011.out 3
  have c_x011_4 : W11.cell? ⟨W5.heap.size, 4, none⟩ = some (.string h.r) := row_at r_x011.out 4
  have c_x011_5 : W11.cell? ⟨W5.heap.size, 5, none⟩ = some (.int .i64 n) := row_at r_x011.out 5
  have c_x011_6 : W11.cell? ⟨W5.heap.size, 6, none⟩ = some (.slice ao_x L_x cap_x) := row_at r_x011.out 6
  clear r_a10 c_a10_0 c_a10_1 c_a10_2 c_a10_3 c_a10_4 c_a10_5 c_a10_6 r_x010 c_x010_0 c_x010_1 c_x010_2 c_x010_3 c_x010_4 c_x010_5 c_x010_6 o_m10 o_x10 o_g10
  clear o_x11
  clear r_x011 c_x011_0 c_x011_1 c_x011_2 c_x011_3 c_x011_4 c_x011_5 c_x011_6
  go_wp2_with fail
  refine (eq_true W11 _ _ P o_g11.out.sl o_m11.out.sl (by omega)).mono ?_
  rintro e W12 ⟨rfl, h12, _⟩
  have b12 : Below W11.heap.size W11 W12 := h12 _
  clear h12
  have z12 : W11.heap.size ≤ W12.heap.size := b12.size
  have B12 : Hid (Below w.heap.size w W12) := B11.out.trans (b12.mono B11.out.size)
  have r_a12 : Hid (W12.heap[w.heap.size]? = some (.cells #[.int .i64 k, .int .i64 f, .int .i64 t, .int .i64 h.n, .string h.r, .int .i64 n, .slice ao0 x.length cap0] 38 (0, 0))) := rowKeep r_a11.out b12
  have o_m12 : Hid (Own W12 (W3.heap.size) (W4.heap.size) 5 (.slice ao_m L_m cap_m) (bs P)) := Own.later o_m11.out b12 (by omega)
  have o_g12 : Hid (Own W12 (W6.heap.size) (W7.heap.size) 5 (.slice ao_g L_g cap_g) (bs P)) := Own.later o_g11.out b12 (by omega)
  have c_a12_0 : W12.cell? ⟨w.heap.size, 0, none⟩ = some (.int .i64 k) := row_at r_a12.out 0
  have c_a12_1 : W12.cell? ⟨w.heap.size, 1, none⟩ = some (.int .i64 f) := row_at r_a12.out 1
  have c_a12_2 : W12.cell? ⟨w.heap.size, 2, none⟩ = some (.int .i64 t) := row_at r_a12.out 2
  have c_a12_3 : W12.cell? ⟨w.heap.size, 3, none⟩ = some (.int .i64 h.n) := row_at r_a12.out 3
  have c_a12_4 : W12.cell? ⟨w.heap.size, 4, none⟩ = some (.string h.r) := row_at r_a12.out 4
  have c_a12_5 : W12.cell? ⟨w.heap.size, 5, none⟩ = some (.int .i64 n) := row_at r_a12.out 5
  have c_a12_6 : W12.cell? ⟨w.heap.size, 6, none⟩ = some (.slice ao0 x.length cap0) := row_at r_a12.out 6
  clear r_a11 c_a11_0 c_a11_1 c_a11_2 c_a11_3 c_a11_4 c_a11_5 c_a11_6 o_m11 o_g11
  go_wp2_with fail
  refine (mark_bytes W12 _ (W6.heap.size) (W7.heap.size) P 1 o_g12.out (by omega) (by omega)).mono ?_
  rintro e W13 ⟨rfl, o_g13, p13⟩
  have o_g13 : Hid (Own W13 (W6.heap.size) (W7.heap.size) 5 (.slice ao_g L_g cap_g) (bs (marks 1 P.length))) := o_g13
  have z13 : W12.heap.size ≤ W13.heap.size := p13.size
  have B13 : Hid (Below w.heap.size w W13) := B12.out.trans (p13.below (by have := B12.out.size; omega) B12.out.size)
  have r_a13 : Hid (W13.heap[w.heap.size]? = some (.cells #[.int .i64 k, .int .i64 f, .int .i64 t, .int .i64 h.n, .string h.r, .int .i64 n, .slice ao0 x.length cap0] 38 (0, 0))) := (p13.block (w.heap.size) (by omega) (by omega)).trans r_a12.out
  have o_m13 : Hid (Own W13 (W3.heap.size) (W4.heap.size) 5 (.slice ao_m L_m cap_m) (bs P)) := Own.apart o_m12.out p13 (by omega) (by omega)
  have c_a13_0 : W13.cell? ⟨w.heap.size, 0, none⟩ = some (.int .i64 k) := row_at r_a13.out 0
  have c_a13_1 : W13.cell? ⟨w.heap.size, 1, none⟩ = some (.int .i64 f) := row_at r_a13.out 1
  have c_a13_2 : W13.cell? ⟨w.heap.size, 2, none⟩ = some (.int .i64 t) := row_at r_a13.out 2
  have c_a13_3 : W13.cell? ⟨w.heap.size, 3, none⟩ = some (.int .i64 h.n) := row_at r_a13.out 3
  have c_a13_4 : W13.cell? ⟨w.heap.size, 4, none⟩ = some (.string h.r) := row_at r_a13.out 4
  have c_a13_5 : W13.cell? ⟨w.heap.size, 5, none⟩ = some (.int .i64 n) := row_at r_a13.out 5
  have c_a13_6 : W13.cell? ⟨w.heap.size, 6, none⟩ = some (.slice ao0 x.length cap0) := row_at r_a13.out 6
  clear r_a12 c_a12_0 c_a12_1 c_a12_2 c_a12_3 c_a12_4 c_a12_5 c_a12_6 o_m12 o_g12
  have dk2 : ¬ ((1 + P.length : Nat) : Int) < 0 := by omega
  go_wp2_with fail
  refine (held_any W13 _ P.length 1 o_g13.out.sl (by omega) (by omega)).mono ?_
  rintro e W_ ⟨rfl, hW_⟩
  have hW_ := hW_.symm
  subst hW_
  go_wp2_with fail
  refine (to_msg W13 _ ⟨k, f, t, h, n, x⟩ (HS.out.later B13.out) (by simp only; omega)).mono ?_
  rintro e W14 ⟨v_y, rfl, o_y14, b14⟩
  obtain ⟨ao_y, L_y, cap_y, rfl, hL_y, hM_y⟩ := o_y14.form
  have o_y14 : Hid (Own W14 W13.heap.size W14.heap.size 9 (.slice ao_y L_y cap_y) (ss x)) := o_y14
  clear hL_y hM_y
  have z14 : W13.heap.size ≤ W14.heap.size := b14.size
  have B14 : Hid (Below w.heap.size w W14) := B13.out.trans (b14.mono B13.out.size)
  have r_a14 : Hid (W14.heap[w.heap.size]? = some (.cells #[.int .i64 k, .int .i64 f, .int .i64 t, .int .i64 h.n, .string h.r, .int .i64 n, .slice ao0 x.length cap0] 38 (0, 0))) := rowKeep r_a13.out b14
  have o_m14 : Hid (Own W14 (W3.heap.size) (W4.heap.size) 5 (.slice ao_m L_m cap_m) (bs P)) := Own.later o_m13.out b14 (by omega)
  have o_g14 : Hid (Own W14 (W6.heap.size) (W7.heap.size) 5 (.slice ao_g L_g cap_g) (bs (marks 1 P.length))) := Own.later o_g13.out b14 (by omega)
  have c_a14_0 : W14.cell? ⟨w.heap.size, 0, none⟩ = some (.int .i64 k) := row_at r_a14.out 0
  have c_a14_1 : W14.cell? ⟨w.heap.size, 1, none⟩ = some (.int .i64 f) := row_at r_a14.out 1
  have c_a14_2 : W14.cell? ⟨w.heap.size, 2, none⟩ = some (.int .i64 t) := row_at r_a14.out 2
  have c_a14_3 : W14.cell? ⟨w.heap.size, 3, none⟩ = some (.int .i64 h.n) := row_at r_a14.out 3
  have c_a14_4 : W14.cell? ⟨w.heap.size, 4, none⟩ = some (.string h.r) := row_at r_a14.out 4
  have c_a14_5 : W14.cell? ⟨w.heap.size, 5, none⟩ = some (.int .i64 n) := row_at r_a14.out 5
  have c_a14_6 : W14.cell? ⟨w.heap.size, 6, none⟩ = some (.slice ao0 x.length cap0) := row_at r_a14.out 6
  clear r_a13 c_a13_0 c_a13_1 c_a13_2 c_a13_3 c_a13_4 c_a13_5 c_a13_6 o_m13 o_g13
  go_wp2_with fail
  refine (q2 W14 _ B14.out o_y14.out.sl).mono ?_
  rintro e W15 ⟨v_h, rfl, o_h15, b15⟩
  obtain ⟨ao_h, L_h, cap_h, rfl, hL_h, hM_h⟩ := o_h15.form
  have o_h15 : Hid (Own W15 W14.heap.size W15.heap.size 5 (.slice ao_h L_h cap_h) (bs P)) := o_h15
  clear hL_h hM_h
  have z15 : W14.heap.size ≤ W15.heap.size := b15.size
  have B15 : Hid (Below w.heap.size w W15) := B14.out.trans (b15.mono B14.out.size)
  have r_a15 : Hid (W15.heap[w.heap.size]? = some (.cells #[.int .i64 k, .int .i64 f, .int .i64 t, .int .i64 h.n, .string h.r, .int .i64 n, .slice ao0 x.length cap0] 38 (0, 0))) := rowKeep r_a14.out b15
  have o_m15 : Hid (Own W15 (W3.heap.size) (W4.heap.size) 5 (.slice ao_m L_m cap_m) (bs P)) := Own.later o_m14.out b15 (by omega)
  have o_g15 : Hid (Own W15 (W6.heap.size) (W7.heap.size) 5 (.slice ao_g L_g cap_g) (bs (marks 1 P.length))) := Own.later o_g14.out b15 (by omega)
  have o_y15 : Hid (Own W15 (W13.heap.size) (W14.heap.size) 9 (.slice ao_y L_y cap_y) (ss x)) := Own.later o_y14.out b15 (by omega)
  have c_a15_0 : W15.cell? ⟨w.heap.size, 0, none⟩ = some (.int .i64 k) := row_at r_a15.out 0
  have c_a15_1 : W15.cell? ⟨w.heap.size, 1, none⟩ = some (.int .i64 f) := row_at r_a15.out 1
  have c_a15_2 : W15.cell? ⟨w.heap.size, 2, none⟩ = some (.int .i64 t) := row_at r_a15.out 2
  have c_a15_3 : W15.cell? ⟨w.heap.size, 3, none⟩ = some (.int .i64 h.n) := row_at r_a15.out 3
  have c_a15_4 : W15.cell? ⟨w.heap.size, 4, none⟩ = some (.string h.r) := row_at r_a15.out 4
  have c_a15_5 : W15.cell? ⟨w.heap.size, 5, none⟩ = some (.int .i64 n) := row_at r_a15.out 5
  have c_a15_6 : W15.cell? ⟨w.heap.size, 6, none⟩ = some (.slice ao0 x.length cap0) := row_at r_a15.out 6
  clear r_a14 c_a14_0 c_a14_1 c_a14_2 c_a14_3 c_a14_4 c_a14_5 c_a14_6 o_m14 o_g14 o_y14
  clear o_y15
  go_wp2_with fail
  refine (eq_true W15 _ _ P o_h15.out.sl o_m15.out.sl (by omega)).mono ?_
  rintro e W16 ⟨rfl, h16, _⟩
  have b16 : Below W15.heap.size W15 W16 := h16 _
  clear h16
  have z16 : W15.heap.size ≤ W16.heap.size := b16.size
  have B16 : Hid (Below w.heap.size w W16) := B15.out.trans (b16.mono B15.out.size)
  have r_a16 : Hid (W16.heap[w.heap.size]? = some (.cells #[.int .i64 k, .int .i64 f, .int .i64 t, .int .i64 h.n, .string h.r, .int .i64 n, .slice ao0 x.length cap0] 38 (0, 0))) := rowKeep r_a15.out b16
  have o_m16 : Hid (Own W16 (W3.heap.size) (W4.heap.size) 5 (.slice ao_m L_m cap_m) (bs P)) := Own.later o_m15.out b16 (by omega)
  have o_g16 : Hid (Own W16 (W6.heap.size) (W7.heap.size) 5 (.slice ao_g L_g cap_g) (bs (marks 1 P.length))) := Own.later o_g15.out b16 (by omega)
  have o_h16 : Hid (Own W16 (W14.heap.size) (W15.heap.size) 5 (.slice ao_h L_h cap_h) (bs P)) := Own.later o_h15.out b16 (by omega)
  have c_a16_0 : W16.cell? ⟨w.heap.size, 0, none⟩ = some (.int .i64 k) := row_at r_a16.out 0
  have c_a16_1 : W16.cell? ⟨w.heap.size, 1, none⟩ = some (.int .i64 f) := row_at r_a16.out 1
  have c_a16_2 : W16.cell? ⟨w.heap.size, 2, none⟩ = some (.int .i64 t) := row_at r_a16.out 2
  have c_a16_3 : W16.cell? ⟨w.heap.size, 3, none⟩ = some (.int .i64 h.n) := row_at r_a16.out 3
  have c_a16_4 : W16.cell? ⟨w.heap.size, 4, none⟩ = some (.string h.r) := row_at r_a16.out 4
  have c_a16_5 : W16.cell? ⟨w.heap.size, 5, none⟩ = some (.int .i64 n) := row_at r_a16.out 5
  have c_a16_6 : W16.cell? ⟨w.heap.size, 6, none⟩ = some (.slice ao0 x.length cap0) := row_at r_a16.out 6
  clear r_a15 c_a15_0 c_a15_1 c_a15_2 c_a15_3 c_a15_4 c_a15_5 c_a15_6 o_m15 o_g15 o_h15
  go_wp2_with fail
  refine (held_any W16 _ P.length 1 o_g16.out.sl (by omega) (by omega)).mono ?_
  rintro e W_ ⟨rfl, hW_⟩
  have hW_ := hW_.symm
  subst hW_
  go_wp2
  go_ret
  exact ⟨rfl, B16.out⟩

set_option maxRecDepth 1000000 in
set_option maxHeartbeats 16000000 in
theorem exact_getmsg (w : World) (vb : Value) (b : List Int) (hb : Sl w vb (bs b)) (hby : Byt b) (hmb : b.length ≤ maxLen)
    (iF : ∀ W v', Below w.heap.size w W → Sl W v' (bs b) → b.length ≤ 1048576 → Calls Try.prog 11 #[v'] W fun e w' => GotM b W e w') :
    Calls Try.prog 6 #[vb] w fun e w' => e = .returned (.bool true) ∧ Below w.heap.size w w' := by
  have HSB : Hid (Sl w vb (bs b)) := hb
  have HBY : Hid (Byt b) := hby
  unfold maxLen at *
  obtain ⟨ao1, cap1, rfl, hc1⟩ := hb.form
  simp only [bs_len] at *
  clear hb hby
  have B0 : Hid (Below w.heap.size w w) := Below.refl _ _
  by_cases hbig : 1048576 < b.length
  · have d1 : (1048576 : Int) < (b.length : Int) := by omega
    clear iF
    go_enter Try.func6, Try.ntmps6
    go_wp2
    go_ret
    exact ⟨rfl, Below.refl _ _⟩
  have d1 : ¬ (1048576 : Int) < (b.length : Int) := by omega
  have hbl : b.length ≤ 1048576 := by omega
  have q1 : ∀ W v1, Sl W v1 (bs b) → _ := fun W v1 h1 => getm_spec W v1 b h1 HBY.out (by omega)
  have q2 : ∀ W v1, Below w.heap.size w W → Sl W v1 (bs b) → _ := fun W v1 hB h1 => iF W v1 hB h1 hbl
  have hx2 := getM_len b
  obtain ⟨m, ok, hg⟩ : ∃ m ok, getM b = (m, ok) := ⟨_, _, rfl⟩
  unfold GotM at q1 q2
  simp only [hg] at q1 q2 hx2
  clear hg iF
  have np : (ok != ok) = false := by simp
  have nq : (ok == ok) = true := by simp
  obtain ⟨k, f, t, h, n, x⟩ := m
  simp only at q1 q2 hx2
  go_enter Try.func6, Try.ntmps6
  go_wp2_with fail
  refine (to_any w _ b (HSB.out.later B0.out) (by omega)).mono ?_
  rintro e W1 ⟨v_t, rfl, o_t1, b1⟩
  obtain ⟨ao_t, L_t, cap_t, rfl, hL_t, hM_t⟩ := o_t1.form
  have o_t1 : Hid (Own W1 w.heap.size W1.heap.size 5 (.slice ao_t L_t cap_t) (bs b)) := o_t1
  clear hL_t hM_t
  have z1 : w.heap.size ≤ W1.heap.size := b1.size
  have B1 : Hid (Below w.heap.size w W1) := B0.out.trans (b1.mono B0.out.size)
  go_wp2_with fail
  refine (q1 W1 _ o_t1.out.sl).mono ?_
  rintro e W2 ⟨v_m, rfl, o_m2, b2⟩
  obtain ⟨ao_m, L_m, cap_m, rfl, hL_m, hM_m⟩ := o_m2.form
  have o_m2 : Hid (Own W2 W1.heap.size W2.heap.size 9 (.slice ao_m L_m cap_m) (ss x)) := o_m2
  clear hL_m hM_m
  have z2 : W1.heap.size ≤ W2.heap.size := b2.size
  have B2 : Hid (Below w.heap.size w W2) := B1.out.trans (b2.mono B1.out.size)
  have o_t2 : Hid (Own W2 (w.heap.size) (W1.heap.size) 5 (.slice ao_t L_t cap_t) (bs b)) := Own.later o_t1.out b2 (by omega)
  clear o_t1
  clear o_t2
  obtain ⟨W3, HW3, b3, y3, hS3, r_w03⟩ : ∃ X, Hid ((W2.alloc (.cells #[.int .i64 k, .int .i64 f, .int .i64 t, .int .i64 h.n, .string h.r, .int .i64 n, .slice ao_m L_m cap_m] 28)) = X) ∧ Below W2.heap.size W2 X ∧ W2.heap.size + 1 ≤ X.heap.size ∧ Hid (X.heap.size = W2.heap.size + 1) ∧ Hid (X.heap[W2.heap.size]? = some (.cells #[.int .i64 k, .int .i64 f, .int .i64 t, .int .i64 h.n, .string h.r, .int .i64 n, .slice ao_m L_m cap_m] 28 (0, 0))) := ⟨_, rfl, ((Below.refl _ _).alloc (Nat.le_refl _) _), by simp, by show _ = _; simp, (by show _ = _; exact alloc_nth1_0 W2 _)⟩
  have z3 : W2.heap.size ≤ W3.heap.size := b3.size
  have B3 : Hid (Below w.heap.size w W3) := B2.out.trans (b3.mono B2.out.size)
  have o_m3 : Hid (Own W3 (W1.heap.size) (W2.heap.size) 9 (.slice ao_m L_m cap_m) (ss x)) := Own.later o_m2.out b3 (by omega)
  have c_w03_0 : W3.cell? ⟨W2.heap.size, 0, none⟩ = some (.int .i64 k) := row_at r_w03.out 0
  have c_w03_1 : W3.cell? ⟨W2.heap.size, 1, none⟩ = some (.int .i64 f) := row_at r_w03.out 1
  have c_w03_2 : W3.cell? ⟨W2.heap.size, 2, none⟩ = some (.int .i64 t) := row_at r_w03.out 2
  have c_w03_3 : W3.cell? ⟨W2.heap.size, 3, none⟩ = some (.int .i64 h.n) := row_at r_w03.out 3
  have c_w03_4 : W3.cell? ⟨W2.heap.size, 4, none⟩ = some (.string h.r) := row_at r_w03.out 4
  have c_w03_5 : W3.cell? ⟨W2.heap.size, 5, none⟩ = some (.int .i64 n) := row_at r_w03.out 5
  have c_w03_6 : W3.cell? ⟨W2.heap.size, 6, none⟩ = some (.slice ao_m L_m cap_m) := row_at r_w03.out 6
  clear o_m2
  go_wp2_with fail
  rw [HW3.out]
  refine (to_any W3 _ b (HSB.out.later B3.out) (by omega)).mono ?_
  rintro e W4 ⟨v_x, rfl, o_x4, b4⟩
  obtain ⟨ao_x, L_x, cap_x, rfl, hL_x, hM_x⟩ := o_x4.form
  have o_x4 : Hid (Own W4 W3.heap.size W4.heap.size 5 (.slice ao_x L_x cap_x) (bs b)) := o_x4
  clear hL_x hM_x
  have z4 : W3.heap.size ≤ W4.heap.size := b4.size
  have B4 : Hid (Below w.heap.size w W4) := B3.out.trans (b4.mono B3.out.size)
  have r_w04 : Hid (W4.heap[W2.heap.size]? = some (.cells #[.int .i64 k, .int .i64 f, .int .i64 t, .int .i64 h.n, .string h.r, .int .i64 n, .slice ao_m L_m cap_m] 28 (0, 0))) := rowKeep r_w03.out b4
  have o_m4 : Hid (Own W4 (W1.heap.size) (W2.heap.size) 9 (.slice ao_m L_m cap_m) (ss x)) := Own.later o_m3.out b4 (by omega)
  have c_w04_0 : W4.cell? ⟨W2.heap.size, 0, none⟩ = some (.int .i64 k) := row_at r_w04.out 0
  have c_w04_1 : W4.cell? ⟨W2.heap.size, 1, none⟩ = some (.int .i64 f) := row_at r_w04.out 1
  have c_w04_2 : W4.cell? ⟨W2.heap.size, 2, none⟩ = some (.int .i64 t) := row_at r_w04.out 2
  have c_w04_3 : W4.cell? ⟨W2.heap.size, 3, none⟩ = some (.int .i64 h.n) := row_at r_w04.out 3
  have c_w04_4 : W4.cell? ⟨W2.heap.size, 4, none⟩ = some (.string h.r) := row_at r_w04.out 4
  have c_w04_5 : W4.cell? ⟨W2.heap.size, 5, none⟩ = some (.int .i64 n) := row_at r_w04.out 5
  have c_w04_6 : W4.cell? ⟨W2.heap.size, 6, none⟩ = some (.slice ao_m L_m cap_m) := row_at r_w04.out 6
  clear r_w03 c_w03_0 c_w03_1 c_w03_2 c_w03_3 c_w03_4 c_w03_5 c_w03_6 o_m3
  go_wp2_with fail
  refine (q2 W4 _ B4.out o_x4.out.sl).mono ?_
  rintro e W5 ⟨v_g, rfl, o_g5, b5⟩
  obtain ⟨ao_g, L_g, cap_g, rfl, hL_g, hM_g⟩ := o_g5.form
  have o_g5 : Hid (Own W5 W4.heap.size W5.heap.size 9 (.slice ao_g L_g cap_g) (ss x)) := o_g5
  clear hL_g hM_g
  have z5 : W4.heap.size ≤ W5.heap.size := b5.size
  have B5 : Hid (Below w.heap.size w W5) := B4.out.trans (b5.mono B4.out.size)
  have r_w05 : Hid (W5.heap[W2.heap.size]? = some (.cells #[.int .i64 k, .int .i64 f, .int .i64 t, .int .i64 h.n, .string h.r, .int .i64 n, .slice ao_m L_m cap_m] 28 (0, 0))) := rowKeep r_w04.out b5
  have o_m5 : Hid (Own W5 (W1.heap.size) (W2.heap.size) 9 (.slice ao_m L_m cap_m) (ss x)) := Own.later o_m4.out b5 (by omega)
  have o_x5 : Hid (Own W5 (W3.heap.size) (W4.heap.size) 5 (.slice ao_x L_x cap_x) (bs b)) := Own.later o_x4.out b5 (by omega)
  have c_w05_0 : W5.cell? ⟨W2.heap.size, 0, none⟩ = some (.int .i64 k) := row_at r_w05.out 0
  have c_w05_1 : W5.cell? ⟨W2.heap.size, 1, none⟩ = some (.int .i64 f) := row_at r_w05.out 1
  have c_w05_2 : W5.cell? ⟨W2.heap.size, 2, none⟩ = some (.int .i64 t) := row_at r_w05.out 2
  have c_w05_3 : W5.cell? ⟨W2.heap.size, 3, none⟩ = some (.int .i64 h.n) := row_at r_w05.out 3
  have c_w05_4 : W5.cell? ⟨W2.heap.size, 4, none⟩ = some (.string h.r) := row_at r_w05.out 4
  have c_w05_5 : W5.cell? ⟨W2.heap.size, 5, none⟩ = some (.int .i64 n) := row_at r_w05.out 5
  have c_w05_6 : W5.cell? ⟨W2.heap.size, 6, none⟩ = some (.slice ao_m L_m cap_m) := row_at r_w05.out 6
  clear r_w04 c_w04_0 c_w04_1 c_w04_2 c_w04_3 c_w04_4 c_w04_5 c_w04_6 o_m4 o_x4
  have a_w05_0 : ∀ o, (W5.alloc o).cell? ⟨W2.heap.size, 0, none⟩ = some (.int .i64 k) := fun o => keepR c_w05_0 ((Below.refl _ _).alloc (Nat.le_refl _) o)
  have a_w05_1 : ∀ o, (W5.alloc o).cell? ⟨W2.heap.size, 1, none⟩ = some (.int .i64 f) := fun o => keepR c_w05_1 ((Below.refl _ _).alloc (Nat.le_refl _) o)
  have a_w05_2 : ∀ o, (W5.alloc o).cell? ⟨W2.heap.size, 2, none⟩ = some (.int .i64 t) := fun o => keepR c_w05_2 ((Below.refl _ _).alloc (Nat.le_refl _) o)
  have a_w05_3 : ∀ o, (W5.alloc o).cell? ⟨W2.heap.size, 3, none⟩ = some (.int .i64 h.n) := fun o => keepR c_w05_3 ((Below.refl _ _).alloc (Nat.le_refl _) o)
  have a_w05_4 : ∀ o, (W5.alloc o).cell? ⟨W2.heap.size, 4, none⟩ = some (.string h.r) := fun o => keepR c_w05_4 ((Below.refl _ _).alloc (Nat.le_refl _) o)
  have a_w05_5 : ∀ o, (W5.alloc o).cell? ⟨W2.heap.size, 5, none⟩ = some (.int .i64 n) := fun o => keepR c_w05_5 ((Below.refl _ _).alloc (Nat.le_refl _) o)
  have a_w05_6 : ∀ o, (W5.alloc o).cell? ⟨W2.heap.size, 6, none⟩ = some (.slice ao_m L_m cap_m) := fun o => keepR c_w05_6 ((Below.refl _ _).alloc (Nat.le_refl _) o)
  obtain ⟨W6, HW6, b6, y6, hS6, r_g06⟩ : ∃ X, Hid ((W5.alloc (.cells #[.int .i64 k, .int .i64 f, .int .i64 t, .int .i64 h.n, .string h.r, .int .i64 n, .slice ao_g L_g cap_g] 28)) = X) ∧ Below W5.heap.size W5 X ∧ W5.heap.size + 1 ≤ X.heap.size ∧ Hid (X.heap.size = W5.heap.size + 1) ∧ Hid (X.heap[W5.heap.size]? = some (.cells #[.int .i64 k, .int .i64 f, .int .i64 t, .int .i64 h.n, .string h.r, .int .i64 n, .slice ao_g L_g cap_g] 28 (0, 0))) := ⟨_, rfl, ((Below.refl _ _).alloc (Nat.le_refl _) _), by simp, by show _ = _; simp, (by show _ = _; exact alloc_nth1_0 W5 _)⟩
  have z6 : W5.heap.size ≤ W6.heap.size := b6.size
  have B6 : Hid (Below w.heap.size w W6) := B5.out.trans (b6.mono B5.out.size)
  have r_w06 : Hid (W6.heap[W2.heap.size]? = some (.cells #[.int .i64 k, .int .i64 f, .int .i64 t, .int .i64 h.n, .string h.r, .int .i64 n, .slice ao_m L_m cap_m] 28 (0, 0))) := rowKeep r_w05.out b6
  have o_m6 : Hid (Own W6 (W1.heap.size) (W2.heap.size) 9 (.slice ao_m L_m cap_m) (ss x)) := Own.later o_m5.out b6 (by omega)
  have o_x6 : Hid (Own W6 (W3.heap.size) (W4.heap.size) 5 (.slice ao_x L_x cap_x) (bs b)) := Own.later o_x5.out b6 (by omega)
  have o_g6 : Hid (Own W6 (W4.heap.size) (W5.heap.size) 9 (.slice ao_g L_g cap_g) (ss x)) := Own.later o_g5.out b6 (by omega)
  have c_w06_0 : W6.cell? ⟨W2.heap.size, 0, none⟩ = some (.int .i64 k) := row_at r_w06.out 0
  have c_w06_1 : W6.cell? ⟨W2.heap.size, 1, none⟩ = some (.int .i64 f) := row_at r_w06.out 1
  have c_w06_2 : W6.cell? ⟨W2.heap.size, 2, none⟩ = some (.int .i64 t) := row_at r_w06.out 2
  have c_w06_3 : W6.cell? ⟨W2.heap.size, 3, none⟩ = some (.int .i64 h.n) := row_at r_w06.out 3
  have c_w06_4 : W6.cell? ⟨W2.heap.size, 4, none⟩ = some (.string h.r) := row_at r_w06.out 4
  have c_w06_5 : W6.cell? ⟨W2.heap.size, 5, none⟩ = some (.int .i64 n) := row_at r_w06.out 5
  have c_w06_6 : W6.cell? ⟨W2.heap.size, 6, none⟩ = some (.slice ao_m L_m cap_m) := row_at r_w06.out 6
  have c_g06_0 : W6.cell? ⟨W5.heap.size, 0, none⟩ = some (.int .i64 k) := row_at r_g06.out 0
  have c_g06_1 : W6.cell? ⟨W5.heap.size, 1, none⟩ = some (.int .i64 f) := row_at r_g06.out 1
  have c_g06_2 : W6.cell? ⟨W5.heap.size, 2, none⟩ = some (.int .i64 t) := row_at r_g06.out 2
  have c_g06_3 : W6.cell? ⟨W5.heap.size, 3, none⟩ = some (.int .i64 h.n) := row_at r_g06.out 3
  have c_g06_4 : W6.cell? ⟨W5.heap.size, 4, none⟩ = some (.string h.r) := row_at r_g06.out 4
  have c_g06_5 : W6.cell? ⟨W5.heap.size, 5, none⟩ = some (.int .i64 n) := row_at r_g06.out 5
  have c_g06_6 : W6.cell? ⟨W5.heap.size, 6, none⟩ = some (.slice ao_g L_g cap_g) := row_at r_g06.out 6
  clear r_w05 c_w05_0 c_w05_1 c_w05_2 c_w05_3 c_w05_4 c_w05_5 c_w05_6 o_m5 o_x5 o_g5
  go_wp2_with fail
  rw [HW6.out]
  clear a_w05_0 a_w05_1 a_w05_2 a_w05_3 a_w05_4 a_w05_5 a_w05_6
  refine (eq_msg W6 _ _ ⟨k, f, t, h, n, x⟩ o_g6.out.sl o_m6.out.sl (by simp only; omega)).mono ?_
  rintro e W7 ⟨rfl, b7⟩
  have z7 : W6.heap.size ≤ W7.heap.size := b7.size
  have B7 : Hid (Below w.heap.size w W7) := B6.out.trans (b7.mono B6.out.size)
  have r_w07 : Hid (W7.heap[W2.heap.size]? = some (.cells #[.int .i64 k, .int .i64 f, .int .i64 t, .int .i64 h.n, .string h.r, .int .i64 n, .slice ao_m L_m cap_m] 28 (0, 0))) := rowKeep r_w06.out b7
  have r_g07 : Hid (W7.heap[W5.heap.size]? = some (.cells #[.int .i64 k, .int .i64 f, .int .i64 t, .int .i64 h.n, .string h.r, .int .i64 n, .slice ao_g L_g cap_g] 28 (0, 0))) := rowKeep r_g06.out b7
  have o_m7 : Hid (Own W7 (W1.heap.size) (W2.heap.size) 9 (.slice ao_m L_m cap_m) (ss x)) := Own.later o_m6.out b7 (by omega)
  have o_x7 : Hid (Own W7 (W3.heap.size) (W4.heap.size) 5 (.slice ao_x L_x cap_x) (bs b)) := Own.later o_x6.out b7 (by omega)
  have o_g7 : Hid (Own W7 (W4.heap.size) (W5.heap.size) 9 (.slice ao_g L_g cap_g) (ss x)) := Own.later o_g6.out b7 (by omega)
  have c_w07_0 : W7.cell? ⟨W2.heap.size, 0, none⟩ = some (.int .i64 k) := row_at r_w07.out 0
  have c_w07_1 : W7.cell? ⟨W2.heap.size, 1, none⟩ = some (.int .i64 f) := row_at r_w07.out 1
  have c_w07_2 : W7.cell? ⟨W2.heap.size, 2, none⟩ = some (.int .i64 t) := row_at r_w07.out 2
  have c_w07_3 : W7.cell? ⟨W2.heap.size, 3, none⟩ = some (.int .i64 h.n) := row_at r_w07.out 3
  have c_w07_4 : W7.cell? ⟨W2.heap.size, 4, none⟩ = some (.string h.r) := row_at r_w07.out 4
  have c_w07_5 : W7.cell? ⟨W2.heap.size, 5, none⟩ = some (.int .i64 n) := row_at r_w07.out 5
  have c_w07_6 : W7.cell? ⟨W2.heap.size, 6, none⟩ = some (.slice ao_m L_m cap_m) := row_at r_w07.out 6
  have c_g07_0 : W7.cell? ⟨W5.heap.size, 0, none⟩ = some (.int .i64 k) := row_at r_g07.out 0
  have c_g07_1 : W7.cell? ⟨W5.heap.size, 1, none⟩ = some (.int .i64 f) := row_at r_g07.out 1
  have c_g07_2 : W7.cell? ⟨W5.heap.size, 2, none⟩ = some (.int .i64 t) := row_at r_g07.out 2
  have c_g07_3 : W7.cell? ⟨W5.heap.size, 3, none⟩ = some (.int .i64 h.n) := row_at r_g07.out 3
  have c_g07_4 : W7.cell? ⟨W5.heap.size, 4, none⟩ = some (.string h.r) := row_at r_g07.out 4
  have c_g07_5 : W7.cell? ⟨W5.heap.size, 5, none⟩ = some (.int .i64 n) := row_at r_g07.out 5
  have c_g07_6 : W7.cell? ⟨W5.heap.size, 6, none⟩ = some (.slice ao_g L_g cap_g) := row_at r_g07.out 6
  clear r_w06 c_w06_0 c_w06_1 c_w06_2 c_w06_3 c_w06_4 c_w06_5 c_w06_6 r_g06 c_g06_0 c_g06_1 c_g06_2 c_g06_3 c_g06_4 c_g06_5 c_g06_6 o_m6 o_x6 o_g6
  go_wp2_with fail
  refine (to_any W7 _ b (HSB.out.later B7.out) (by omega)).mono ?_
  rintro e W8 ⟨v_u, rfl, o_u8, b8⟩
  obtain ⟨ao_u, L_u, cap_u, rfl, hL_u, hM_u⟩ := o_u8.form
  have o_u8 : Hid (Own W8 W7.heap.size W8.heap.size 5 (.slice ao_u L_u cap_u) (bs b)) := o_u8
  clear hL_u hM_u
  have z8 : W7.heap.size ≤ W8.heap.size := b8.size
  have B8 : Hid (Below w.heap.size w W8) := B7.out.trans (b8.mono B7.out.size)
  have r_w08 : Hid (W8.heap[W2.heap.size]? = some (.cells #[.int .i64 k, .int .i64 f, .int .i64 t, .int .i64 h.n, .string h.r, .int .i64 n, .slice ao_m L_m cap_m] 28 (0, 0))) := rowKeep r_w07.out b8
  have r_g08 : Hid (W8.heap[W5.heap.size]? = some (.cells #[.int .i64 k, .int .i64 f, .int .i64 t, .int .i64 h.n, .string h.r, .int .i64 n, .slice ao_g L_g cap_g] 28 (0, 0))) := rowKeep r_g07.out b8
  have o_m8 : Hid (Own W8 (W1.heap.size) (W2.heap.size) 9 (.slice ao_m L_m cap_m) (ss x)) := Own.later o_m7.out b8 (by omega)
  have o_x8 : Hid (Own W8 (W3.heap.size) (W4.heap.size) 5 (.slice ao_x L_x cap_x) (bs b)) := Own.later o_x7.out b8 (by omega)
  have o_g8 : Hid (Own W8 (W4.heap.size) (W5.heap.size) 9 (.slice ao_g L_g cap_g) (ss x)) := Own.later o_g7.out b8 (by omega)
  have c_w08_0 : W8.cell? ⟨W2.heap.size, 0, none⟩ = some (.int .i64 k) := row_at r_w08.out 0
  have c_w08_1 : W8.cell? ⟨W2.heap.size, 1, none⟩ = some (.int .i64 f) := row_at r_w08.out 1
  have c_w08_2 : W8.cell? ⟨W2.heap.size, 2, none⟩ = some (.int .i64 t) := row_at r_w08.out 2
  have c_w08_3 : W8.cell? ⟨W2.heap.size, 3, none⟩ = some (.int .i64 h.n) := row_at r_w08.out 3
  have c_w08_4 : W8.cell? ⟨W2.heap.size, 4, none⟩ = some (.string h.r) := row_at r_w08.out 4
  have c_w08_5 : W8.cell? ⟨W2.heap.size, 5, none⟩ = some (.int .i64 n) := row_at r_w08.out 5
  have c_w08_6 : W8.cell? ⟨W2.heap.size, 6, none⟩ = some (.slice ao_m L_m cap_m) := row_at r_w08.out 6
  have c_g08_0 : W8.cell? ⟨W5.heap.size, 0, none⟩ = some (.int .i64 k) := row_at r_g08.out 0
  have c_g08_1 : W8.cell? ⟨W5.heap.size, 1, none⟩ = some (.int .i64 f) := row_at r_g08.out 1
  have c_g08_2 : W8.cell? ⟨W5.heap.size, 2, none⟩ = some (.int .i64 t) := row_at r_g08.out 2
  have c_g08_3 : W8.cell? ⟨W5.heap.size, 3, none⟩ = some (.int .i64 h.n) := row_at r_g08.out 3
  have c_g08_4 : W8.cell? ⟨W5.heap.size, 4, none⟩ = some (.string h.r) := row_at r_g08.out 4
  have c_g08_5 : W8.cell? ⟨W5.heap.size, 5, none⟩ = some (.int .i64 n) := row_at r_g08.out 5
  have c_g08_6 : W8.cell? ⟨W5.heap.size, 6, none⟩ = some (.slice ao_g L_g cap_g) := row_at r_g08.out 6
  clear r_w07 c_w07_0 c_w07_1 c_w07_2 c_w07_3 c_w07_4 c_w07_5 c_w07_6 r_g07 c_g07_0 c_g07_1 c_g07_2 c_g07_3 c_g07_4 c_g07_5 c_g07_6 o_m7 o_x7 o_g7
  go_wp2_with fail
  refine (eq_true W8 _ _ b o_x8.out.sl o_u8.out.sl (by omega)).mono ?_
  rintro e W9 ⟨rfl, h9, _⟩
  have b9 : Below W8.heap.size W8 W9 := h9 _
  clear h9
  have z9 : W8.heap.size ≤ W9.heap.size := b9.size
  have B9 : Hid (Below w.heap.size w W9) := B8.out.trans (b9.mono B8.out.size)
  have r_w09 : Hid (W9.heap[W2.heap.size]? = some (.cells #[.int .i64 k, .int .i64 f, .int .i64 t, .int .i64 h.n, .string h.r, .int .i64 n, .slice ao_m L_m cap_m] 28 (0, 0))) := rowKeep r_w08.out b9
  have r_g09 : Hid (W9.heap[W5.heap.size]? = some (.cells #[.int .i64 k, .int .i64 f, .int .i64 t, .int .i64 h.n, .string h.r, .int .i64 n, .slice ao_g L_g cap_g] 28 (0, 0))) := rowKeep r_g08.out b9
  have o_m9 : Hid (Own W9 (W1.heap.size) (W2.heap.size) 9 (.slice ao_m L_m cap_m) (ss x)) := Own.later o_m8.out b9 (by omega)
  have o_x9 : Hid (Own W9 (W3.heap.size) (W4.heap.size) 5 (.slice ao_x L_x cap_x) (bs b)) := Own.later o_x8.out b9 (by omega)
  have o_g9 : Hid (Own W9 (W4.heap.size) (W5.heap.size) 9 (.slice ao_g L_g cap_g) (ss x)) := Own.later o_g8.out b9 (by omega)
  have o_u9 : Hid (Own W9 (W7.heap.size) (W8.heap.size) 5 (.slice ao_u L_u cap_u) (bs b)) := Own.later o_u8.out b9 (by omega)
  have c_w09_0 : W9.cell? ⟨W2.heap.size, 0, none⟩ = some (.int .i64 k) := row_at r_w09.out 0
  have c_w09_1 : W9.cell? ⟨W2.heap.size, 1, none⟩ = some (.int .i64 f) := row_at r_w09.out 1
  have c_w09_2 : W9.cell? ⟨W2.heap.size, 2, none⟩ = some (.int .i64 t) := row_at r_w09.out 2
  have c_w09_3 : W9.cell? ⟨W2.heap.size, 3, none⟩ = some (.int .i64 h.n) := row_at r_w09.out 3
  have c_w09_4 : W9.cell? ⟨W2.heap.size, 4, none⟩ = some (.string h.r) := row_at r_w09.out 4
  have c_w09_5 : W9.cell? ⟨W2.heap.size, 5, none⟩ = some (.int .i64 n) := row_at r_w09.out 5
  have c_w09_6 : W9.cell? ⟨W2.heap.size, 6, none⟩ = some (.slice ao_m L_m cap_m) := row_at r_w09.out 6
  have c_g09_0 : W9.cell? ⟨W5.heap.size, 0, none⟩ = some (.int .i64 k) := row_at r_g09.out 0
  have c_g09_1 : W9.cell? ⟨W5.heap.size, 1, none⟩ = some (.int .i64 f) := row_at r_g09.out 1
  have c_g09_2 : W9.cell? ⟨W5.heap.size, 2, none⟩ = some (.int .i64 t) := row_at r_g09.out 2
  have c_g09_3 : W9.cell? ⟨W5.heap.size, 3, none⟩ = some (.int .i64 h.n) := row_at r_g09.out 3
  have c_g09_4 : W9.cell? ⟨W5.heap.size, 4, none⟩ = some (.string h.r) := row_at r_g09.out 4
  have c_g09_5 : W9.cell? ⟨W5.heap.size, 5, none⟩ = some (.int .i64 n) := row_at r_g09.out 5
  have c_g09_6 : W9.cell? ⟨W5.heap.size, 6, none⟩ = some (.slice ao_g L_g cap_g) := row_at r_g09.out 6
  clear r_w08 c_w08_0 c_w08_1 c_w08_2 c_w08_3 c_w08_4 c_w08_5 c_w08_6 r_g08 c_g08_0 c_g08_1 c_g08_2 c_g08_3 c_g08_4 c_g08_5 c_g08_6 o_m8 o_x8 o_g8 o_u8
  clear o_u9
  have dk : ¬ ((1 + b.length : Nat) : Int) < 0 := by omega
  go_wp2_with fail
  refine (mark_bytes W9 _ (W3.heap.size) (W4.heap.size) b 1 o_x9.out (by omega) (by omega)).mono ?_
  rintro e W10 ⟨rfl, o_x10, p10⟩
  have o_x10 : Hid (Own W10 (W3.heap.size) (W4.heap.size) 5 (.slice ao_x L_x cap_x) (bs (marks 1 b.length))) := o_x10
  have z10 : W9.heap.size ≤ W10.heap.size := p10.size
  have B10 : Hid (Below w.heap.size w W10) := B9.out.trans (p10.below (by have := B9.out.size; omega) B9.out.size)
  have r_w010 : Hid (W10.heap[W2.heap.size]? = some (.cells #[.int .i64 k, .int .i64 f, .int .i64 t, .int .i64 h.n, .string h.r, .int .i64 n, .slice ao_m L_m cap_m] 28 (0, 0))) := (p10.block (W2.heap.size) (by omega) (by omega)).trans r_w09.out
  have r_g010 : Hid (W10.heap[W5.heap.size]? = some (.cells #[.int .i64 k, .int .i64 f, .int .i64 t, .int .i64 h.n, .string h.r, .int .i64 n, .slice ao_g L_g cap_g] 28 (0, 0))) := (p10.block (W5.heap.size) (by omega) (by omega)).trans r_g09.out
  have o_m10 : Hid (Own W10 (W1.heap.size) (W2.heap.size) 9 (.slice ao_m L_m cap_m) (ss x)) := Own.apart o_m9.out p10 (by omega) (by omega)
  have o_g10 : Hid (Own W10 (W4.heap.size) (W5.heap.size) 9 (.slice ao_g L_g cap_g) (ss x)) := Own.apart o_g9.out p10 (by omega) (by omega)
  have c_w010_0 : W10.cell? ⟨W2.heap.size, 0, none⟩ = some (.int .i64 k) := row_at r_w010.out 0
  have c_w010_1 : W10.cell? ⟨W2.heap.size, 1, none⟩ = some (.int .i64 f) := row_at r_w010.out 1
  have c_w010_2 : W10.cell? ⟨W2.heap.size, 2, none⟩ = some (.int .i64 t) := row_at r_w010.out 2
  have c_w010_3 : W10.cell? ⟨W2.heap.size, 3, none⟩ = some (.int .i64 h.n) := row_at r_w010.out 3
  have c_w010_4 : W10.cell? ⟨W2.heap.size, 4, none⟩ = some (.string h.r) := row_at r_w010.out 4
  have c_w010_5 : W10.cell? ⟨W2.heap.size, 5, none⟩ = some (.int .i64 n) := row_at r_w010.out 5
  have c_w010_6 : W10.cell? ⟨W2.heap.size, 6, none⟩ = some (.slice ao_m L_m cap_m) := row_at r_w010.out 6
  have c_g010_0 : W10.cell? ⟨W5.heap.size, 0, none⟩ = some (.int .i64 k) := row_at r_g010.out 0
  have c_g010_1 : W10.cell? ⟨W5.heap.size, 1, none⟩ = some (.int .i64 f) := row_at r_g010.out 1
  have c_g010_2 : W10.cell? ⟨W5.heap.size, 2, none⟩ = some (.int .i64 t) := row_at r_g010.out 2
  have c_g010_3 : W10.cell? ⟨W5.heap.size, 3, none⟩ = some (.int .i64 h.n) := row_at r_g010.out 3
  have c_g010_4 : W10.cell? ⟨W5.heap.size, 4, none⟩ = some (.string h.r) := row_at r_g010.out 4
  have c_g010_5 : W10.cell? ⟨W5.heap.size, 5, none⟩ = some (.int .i64 n) := row_at r_g010.out 5
  have c_g010_6 : W10.cell? ⟨W5.heap.size, 6, none⟩ = some (.slice ao_g L_g cap_g) := row_at r_g010.out 6
  clear r_w09 c_w09_0 c_w09_1 c_w09_2 c_w09_3 c_w09_4 c_w09_5 c_w09_6 r_g09 c_g09_0 c_g09_1 c_g09_2 c_g09_3 c_g09_4 c_g09_5 c_g09_6 o_m9 o_x9 o_g9
  clear o_x10
  go_wp2_with fail
  refine (eq_msg W10 _ _ ⟨k, f, t, h, n, x⟩ o_g10.out.sl o_m10.out.sl (by simp only; omega)).mono ?_
  rintro e W11 ⟨rfl, b11⟩
  have z11 : W10.heap.size ≤ W11.heap.size := b11.size
  have B11 : Hid (Below w.heap.size w W11) := B10.out.trans (b11.mono B10.out.size)
  have r_w011 : Hid (W11.heap[W2.heap.size]? = some (.cells #[.int .i64 k, .int .i64 f, .int .i64 t, .int .i64 h.n, .string h.r, .int .i64 n, .slice ao_m L_m cap_m] 28 (0, 0))) := rowKeep r_w010.out b11
  have r_g011 : Hid (W11.heap[W5.heap.size]? = some (.cells #[.int .i64 k, .int .i64 f, .int .i64 t, .int .i64 h.n, .string h.r, .int .i64 n, .slice ao_g L_g cap_g] 28 (0, 0))) := rowKeep r_g010.out b11
  have o_m11 : Hid (Own W11 (W1.heap.size) (W2.heap.size) 9 (.slice ao_m L_m cap_m) (ss x)) := Own.later o_m10.out b11 (by omega)
  have o_g11 : Hid (Own W11 (W4.heap.size) (W5.heap.size) 9 (.slice ao_g L_g cap_g) (ss x)) := Own.later o_g10.out b11 (by omega)
  have c_w011_0 : W11.cell? ⟨W2.heap.size, 0, none⟩ = some (.int .i64 k) := row_at r_w011.out 0
  have c_w011_1 : W11.cell? ⟨W2.heap.size, 1, none⟩ = some (.int .i64 f) := row_at r_w011.out 1
  have c_w011_2 : W11.cell? ⟨W2.heap.size, 2, none⟩ = some (.int .i64 t) := row_at r_w011.out 2
  have c_w011_3 : W11.cell? ⟨W2.heap.size, 3, none⟩ = some (.int .i64 h.n) := row_at r_w011.out 3
  have c_w011_4 : W11.cell? ⟨W2.heap.size, 4, none⟩ = some (.string h.r) := row_at r_w011.out 4
  have c_w011_5 : W11.cell? ⟨W2.heap.size, 5, none⟩ = some (.int .i64 n) := row_at r_w011.out 5
  have c_w011_6 : W11.cell? ⟨W2.heap.size, 6, none⟩ = some (.slice ao_m L_m cap_m) := row_at r_w011.out 6
  have c_g011_0 : W11.cell? ⟨W5.heap.size, 0, none⟩ = some (.int .i64 k) := row_at r_g011.out 0
  have c_g011_1 : W11.cell? ⟨W5.heap.size, 1, none⟩ = some (.int .i64 f) := row_at r_g011.out 1
  have c_g011_2 : W11.cell? ⟨W5.heap.size, 2, none⟩ = some (.int .i64 t) := row_at r_g011.out 2
  have c_g011_3 : W11.cell? ⟨W5.heap.size, 3, none⟩ = some (.int .i64 h.n) := row_at r_g011.out 3
  have c_g011_4 : W11.cell? ⟨W5.heap.size, 4, none⟩ = some (.string h.r) := row_at r_g011.out 4
  have c_g011_5 : W11.cell? ⟨W5.heap.size, 5, none⟩ = some (.int .i64 n) := row_at r_g011.out 5
  have c_g011_6 : W11.cell? ⟨W5.heap.size, 6, none⟩ = some (.slice ao_g L_g cap_g) := row_at r_g011.out 6
  clear r_w010 c_w010_0 c_w010_1 c_w010_2 c_w010_3 c_w010_4 c_w010_5 c_w010_6 r_g010 c_g010_0 c_g010_1 c_g010_2 c_g010_3 c_g010_4 c_g010_5 c_g010_6 o_m10 o_g10
  go_wp2_with fail
  refine (mark_msg W11 ⟨k, f, t, h, n, x⟩ _ (W4.heap.size) (W5.heap.size) x 1 o_g11.out (by omega) (by omega) (by omega) (by omega)).mono ?_
  rintro e W12 ⟨rfl, o_g12, p12⟩
  have o_g12 : Hid (Own W12 (W4.heap.size) (W5.heap.size) 9 (.slice ao_g L_g cap_g) (ss (Strs.mts 1 x.length))) := o_g12
  have z12 : W11.heap.size ≤ W12.heap.size := p12.size
  have B12 : Hid (Below w.heap.size w W12) := B11.out.trans (p12.below (by have := B11.out.size; omega) B11.out.size)
  have r_w012 : Hid (W12.heap[W2.heap.size]? = some (.cells #[.int .i64 k, .int .i64 f, .int .i64 t, .int .i64 h.n, .string h.r, .int .i64 n, .slice ao_m L_m cap_m] 28 (0, 0))) := (p12.block (W2.heap.size) (by omega) (by omega)).trans r_w011.out
  have r_g012 : Hid (W12.heap[W5.heap.size]? = some (.cells #[.int .i64 k, .int .i64 f, .int .i64 t, .int .i64 h.n, .string h.r, .int .i64 n, .slice ao_g L_g cap_g] 28 (0, 0))) := (p12.block (W5.heap.size) (by omega) (by omega)).trans r_g011.out
  have o_m12 : Hid (Own W12 (W1.heap.size) (W2.heap.size) 9 (.slice ao_m L_m cap_m) (ss x)) := Own.apart o_m11.out p12 (by omega) (by omega)
  have c_w012_0 : W12.cell? ⟨W2.heap.size, 0, none⟩ = some (.int .i64 k) := row_at r_w012.out 0
  have c_w012_1 : W12.cell? ⟨W2.heap.size, 1, none⟩ = some (.int .i64 f) := row_at r_w012.out 1
  have c_w012_2 : W12.cell? ⟨W2.heap.size, 2, none⟩ = some (.int .i64 t) := row_at r_w012.out 2
  have c_w012_3 : W12.cell? ⟨W2.heap.size, 3, none⟩ = some (.int .i64 h.n) := row_at r_w012.out 3
  have c_w012_4 : W12.cell? ⟨W2.heap.size, 4, none⟩ = some (.string h.r) := row_at r_w012.out 4
  have c_w012_5 : W12.cell? ⟨W2.heap.size, 5, none⟩ = some (.int .i64 n) := row_at r_w012.out 5
  have c_w012_6 : W12.cell? ⟨W2.heap.size, 6, none⟩ = some (.slice ao_m L_m cap_m) := row_at r_w012.out 6
  have c_g012_0 : W12.cell? ⟨W5.heap.size, 0, none⟩ = some (.int .i64 k) := row_at r_g012.out 0
  have c_g012_1 : W12.cell? ⟨W5.heap.size, 1, none⟩ = some (.int .i64 f) := row_at r_g012.out 1
  have c_g012_2 : W12.cell? ⟨W5.heap.size, 2, none⟩ = some (.int .i64 t) := row_at r_g012.out 2
  have c_g012_3 : W12.cell? ⟨W5.heap.size, 3, none⟩ = some (.int .i64 h.n) := row_at r_g012.out 3
  have c_g012_4 : W12.cell? ⟨W5.heap.size, 4, none⟩ = some (.string h.r) := row_at r_g012.out 4
  have c_g012_5 : W12.cell? ⟨W5.heap.size, 5, none⟩ = some (.int .i64 n) := row_at r_g012.out 5
  have c_g012_6 : W12.cell? ⟨W5.heap.size, 6, none⟩ = some (.slice ao_g L_g cap_g) := row_at r_g012.out 6
  clear r_w011 c_w011_0 c_w011_1 c_w011_2 c_w011_3 c_w011_4 c_w011_5 c_w011_6 r_g011 c_g011_0 c_g011_1 c_g011_2 c_g011_3 c_g011_4 c_g011_5 c_g011_6 o_m11 o_g11
  go_wp2_with fail
  refine (held_msg W12 ⟨k, f, t, h, n, x⟩ _ x.length 1 o_g12.out.sl (by omega) (by omega) (by omega)).mono ?_
  rintro e W13 ⟨rfl, b13⟩
  have z13 : W12.heap.size ≤ W13.heap.size := b13.size
  have B13 : Hid (Below w.heap.size w W13) := B12.out.trans (b13.mono B12.out.size)
  have r_w013 : Hid (W13.heap[W2.heap.size]? = some (.cells #[.int .i64 k, .int .i64 f, .int .i64 t, .int .i64 h.n, .string h.r, .int .i64 n, .slice ao_m L_m cap_m] 28 (0, 0))) := rowKeep r_w012.out b13
  have r_g013 : Hid (W13.heap[W5.heap.size]? = some (.cells #[.int .i64 k, .int .i64 f, .int .i64 t, .int .i64 h.n, .string h.r, .int .i64 n, .slice ao_g L_g cap_g] 28 (0, 0))) := rowKeep r_g012.out b13
  have o_m13 : Hid (Own W13 (W1.heap.size) (W2.heap.size) 9 (.slice ao_m L_m cap_m) (ss x)) := Own.later o_m12.out b13 (by omega)
  have o_g13 : Hid (Own W13 (W4.heap.size) (W5.heap.size) 9 (.slice ao_g L_g cap_g) (ss (Strs.mts 1 x.length))) := Own.later o_g12.out b13 (by omega)
  have c_w013_0 : W13.cell? ⟨W2.heap.size, 0, none⟩ = some (.int .i64 k) := row_at r_w013.out 0
  have c_w013_1 : W13.cell? ⟨W2.heap.size, 1, none⟩ = some (.int .i64 f) := row_at r_w013.out 1
  have c_w013_2 : W13.cell? ⟨W2.heap.size, 2, none⟩ = some (.int .i64 t) := row_at r_w013.out 2
  have c_w013_3 : W13.cell? ⟨W2.heap.size, 3, none⟩ = some (.int .i64 h.n) := row_at r_w013.out 3
  have c_w013_4 : W13.cell? ⟨W2.heap.size, 4, none⟩ = some (.string h.r) := row_at r_w013.out 4
  have c_w013_5 : W13.cell? ⟨W2.heap.size, 5, none⟩ = some (.int .i64 n) := row_at r_w013.out 5
  have c_w013_6 : W13.cell? ⟨W2.heap.size, 6, none⟩ = some (.slice ao_m L_m cap_m) := row_at r_w013.out 6
  have c_g013_0 : W13.cell? ⟨W5.heap.size, 0, none⟩ = some (.int .i64 k) := row_at r_g013.out 0
  have c_g013_1 : W13.cell? ⟨W5.heap.size, 1, none⟩ = some (.int .i64 f) := row_at r_g013.out 1
  have c_g013_2 : W13.cell? ⟨W5.heap.size, 2, none⟩ = some (.int .i64 t) := row_at r_g013.out 2
  have c_g013_3 : W13.cell? ⟨W5.heap.size, 3, none⟩ = some (.int .i64 h.n) := row_at r_g013.out 3
  have c_g013_4 : W13.cell? ⟨W5.heap.size, 4, none⟩ = some (.string h.r) := row_at r_g013.out 4
  have c_g013_5 : W13.cell? ⟨W5.heap.size, 5, none⟩ = some (.int .i64 n) := row_at r_g013.out 5
  have c_g013_6 : W13.cell? ⟨W5.heap.size, 6, none⟩ = some (.slice ao_g L_g cap_g) := row_at r_g013.out 6
  clear r_w012 c_w012_0 c_w012_1 c_w012_2 c_w012_3 c_w012_4 c_w012_5 c_w012_6 r_g012 c_g012_0 c_g012_1 c_g012_2 c_g012_3 c_g012_4 c_g012_5 c_g012_6 o_m12 o_g12
  go_wp2_with fail
  refine (to_any W13 _ b (HSB.out.later B13.out) (by omega)).mono ?_
  rintro e W14 ⟨v_y, rfl, o_y14, b14⟩
  obtain ⟨ao_y, L_y, cap_y, rfl, hL_y, hM_y⟩ := o_y14.form
  have o_y14 : Hid (Own W14 W13.heap.size W14.heap.size 5 (.slice ao_y L_y cap_y) (bs b)) := o_y14
  clear hL_y hM_y
  have z14 : W13.heap.size ≤ W14.heap.size := b14.size
  have B14 : Hid (Below w.heap.size w W14) := B13.out.trans (b14.mono B13.out.size)
  have r_w014 : Hid (W14.heap[W2.heap.size]? = some (.cells #[.int .i64 k, .int .i64 f, .int .i64 t, .int .i64 h.n, .string h.r, .int .i64 n, .slice ao_m L_m cap_m] 28 (0, 0))) := rowKeep r_w013.out b14
  have r_g014 : Hid (W14.heap[W5.heap.size]? = some (.cells #[.int .i64 k, .int .i64 f, .int .i64 t, .int .i64 h.n, .string h.r, .int .i64 n, .slice ao_g L_g cap_g] 28 (0, 0))) := rowKeep r_g013.out b14
  have o_m14 : Hid (Own W14 (W1.heap.size) (W2.heap.size) 9 (.slice ao_m L_m cap_m) (ss x)) := Own.later o_m13.out b14 (by omega)
  have o_g14 : Hid (Own W14 (W4.heap.size) (W5.heap.size) 9 (.slice ao_g L_g cap_g) (ss (Strs.mts 1 x.length))) := Own.later o_g13.out b14 (by omega)
  have c_w014_0 : W14.cell? ⟨W2.heap.size, 0, none⟩ = some (.int .i64 k) := row_at r_w014.out 0
  have c_w014_1 : W14.cell? ⟨W2.heap.size, 1, none⟩ = some (.int .i64 f) := row_at r_w014.out 1
  have c_w014_2 : W14.cell? ⟨W2.heap.size, 2, none⟩ = some (.int .i64 t) := row_at r_w014.out 2
  have c_w014_3 : W14.cell? ⟨W2.heap.size, 3, none⟩ = some (.int .i64 h.n) := row_at r_w014.out 3
  have c_w014_4 : W14.cell? ⟨W2.heap.size, 4, none⟩ = some (.string h.r) := row_at r_w014.out 4
  have c_w014_5 : W14.cell? ⟨W2.heap.size, 5, none⟩ = some (.int .i64 n) := row_at r_w014.out 5
  have c_w014_6 : W14.cell? ⟨W2.heap.size, 6, none⟩ = some (.slice ao_m L_m cap_m) := row_at r_w014.out 6
  have c_g014_0 : W14.cell? ⟨W5.heap.size, 0, none⟩ = some (.int .i64 k) := row_at r_g014.out 0
  have c_g014_1 : W14.cell? ⟨W5.heap.size, 1, none⟩ = some (.int .i64 f) := row_at r_g014.out 1
  have c_g014_2 : W14.cell? ⟨W5.heap.size, 2, none⟩ = some (.int .i64 t) := row_at r_g014.out 2
  have c_g014_3 : W14.cell? ⟨W5.heap.size, 3, none⟩ = some (.int .i64 h.n) := row_at r_g014.out 3
  have c_g014_4 : W14.cell? ⟨W5.heap.size, 4, none⟩ = some (.string h.r) := row_at r_g014.out 4
  have c_g014_5 : W14.cell? ⟨W5.heap.size, 5, none⟩ = some (.int .i64 n) := row_at r_g014.out 5
  have c_g014_6 : W14.cell? ⟨W5.heap.size, 6, none⟩ = some (.slice ao_g L_g cap_g) := row_at r_g014.out 6
  clear r_w013 c_w013_0 c_w013_1 c_w013_2 c_w013_3 c_w013_4 c_w013_5 c_w013_6 r_g013 c_g013_0 c_g013_1 c_g013_2 c_g013_3 c_g013_4 c_g013_5 c_g013_6 o_m13 o_g13
  go_wp2_with fail
  refine (q2 W14 _ B14.out o_y14.out.sl).mono ?_
  rintro e W15 ⟨v_h, rfl, o_h15, b15⟩
  obtain ⟨ao_h, L_h, cap_h, rfl, hL_h, hM_h⟩ := o_h15.form
  have o_h15 : Hid (Own W15 W14.heap.size W15.heap.size 9 (.slice ao_h L_h cap_h) (ss x)) := o_h15
  clear hL_h hM_h
  have z15 : W14.heap.size ≤ W15.heap.size := b15.size
  have B15 : Hid (Below w.heap.size w W15) := B14.out.trans (b15.mono B14.out.size)
  have r_w015 : Hid (W15.heap[W2.heap.size]? = some (.cells #[.int .i64 k, .int .i64 f, .int .i64 t, .int .i64 h.n, .string h.r, .int .i64 n, .slice ao_m L_m cap_m] 28 (0, 0))) := rowKeep r_w014.out b15
  have r_g015 : Hid (W15.heap[W5.heap.size]? = some (.cells #[.int .i64 k, .int .i64 f, .int .i64 t, .int .i64 h.n, .string h.r, .int .i64 n, .slice ao_g L_g cap_g] 28 (0, 0))) := rowKeep r_g014.out b15
  have o_m15 : Hid (Own W15 (W1.heap.size) (W2.heap.size) 9 (.slice ao_m L_m cap_m) (ss x)) := Own.later o_m14.out b15 (by omega)
  have o_g15 : Hid (Own W15 (W4.heap.size) (W5.heap.size) 9 (.slice ao_g L_g cap_g) (ss (Strs.mts 1 x.length))) := Own.later o_g14.out b15 (by omega)
  have o_y15 : Hid (Own W15 (W13.heap.size) (W14.heap.size) 5 (.slice ao_y L_y cap_y) (bs b)) := Own.later o_y14.out b15 (by omega)
  have c_w015_0 : W15.cell? ⟨W2.heap.size, 0, none⟩ = some (.int .i64 k) := row_at r_w015.out 0
  have c_w015_1 : W15.cell? ⟨W2.heap.size, 1, none⟩ = some (.int .i64 f) := row_at r_w015.out 1
  have c_w015_2 : W15.cell? ⟨W2.heap.size, 2, none⟩ = some (.int .i64 t) := row_at r_w015.out 2
  have c_w015_3 : W15.cell? ⟨W2.heap.size, 3, none⟩ = some (.int .i64 h.n) := row_at r_w015.out 3
  have c_w015_4 : W15.cell? ⟨W2.heap.size, 4, none⟩ = some (.string h.r) := row_at r_w015.out 4
  have c_w015_5 : W15.cell? ⟨W2.heap.size, 5, none⟩ = some (.int .i64 n) := row_at r_w015.out 5
  have c_w015_6 : W15.cell? ⟨W2.heap.size, 6, none⟩ = some (.slice ao_m L_m cap_m) := row_at r_w015.out 6
  have c_g015_0 : W15.cell? ⟨W5.heap.size, 0, none⟩ = some (.int .i64 k) := row_at r_g015.out 0
  have c_g015_1 : W15.cell? ⟨W5.heap.size, 1, none⟩ = some (.int .i64 f) := row_at r_g015.out 1
  have c_g015_2 : W15.cell? ⟨W5.heap.size, 2, none⟩ = some (.int .i64 t) := row_at r_g015.out 2
  have c_g015_3 : W15.cell? ⟨W5.heap.size, 3, none⟩ = some (.int .i64 h.n) := row_at r_g015.out 3
  have c_g015_4 : W15.cell? ⟨W5.heap.size, 4, none⟩ = some (.string h.r) := row_at r_g015.out 4
  have c_g015_5 : W15.cell? ⟨W5.heap.size, 5, none⟩ = some (.int .i64 n) := row_at r_g015.out 5
  have c_g015_6 : W15.cell? ⟨W5.heap.size, 6, none⟩ = some (.slice ao_g L_g cap_g) := row_at r_g015.out 6
  clear r_w014 c_w014_0 c_w014_1 c_w014_2 c_w014_3 c_w014_4 c_w014_5 c_w014_6 r_g014 c_g014_0 c_g014_1 c_g014_2 c_g014_3 c_g014_4 c_g014_5 c_g014_6 o_m14 o_g14 o_y14
  clear o_y15
  have a_w015_0 : ∀ o, (W15.alloc o).cell? ⟨W2.heap.size, 0, none⟩ = some (.int .i64 k) := fun o => keepR c_w015_0 ((Below.refl _ _).alloc (Nat.le_refl _) o)
  have a_w015_1 : ∀ o, (W15.alloc o).cell? ⟨W2.heap.size, 1, none⟩ = some (.int .i64 f) := fun o => keepR c_w015_1 ((Below.refl _ _).alloc (Nat.le_refl _) o)
  have a_w015_2 : ∀ o, (W15.alloc o).cell? ⟨W2.heap.size, 2, none⟩ = some (.int .i64 t) := fun o => keepR c_w015_2 ((Below.refl _ _).alloc (Nat.le_refl _) o)
  have a_w015_3 : ∀ o, (W15.alloc o).cell? ⟨W2.heap.size, 3, none⟩ = some (.int .i64 h.n) := fun o => keepR c_w015_3 ((Below.refl _ _).alloc (Nat.le_refl _) o)
  have a_w015_4 : ∀ o, (W15.alloc o).cell? ⟨W2.heap.size, 4, none⟩ = some (.string h.r) := fun o => keepR c_w015_4 ((Below.refl _ _).alloc (Nat.le_refl _) o)
  have a_w015_5 : ∀ o, (W15.alloc o).cell? ⟨W2.heap.size, 5, none⟩ = some (.int .i64 n) := fun o => keepR c_w015_5 ((Below.refl _ _).alloc (Nat.le_refl _) o)
  have a_w015_6 : ∀ o, (W15.alloc o).cell? ⟨W2.heap.size, 6, none⟩ = some (.slice ao_m L_m cap_m) := fun o => keepR c_w015_6 ((Below.refl _ _).alloc (Nat.le_refl _) o)
  have a_g015_0 : ∀ o, (W15.alloc o).cell? ⟨W5.heap.size, 0, none⟩ = some (.int .i64 k) := fun o => keepR c_g015_0 ((Below.refl _ _).alloc (Nat.le_refl _) o)
  have a_g015_1 : ∀ o, (W15.alloc o).cell? ⟨W5.heap.size, 1, none⟩ = some (.int .i64 f) := fun o => keepR c_g015_1 ((Below.refl _ _).alloc (Nat.le_refl _) o)
  have a_g015_2 : ∀ o, (W15.alloc o).cell? ⟨W5.heap.size, 2, none⟩ = some (.int .i64 t) := fun o => keepR c_g015_2 ((Below.refl _ _).alloc (Nat.le_refl _) o)
  have a_g015_3 : ∀ o, (W15.alloc o).cell? ⟨W5.heap.size, 3, none⟩ = some (.int .i64 h.n) := fun o => keepR c_g015_3 ((Below.refl _ _).alloc (Nat.le_refl _) o)
  have a_g015_4 : ∀ o, (W15.alloc o).cell? ⟨W5.heap.size, 4, none⟩ = some (.string h.r) := fun o => keepR c_g015_4 ((Below.refl _ _).alloc (Nat.le_refl _) o)
  have a_g015_5 : ∀ o, (W15.alloc o).cell? ⟨W5.heap.size, 5, none⟩ = some (.int .i64 n) := fun o => keepR c_g015_5 ((Below.refl _ _).alloc (Nat.le_refl _) o)
  have a_g015_6 : ∀ o, (W15.alloc o).cell? ⟨W5.heap.size, 6, none⟩ = some (.slice ao_g L_g cap_g) := fun o => keepR c_g015_6 ((Below.refl _ _).alloc (Nat.le_refl _) o)
  obtain ⟨W16, HW16, b16, y16, hS16, r_h016⟩ : ∃ X, Hid ((W15.alloc (.cells #[.int .i64 k, .int .i64 f, .int .i64 t, .int .i64 h.n, .string h.r, .int .i64 n, .slice ao_h L_h cap_h] 28)) = X) ∧ Below W15.heap.size W15 X ∧ W15.heap.size + 1 ≤ X.heap.size ∧ Hid (X.heap.size = W15.heap.size + 1) ∧ Hid (X.heap[W15.heap.size]? = some (.cells #[.int .i64 k, .int .i64 f, .int .i64 t, .int .i64 h.n, .string h.r, .int .i64 n, .slice ao_h L_h cap_h] 28 (0, 0))) := ⟨_, rfl, ((Below.refl _ _).alloc (Nat.le_refl _) _), by simp, by show _ = _; simp, (by show _ = _; exact alloc_nth1_0 W15 _)⟩
  have z16 : W15.heap.size ≤ W16.heap.size := b16.size
  have B16 : Hid (Below w.heap.size w W16) := B15.out.trans (b16.mono B15.out.size)
  have r_w016 : Hid (W16.heap[W2.heap.size]? = some (.cells #[.int .i64 k, .int .i64 f, .int .i64 t, .int .i64 h.n, .string h.r, .int .i64 n, .slice ao_m L_m cap_m] 28 (0, 0))) := rowKeep r_w015.out b16
  have r_g016 : Hid (W16.heap[W5.heap.size]? = some (.cells #[.int .i64 k, .int .i64 f, .int .i64 t, .int .i64 h.n, .string h.r, .int .i64 n, .slice ao_g L_g cap_g] 28 (0, 0))) := rowKeep r_g015.out b16
  have o_m16 : Hid (Own W16 (W1.heap.size) (W2.heap.size) 9 (.slice ao_m L_m cap_m) (ss x)) := Own.later o_m15.out b16 (by omega)
  have o_g16 : Hid (Own W16 (W4.heap.size) (W5.heap.size) 9 (.slice ao_g L_g cap_g) (ss (Strs.mts 1 x.length))) := Own.later o_g15.out b16 (by omega)
  have o_h16 : Hid (Own W16 (W14.heap.size) (W15.heap.size) 9 (.slice ao_h L_h cap_h) (ss x)) := Own.later o_h15.out b16 (by omega)
  have c_w016_0 : W16.cell? ⟨W2.heap.size, 0, none⟩ = some (.int .i64 k) := row_at r_w016.out 0
  have c_w016_1 : W16.cell? ⟨W2.heap.size, 1, none⟩ = some (.int .i64 f) := row_at r_w016.out 1
  have c_w016_2 : W16.cell? ⟨W2.heap.size, 2, none⟩ = some (.int .i64 t) := row_at r_w016.out 2
  have c_w016_3 : W16.cell? ⟨W2.heap.size, 3, none⟩ = some (.int .i64 h.n) := row_at r_w016.out 3
  have c_w016_4 : W16.cell? ⟨W2.heap.size, 4, none⟩ = some (.string h.r) := row_at r_w016.out 4
  have c_w016_5 : W16.cell? ⟨W2.heap.size, 5, none⟩ = some (.int .i64 n) := row_at r_w016.out 5
  have c_w016_6 : W16.cell? ⟨W2.heap.size, 6, none⟩ = some (.slice ao_m L_m cap_m) := row_at r_w016.out 6
  have c_g016_0 : W16.cell? ⟨W5.heap.size, 0, none⟩ = some (.int .i64 k) := row_at r_g016.out 0
  have c_g016_1 : W16.cell? ⟨W5.heap.size, 1, none⟩ = some (.int .i64 f) := row_at r_g016.out 1
  have c_g016_2 : W16.cell? ⟨W5.heap.size, 2, none⟩ = some (.int .i64 t) := row_at r_g016.out 2
  have c_g016_3 : W16.cell? ⟨W5.heap.size, 3, none⟩ = some (.int .i64 h.n) := row_at r_g016.out 3
  have c_g016_4 : W16.cell? ⟨W5.heap.size, 4, none⟩ = some (.string h.r) := row_at r_g016.out 4
  have c_g016_5 : W16.cell? ⟨W5.heap.size, 5, none⟩ = some (.int .i64 n) := row_at r_g016.out 5
  have c_g016_6 : W16.cell? ⟨W5.heap.size, 6, none⟩ = some (.slice ao_g L_g cap_g) := row_at r_g016.out 6
  have c_h016_0 : W16.cell? ⟨W15.heap.size, 0, none⟩ = some (.int .i64 k) := row_at r_h016.out 0
  have c_h016_1 : W16.cell? ⟨W15.heap.size, 1, none⟩ = some (.int .i64 f) := row_at r_h016.out 1
  have c_h016_2 : W16.cell? ⟨W15.heap.size, 2, none⟩ = some (.int .i64 t) := row_at r_h016.out 2
  have c_h016_3 : W16.cell? ⟨W15.heap.size, 3, none⟩ = some (.int .i64 h.n) := row_at r_h016.out 3
  have c_h016_4 : W16.cell? ⟨W15.heap.size, 4, none⟩ = some (.string h.r) := row_at r_h016.out 4
  have c_h016_5 : W16.cell? ⟨W15.heap.size, 5, none⟩ = some (.int .i64 n) := row_at r_h016.out 5
  have c_h016_6 : W16.cell? ⟨W15.heap.size, 6, none⟩ = some (.slice ao_h L_h cap_h) := row_at r_h016.out 6
  clear r_w015 c_w015_0 c_w015_1 c_w015_2 c_w015_3 c_w015_4 c_w015_5 c_w015_6 r_g015 c_g015_0 c_g015_1 c_g015_2 c_g015_3 c_g015_4 c_g015_5 c_g015_6 o_m15 o_g15 o_h15
  go_wp2_with fail
  rw [HW16.out]
  clear a_w015_0 a_w015_1 a_w015_2 a_w015_3 a_w015_4 a_w015_5 a_w015_6 a_g015_0 a_g015_1 a_g015_2 a_g015_3 a_g015_4 a_g015_5 a_g015_6
  refine (eq_msg W16 _ _ ⟨k, f, t, h, n, x⟩ o_h16.out.sl o_m16.out.sl (by simp only; omega)).mono ?_
  rintro e W17 ⟨rfl, b17⟩
  have z17 : W16.heap.size ≤ W17.heap.size := b17.size
  have B17 : Hid (Below w.heap.size w W17) := B16.out.trans (b17.mono B16.out.size)
  have r_w017 : Hid (W17.heap[W2.heap.size]? = some (.cells #[.int .i64 k, .int .i64 f, .int .i64 t, .int .i64 h.n, .string h.r, .int .i64 n, .slice ao_m L_m cap_m] 28 (0, 0))) := rowKeep r_w016.out b17
  have r_g017 : Hid (W17.heap[W5.heap.size]? = some (.cells #[.int .i64 k, .int .i64 f, .int .i64 t, .int .i64 h.n, .string h.r, .int .i64 n, .slice ao_g L_g cap_g] 28 (0, 0))) := rowKeep r_g016.out b17
  have r_h017 : Hid (W17.heap[W15.heap.size]? = some (.cells #[.int .i64 k, .int .i64 f, .int .i64 t, .int .i64 h.n, .string h.r, .int .i64 n, .slice ao_h L_h cap_h] 28 (0, 0))) := rowKeep r_h016.out b17
  have o_m17 : Hid (Own W17 (W1.heap.size) (W2.heap.size) 9 (.slice ao_m L_m cap_m) (ss x)) := Own.later o_m16.out b17 (by omega)
  have o_g17 : Hid (Own W17 (W4.heap.size) (W5.heap.size) 9 (.slice ao_g L_g cap_g) (ss (Strs.mts 1 x.length))) := Own.later o_g16.out b17 (by omega)
  have o_h17 : Hid (Own W17 (W14.heap.size) (W15.heap.size) 9 (.slice ao_h L_h cap_h) (ss x)) := Own.later o_h16.out b17 (by omega)
  have c_w017_0 : W17.cell? ⟨W2.heap.size, 0, none⟩ = some (.int .i64 k) := row_at r_w017.out 0
  have c_w017_1 : W17.cell? ⟨W2.heap.size, 1, none⟩ = some (.int .i64 f) := row_at r_w017.out 1
  have c_w017_2 : W17.cell? ⟨W2.heap.size, 2, none⟩ = some (.int .i64 t) := row_at r_w017.out 2
  have c_w017_3 : W17.cell? ⟨W2.heap.size, 3, none⟩ = some (.int .i64 h.n) := row_at r_w017.out 3
  have c_w017_4 : W17.cell? ⟨W2.heap.size, 4, none⟩ = some (.string h.r) := row_at r_w017.out 4
  have c_w017_5 : W17.cell? ⟨W2.heap.size, 5, none⟩ = some (.int .i64 n) := row_at r_w017.out 5
  have c_w017_6 : W17.cell? ⟨W2.heap.size, 6, none⟩ = some (.slice ao_m L_m cap_m) := row_at r_w017.out 6
  have c_g017_0 : W17.cell? ⟨W5.heap.size, 0, none⟩ = some (.int .i64 k) := row_at r_g017.out 0
  have c_g017_1 : W17.cell? ⟨W5.heap.size, 1, none⟩ = some (.int .i64 f) := row_at r_g017.out 1
  have c_g017_2 : W17.cell? ⟨W5.heap.size, 2, none⟩ = some (.int .i64 t) := row_at r_g017.out 2
  have c_g017_3 : W17.cell? ⟨W5.heap.size, 3, none⟩ = some (.int .i64 h.n) := row_at r_g017.out 3
  have c_g017_4 : W17.cell? ⟨W5.heap.size, 4, none⟩ = some (.string h.r) := row_at r_g017.out 4
  have c_g017_5 : W17.cell? ⟨W5.heap.size, 5, none⟩ = some (.int .i64 n) := row_at r_g017.out 5
  have c_g017_6 : W17.cell? ⟨W5.heap.size, 6, none⟩ = some (.slice ao_g L_g cap_g) := row_at r_g017.out 6
  have c_h017_0 : W17.cell? ⟨W15.heap.size, 0, none⟩ = some (.int .i64 k) := row_at r_h017.out 0
  have c_h017_1 : W17.cell? ⟨W15.heap.size, 1, none⟩ = some (.int .i64 f) := row_at r_h017.out 1
  have c_h017_2 : W17.cell? ⟨W15.heap.size, 2, none⟩ = some (.int .i64 t) := row_at r_h017.out 2
  have c_h017_3 : W17.cell? ⟨W15.heap.size, 3, none⟩ = some (.int .i64 h.n) := row_at r_h017.out 3
  have c_h017_4 : W17.cell? ⟨W15.heap.size, 4, none⟩ = some (.string h.r) := row_at r_h017.out 4
  have c_h017_5 : W17.cell? ⟨W15.heap.size, 5, none⟩ = some (.int .i64 n) := row_at r_h017.out 5
  have c_h017_6 : W17.cell? ⟨W15.heap.size, 6, none⟩ = some (.slice ao_h L_h cap_h) := row_at r_h017.out 6
  clear r_w016 c_w016_0 c_w016_1 c_w016_2 c_w016_3 c_w016_4 c_w016_5 c_w016_6 r_g016 c_g016_0 c_g016_1 c_g016_2 c_g016_3 c_g016_4 c_g016_5 c_g016_6 r_h016 c_h016_0 c_h016_1 c_h016_2 c_h016_3 c_h016_4 c_h016_5 c_h016_6 o_m16 o_g16 o_h16
  go_wp2_with fail
  refine (held_msg W17 ⟨k, f, t, h, n, x⟩ _ x.length 1 o_g17.out.sl (by omega) (by omega) (by omega)).mono ?_
  rintro e W18 ⟨rfl, b18⟩
  have z18 : W17.heap.size ≤ W18.heap.size := b18.size
  have B18 : Hid (Below w.heap.size w W18) := B17.out.trans (b18.mono B17.out.size)
  have r_w018 : Hid (W18.heap[W2.heap.size]? = some (.cells #[.int .i64 k, .int .i64 f, .int .i64 t, .int .i64 h.n, .string h.r, .int .i64 n, .slice ao_m L_m cap_m] 28 (0, 0))) := rowKeep r_w017.out b18
  have r_g018 : Hid (W18.heap[W5.heap.size]? = some (.cells #[.int .i64 k, .int .i64 f, .int .i64 t, .int .i64 h.n, .string h.r, .int .i64 n, .slice ao_g L_g cap_g] 28 (0, 0))) := rowKeep r_g017.out b18
  have r_h018 : Hid (W18.heap[W15.heap.size]? = some (.cells #[.int .i64 k, .int .i64 f, .int .i64 t, .int .i64 h.n, .string h.r, .int .i64 n, .slice ao_h L_h cap_h] 28 (0, 0))) := rowKeep r_h017.out b18
  have o_m18 : Hid (Own W18 (W1.heap.size) (W2.heap.size) 9 (.slice ao_m L_m cap_m) (ss x)) := Own.later o_m17.out b18 (by omega)
  have o_g18 : Hid (Own W18 (W4.heap.size) (W5.heap.size) 9 (.slice ao_g L_g cap_g) (ss (Strs.mts 1 x.length))) := Own.later o_g17.out b18 (by omega)
  have o_h18 : Hid (Own W18 (W14.heap.size) (W15.heap.size) 9 (.slice ao_h L_h cap_h) (ss x)) := Own.later o_h17.out b18 (by omega)
  have c_w018_0 : W18.cell? ⟨W2.heap.size, 0, none⟩ = some (.int .i64 k) := row_at r_w018.out 0
  have c_w018_1 : W18.cell? ⟨W2.heap.size, 1, none⟩ = some (.int .i64 f) := row_at r_w018.out 1
  have c_w018_2 : W18.cell? ⟨W2.heap.size, 2, none⟩ = some (.int .i64 t) := row_at r_w018.out 2
  have c_w018_3 : W18.cell? ⟨W2.heap.size, 3, none⟩ = some (.int .i64 h.n) := row_at r_w018.out 3
  have c_w018_4 : W18.cell? ⟨W2.heap.size, 4, none⟩ = some (.string h.r) := row_at r_w018.out 4
  have c_w018_5 : W18.cell? ⟨W2.heap.size, 5, none⟩ = some (.int .i64 n) := row_at r_w018.out 5
  have c_w018_6 : W18.cell? ⟨W2.heap.size, 6, none⟩ = some (.slice ao_m L_m cap_m) := row_at r_w018.out 6
  have c_g018_0 : W18.cell? ⟨W5.heap.size, 0, none⟩ = some (.int .i64 k) := row_at r_g018.out 0
  have c_g018_1 : W18.cell? ⟨W5.heap.size, 1, none⟩ = some (.int .i64 f) := row_at r_g018.out 1
  have c_g018_2 : W18.cell? ⟨W5.heap.size, 2, none⟩ = some (.int .i64 t) := row_at r_g018.out 2
  have c_g018_3 : W18.cell? ⟨W5.heap.size, 3, none⟩ = some (.int .i64 h.n) := row_at r_g018.out 3
  have c_g018_4 : W18.cell? ⟨W5.heap.size, 4, none⟩ = some (.string h.r) := row_at r_g018.out 4
  have c_g018_5 : W18.cell? ⟨W5.heap.size, 5, none⟩ = some (.int .i64 n) := row_at r_g018.out 5
  have c_g018_6 : W18.cell? ⟨W5.heap.size, 6, none⟩ = some (.slice ao_g L_g cap_g) := row_at r_g018.out 6
  have c_h018_0 : W18.cell? ⟨W15.heap.size, 0, none⟩ = some (.int .i64 k) := row_at r_h018.out 0
  have c_h018_1 : W18.cell? ⟨W15.heap.size, 1, none⟩ = some (.int .i64 f) := row_at r_h018.out 1
  have c_h018_2 : W18.cell? ⟨W15.heap.size, 2, none⟩ = some (.int .i64 t) := row_at r_h018.out 2
  have c_h018_3 : W18.cell? ⟨W15.heap.size, 3, none⟩ = some (.int .i64 h.n) := row_at r_h018.out 3
  have c_h018_4 : W18.cell? ⟨W15.heap.size, 4, none⟩ = some (.string h.r) := row_at r_h018.out 4
  have c_h018_5 : W18.cell? ⟨W15.heap.size, 5, none⟩ = some (.int .i64 n) := row_at r_h018.out 5
  have c_h018_6 : W18.cell? ⟨W15.heap.size, 6, none⟩ = some (.slice ao_h L_h cap_h) := row_at r_h018.out 6
  clear r_w017 c_w017_0 c_w017_1 c_w017_2 c_w017_3 c_w017_4 c_w017_5 c_w017_6 r_g017 c_g017_0 c_g017_1 c_g017_2 c_g017_3 c_g017_4 c_g017_5 c_g017_6 r_h017 c_h017_0 c_h017_1 c_h017_2 c_h017_3 c_h017_4 c_h017_5 c_h017_6 o_m17 o_g17 o_h17
  go_wp2
  go_ret
  exact ⟨rfl, B18.out⟩

end Go.Proofs.Yteemblfjghnooaa.Mg
