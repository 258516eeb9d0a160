/- Chapter 13: the laws' own helpers over words. -/
import Derived.Test.YteemblfjghnooaaMg2
import Derived.Test.YteemblfjghnooaaHe2
import Derived.Test.YteemblfjghnooaaSz2
import Derived.Test.YteemblfjghnooaaStrs
namespace Go.Proofs.Yteemblfjghnooaa.Mg
open Go.RowKit Go.Proofs.Yteemblfjghnooaa.Mem Go.Proofs.Yteemblfjghnooaa.Laws Go.Proofs.Yteemblfjghnooaa.Bytes Go.Proofs.Yteemblfjghnooaa.Sha Go.Proofs.Yteemblfjghnooaa.Tr Go.Proofs.Yteemblfjghnooaa.He
set_option linter.unusedVariables false
set_option linter.unusedSimpArgs false

set_option maxRecDepth 1000000 in
set_option maxHeartbeats 4000000 in
theorem to_msg (w : World) (v : Value) (m : Ms) (hs : Sl w v (ss m.x)) (hl : m.x.length ≤ 1000000000) :
    Calls Try.prog 17 #[.agg #[.int .i64 m.k, .int .i64 m.f, .int .i64 m.t, .int .i64 m.h.n, .string m.h.r, .int .i64 m.n, v]] w fun e w' => ∃ v', e = .returned (.agg #[.int .i64 m.k, .int .i64 m.f, .int .i64 m.t, .int .i64 m.h.n, .string m.h.r, .int .i64 m.n, v']) ∧ Own w' w.heap.size w'.heap.size 9 v' (ss m.x) ∧ Below w.heap.size w w' := by
  obtain ⟨k, f, t, h, n, x⟩ := m
  simp only at *
  have HS : Hid (Sl w v (ss x)) := hs
  obtain ⟨ao0, cap0, rfl, hc0⟩ := hs.form
  simp only [ss_len] at *
  clear hs
  have B0 : Hid (Below w.heap.size w w) := Below.refl _ _
  obtain ⟨W1, HW1, b1, y1, hS1, r_a1, r_res1, r_out1⟩ : ∃ X, Hid ((((w.alloc (.cells #[.int .i64 k, .int .i64 f, .int .i64 t, .int .i64 h.n, .string h.r, .int .i64 n, .slice ao0 x.length cap0] 38)).alloc (.cells #[.int .i64 0, .int .i64 0, .int .i64 0, .int .i64 0, .string ⟨#[]⟩, .int .i64 0, .slice none 0 0] 28)).alloc (.cells #[.int .i64 0, .int .i64 0, .int .i64 0, .int .i64 0, .string ⟨#[]⟩, .int .i64 0, .slice none 0 0] 28)) = X) ∧ Below w.heap.size w X ∧ w.heap.size + 3 ≤ X.heap.size ∧ Hid (X.heap.size = w.heap.size + 1 + 1 + 1) ∧ Hid (X.heap[w.heap.size]? = some (.cells #[.int .i64 k, .int .i64 f, .int .i64 t, .int .i64 h.n, .string h.r, .int .i64 n, .slice ao0 x.length cap0] 38 (0, 0))) ∧ Hid (X.heap[w.heap.size + 1]? = some (.cells #[.int .i64 0, .int .i64 0, .int .i64 0, .int .i64 0, .string ⟨#[]⟩, .int .i64 0, .slice none 0 0] 28 (0, 0))) ∧ Hid (X.heap[w.heap.size + 1 + 1]? = some (.cells #[.int .i64 0, .int .i64 0, .int .i64 0, .int .i64 0, .string ⟨#[]⟩, .int .i64 0, .slice none 0 0] 28 (0, 0))) := ⟨_, rfl, ((((Below.refl _ _).alloc (Nat.le_refl _) _).alloc (by simp) _).alloc (by simp; omega) _), by simp, by show _ = _; simp, (by show _ = _; exact alloc_nth3_0 w _ _ _), (by show _ = _; exact alloc_nth3_1 w _ _ _), (by show _ = _; exact alloc_nth3_2 w _ _ _)⟩
  have z1 : w.heap.size ≤ W1.heap.size := b1.size
  have B1 : Hid (Below w.heap.size w W1) := B0.out.trans (b1.mono B0.out.size)
  have c_a1_0 : W1.cell? ⟨w.heap.size, 0, none⟩ = some (.int .i64 k) := row_at r_a1.out 0
  have c_a1_1 : W1.cell? ⟨w.heap.size, 1, none⟩ = some (.int .i64 f) := row_at r_a1.out 1
  have c_a1_2 : W1.cell? ⟨w.heap.size, 2, none⟩ = some (.int .i64 t) := row_at r_a1.out 2
  have c_a1_3 : W1.cell? ⟨w.heap.size, 3, none⟩ = some (.int .i64 h.n) := row_at r_a1.out 3
  have c_a1_4 : W1.cell? ⟨w.heap.size, 4, none⟩ = some (.string h.r) := row_at r_a1.out 4
  have c_a1_5 : W1.cell? ⟨w.heap.size, 5, none⟩ = some (.int .i64 n) := row_at r_a1.out 5
  have c_a1_6 : W1.cell? ⟨w.heap.size, 6, none⟩ = some (.slice ao0 x.length cap0) := row_at r_a1.out 6
  have c_res1_0 : W1.cell? ⟨w.heap.size + 1, 0, none⟩ = some (.int .i64 0) := row_at r_res1.out 0
  have c_res1_1 : W1.cell? ⟨w.heap.size + 1, 1, none⟩ = some (.int .i64 0) := row_at r_res1.out 1
  have c_res1_2 : W1.cell? ⟨w.heap.size + 1, 2, none⟩ = some (.int .i64 0) := row_at r_res1.out 2
  have c_res1_3 : W1.cell? ⟨w.heap.size + 1, 3, none⟩ = some (.int .i64 0) := row_at r_res1.out 3
  have c_res1_4 : W1.cell? ⟨w.heap.size + 1, 4, none⟩ = some (.string ⟨#[]⟩) := row_at r_res1.out 4
  have c_res1_5 : W1.cell? ⟨w.heap.size + 1, 5, none⟩ = some (.int .i64 0) := row_at r_res1.out 5
  have c_res1_6 : W1.cell? ⟨w.heap.size + 1, 6, none⟩ = some (.slice none 0 0) := row_at r_res1.out 6
  have c_out1_0 : W1.cell? ⟨w.heap.size + 1 + 1, 0, none⟩ = some (.int .i64 0) := row_at r_out1.out 0
  have c_out1_1 : W1.cell? ⟨w.heap.size + 1 + 1, 1, none⟩ = some (.int .i64 0) := row_at r_out1.out 1
  have c_out1_2 : W1.cell? ⟨w.heap.size + 1 + 1, 2, none⟩ = some (.int .i64 0) := row_at r_out1.out 2
  have c_out1_3 : W1.cell? ⟨w.heap.size + 1 + 1, 3, none⟩ = some (.int .i64 0) := row_at r_out1.out 3
  have c_out1_4 : W1.cell? ⟨w.heap.size + 1 + 1, 4, none⟩ = some (.string ⟨#[]⟩) := row_at r_out1.out 4
  have c_out1_5 : W1.cell? ⟨w.heap.size + 1 + 1, 5, none⟩ = some (.int .i64 0) := row_at r_out1.out 5
  have c_out1_6 : W1.cell? ⟨w.heap.size + 1 + 1, 6, none⟩ = some (.slice none 0 0) := row_at r_out1.out 6
  have q1 : ∀ W, _ := fun W => to_head W h
  have q2 : ∀ W v1, Sl W v1 (ss x) → _ := fun W v1 h1 => Strs.to_s W v1 x h1 (by omega)
  go_enter Try.func17, Try.ntmps17
  go_wp2_with ((try rw [HW1.out]); refine wpl_oneG rfl 3 _ _ rfl (w.heap.size + 1 + 1) 0 (.int .i64 k) rfl rfl [.int .i64 0, .int .i64 0, .int .i64 0, .int .i64 0, .string ⟨#[]⟩, .int .i64 0, .slice none 0 0] 28 r_out1.out (Nat.le_of_ble_eq_true rfl) (by kernel_rfl) rfl [.int .i64 k, .int .i64 0, .int .i64 0, .int .i64 0, .string ⟨#[]⟩, .int .i64 0, .slice none 0 0] rfl ?_)
  intro W2 r_out2 g2
  have r_out2 : Hid (W2.heap[w.heap.size + 1 + 1]? = some (.cells #[.int .i64 k, .int .i64 0, .int .i64 0, .int .i64 0, .string ⟨#[]⟩, .int .i64 0, .slice none 0 0] 28 (0, 0))) := r_out2
  have z2 : W1.heap.size ≤ W2.heap.size := g2.size
  have B2 : Hid (Below w.heap.size w W2) := belowGro B1.out g2 B1.out.size (fun k9 h9 => by injection h9 with h9; have := B1.out.size; omega)
  have r_a2 : Hid (W2.heap[w.heap.size]? = some (.cells #[.int .i64 k, .int .i64 f, .int .i64 t, .int .i64 h.n, .string h.r, .int .i64 n, .slice ao0 x.length cap0] 38 (0, 0))) := rowGro r_a1.out g2 (fun h9 => by injection h9 with h9; omega)
  have r_res2 : Hid (W2.heap[w.heap.size + 1]? = some (.cells #[.int .i64 0, .int .i64 0, .int .i64 0, .int .i64 0, .string ⟨#[]⟩, .int .i64 0, .slice none 0 0] 28 (0, 0))) := rowGro r_res1.out g2 (fun h9 => by injection h9 with h9; omega)
  have c_a2_0 : W2.cell? ⟨w.heap.size, 0, none⟩ = some (.int .i64 k) := row_at r_a2.out 0
  have c_a2_1 : W2.cell? ⟨w.heap.size, 1, none⟩ = some (.int .i64 f) := row_at r_a2.out 1
  have c_a2_2 : W2.cell? ⟨w.heap.size, 2, none⟩ = some (.int .i64 t) := row_at r_a2.out 2
  have c_a2_3 : W2.cell? ⟨w.heap.size, 3, none⟩ = some (.int .i64 h.n) := row_at r_a2.out 3
  have c_a2_4 : W2.cell? ⟨w.heap.size, 4, none⟩ = some (.string h.r) := row_at r_a2.out 4
  have c_a2_5 : W2.cell? ⟨w.heap.size, 5, none⟩ = some (.int .i64 n) := row_at r_a2.out 5
  have c_a2_6 : W2.cell? ⟨w.heap.size, 6, none⟩ = some (.slice ao0 x.length cap0) := row_at r_a2.out 6
  have c_res2_0 : W2.cell? ⟨w.heap.size + 1, 0, none⟩ = some (.int .i64 0) := row_at r_res2.out 0
  have c_res2_1 : W2.cell? ⟨w.heap.size + 1, 1, none⟩ = some (.int .i64 0) := row_at r_res2.out 1
  have c_res2_2 : W2.cell? ⟨w.heap.size + 1, 2, none⟩ = some (.int .i64 0) := row_at r_res2.out 2
  have c_res2_3 : W2.cell? ⟨w.heap.size + 1, 3, none⟩ = some (.int .i64 0) := row_at r_res2.out 3
  have c_res2_4 : W2.cell? ⟨w.heap.size + 1, 4, none⟩ = some (.string ⟨#[]⟩) := row_at r_res2.out 4
  have c_res2_5 : W2.cell? ⟨w.heap.size + 1, 5, none⟩ = some (.int .i64 0) := row_at r_res2.out 5
  have c_res2_6 : W2.cell? ⟨w.heap.size + 1, 6, none⟩ = some (.slice none 0 0) := row_at r_res2.out 6
  have c_out2_0 : W2.cell? ⟨w.heap.size + 1 + 1, 0, none⟩ = some (.int .i64 k) := row_at r_out2.out 0
  have c_out2_1 : W2.cell? ⟨w.heap.size + 1 + 1, 1, none⟩ = some (.int .i64 0) := row_at r_out2.out 1
  have c_out2_2 : W2.cell? ⟨w.heap.size + 1 + 1, 2, none⟩ = some (.int .i64 0) := row_at r_out2.out 2
  have c_out2_3 : W2.cell? ⟨w.heap.size + 1 + 1, 3, none⟩ = some (.int .i64 0) := row_at r_out2.out 3
  have c_out2_4 : W2.cell? ⟨w.heap.size + 1 + 1, 4, none⟩ = some (.string ⟨#[]⟩) := row_at r_out2.out 4
  have c_out2_5 : W2.cell? ⟨w.heap.size + 1 + 1, 5, none⟩ = some (.int .i64 0) := row_at r_out2.out 5
  have c_out2_6 : W2.cell? ⟨w.heap.size + 1 + 1, 6, none⟩ = some (.slice none 0 0) := row_at r_out2.out 6
  clear r_a1 c_a1_0 c_a1_1 c_a1_2 c_a1_3 c_a1_4 c_a1_5 c_a1_6 r_res1 c_res1_0 c_res1_1 c_res1_2 c_res1_3 c_res1_4 c_res1_5 c_res1_6
  clear r_out1 c_out1_0 c_out1_1 c_out1_2 c_out1_3 c_out1_4 c_out1_5 c_out1_6
  clear g2
  go_wp2_with (refine wpl_oneG rfl 3 _ _ rfl (w.heap.size + 1 + 1) 1 (.int .i64 f) rfl rfl [.int .i64 k, .int .i64 0, .int .i64 0, .int .i64 0, .string ⟨#[]⟩, .int .i64 0, .slice none 0 0] 28 r_out2.out (Nat.le_of_ble_eq_true rfl) (by kernel_rfl) rfl [.int .i64 k, .int .i64 f, .int .i64 0, .int .i64 0, .string ⟨#[]⟩, .int .i64 0, .slice none 0 0] rfl ?_)
  intro W3 r_out3 g3
  have r_out3 : Hid (W3.heap[w.heap.size + 1 + 1]? = some (.cells #[.int .i64 k, .int .i64 f, .int .i64 0, .int .i64 0, .string ⟨#[]⟩, .int .i64 0, .slice none 0 0] 28 (0, 0))) := r_out3
  have z3 : W2.heap.size ≤ W3.heap.size := g3.size
  have B3 : Hid (Below w.heap.size w W3) := belowGro B2.out g3 B2.out.size (fun k9 h9 => by injection h9 with h9; have := B2.out.size; omega)
  have r_a3 : Hid (W3.heap[w.heap.size]? = some (.cells #[.int .i64 k, .int .i64 f, .int .i64 t, .int .i64 h.n, .string h.r, .int .i64 n, .slice ao0 x.length cap0] 38 (0, 0))) := rowGro r_a2.out g3 (fun h9 => by injection h9 with h9; omega)
  have r_res3 : Hid (W3.heap[w.heap.size + 1]? = some (.cells #[.int .i64 0, .int .i64 0, .int .i64 0, .int .i64 0, .string ⟨#[]⟩, .int .i64 0, .slice none 0 0] 28 (0, 0))) := rowGro r_res2.out g3 (fun h9 => by injection h9 with h9; omega)
  have c_a3_0 : W3.cell? ⟨w.heap.size, 0, none⟩ = some (.int .i64 k) := row_at r_a3.out 0
  have c_a3_1 : W3.cell? ⟨w.heap.size, 1, none⟩ = some (.int .i64 f) := row_at r_a3.out 1
  have c_a3_2 : W3.cell? ⟨w.heap.size, 2, none⟩ = some (.int .i64 t) := row_at r_a3.out 2
  have c_a3_3 : W3.cell? ⟨w.heap.size, 3, none⟩ = some (.int .i64 h.n) := row_at r_a3.out 3
  have c_a3_4 : W3.cell? ⟨w.heap.size, 4, none⟩ = some (.string h.r) := row_at r_a3.out 4
  have c_a3_5 : W3.cell? ⟨w.heap.size, 5, none⟩ = some (.int .i64 n) := row_at r_a3.out 5
  have c_a3_6 : W3.cell? ⟨w.heap.size, 6, none⟩ = some (.slice ao0 x.length cap0) := row_at r_a3.out 6
  have c_res3_0 : W3.cell? ⟨w.heap.size + 1, 0, none⟩ = some (.int .i64 0) := row_at r_res3.out 0
  have c_res3_1 : W3.cell? ⟨w.heap.size + 1, 1, none⟩ = some (.int .i64 0) := row_at r_res3.out 1
  have c_res3_2 : W3.cell? ⟨w.heap.size + 1, 2, none⟩ = some (.int .i64 0) := row_at r_res3.out 2
  have c_res3_3 : W3.cell? ⟨w.heap.size + 1, 3, none⟩ = some (.int .i64 0) := row_at r_res3.out 3
  have c_res3_4 : W3.cell? ⟨w.heap.size + 1, 4, none⟩ = some (.string ⟨#[]⟩) := row_at r_res3.out 4
  have c_res3_5 : W3.cell? ⟨w.heap.size + 1, 5, none⟩ = some (.int .i64 0) := row_at r_res3.out 5
  have c_res3_6 : W3.cell? ⟨w.heap.size + 1, 6, none⟩ = some (.slice none 0 0) := row_at r_res3.out 6
  have c_out3_0 : W3.cell? ⟨w.heap.size + 1 + 1, 0, none⟩ = some (.int .i64 k) := row_at r_out3.out 0
  have c_out3_1 : W3.cell? ⟨w.heap.size + 1 + 1, 1, none⟩ = some (.int .i64 f) := row_at r_out3.out 1
  have c_out3_2 : W3.cell? ⟨w.heap.size + 1 + 1, 2, none⟩ = some (.int .i64 0) := row_at r_out3.out 2
  have c_out3_3 : W3.cell? ⟨w.heap.size + 1 + 1, 3, none⟩ = some (.int .i64 0) := row_at r_out3.out 3
  have c_out3_4 : W3.cell? ⟨w.heap.size + 1 + 1, 4, none⟩ = some (.string ⟨#[]⟩) := row_at r_out3.out 4
  have c_out3_5 : W3.cell? ⟨w.heap.size + 1 + 1, 5, none⟩ = some (.int .i64 0) := row_at r_out3.out 5
  have c_out3_6 : W3.cell? ⟨w.heap.size + 1 + 1, 6, none⟩ = some (.slice none 0 0) := row_at r_out3.out 6
  clear r_a2 c_a2_0 c_a2_1 c_a2_2 c_a2_3 c_a2_4 c_a2_5 c_a2_6 r_res2 c_res2_0 c_res2_1 c_res2_2 c_res2_3 c_res2_4 c_res2_5 c_res2_6
  clear r_out2 c_out2_0 c_out2_1 c_out2_2 c_out2_3 c_out2_4 c_out2_5 c_out2_6
  clear g3
  go_wp2_with (refine wpl_oneG rfl 3 _ _ rfl (w.heap.size + 1 + 1) 2 (.int .i64 t) rfl rfl [.int .i64 k, .int .i64 f, .int .i64 0, .int .i64 0, .string ⟨#[]⟩, .int .i64 0, .slice none 0 0] 28 r_out3.out (Nat.le_of_ble_eq_true rfl) (by kernel_rfl) rfl [.int .i64 k, .int .i64 f, .int .i64 t, .int .i64 0, .string ⟨#[]⟩, .int .i64 0, .slice none 0 0] rfl ?_)
  intro W4 r_out4 g4
  have r_out4 : Hid (W4.heap[w.heap.size + 1 + 1]? = some (.cells #[.int .i64 k, .int .i64 f, .int .i64 t, .int .i64 0, .string ⟨#[]⟩, .int .i64 0, .slice none 0 0] 28 (0, 0))) := r_out4
  have z4 : W3.heap.size ≤ W4.heap.size := g4.size
  have B4 : Hid (Below w.heap.size w W4) := belowGro B3.out g4 B3.out.size (fun k9 h9 => by injection h9 with h9; have := B3.out.size; omega)
  have r_a4 : Hid (W4.heap[w.heap.size]? = some (.cells #[.int .i64 k, .int .i64 f, .int .i64 t, .int .i64 h.n, .string h.r, .int .i64 n, .slice ao0 x.length cap0] 38 (0, 0))) := rowGro r_a3.out g4 (fun h9 => by injection h9 with h9; omega)
  have r_res4 : Hid (W4.heap[w.heap.size + 1]? = some (.cells #[.int .i64 0, .int .i64 0, .int .i64 0, .int .i64 0, .string ⟨#[]⟩, .int .i64 0, .slice none 0 0] 28 (0, 0))) := rowGro r_res3.out g4 (fun h9 => by injection h9 with h9; omega)
  have c_a4_0 : W4.cell? ⟨w.heap.size, 0, none⟩ = some (.int .i64 k) := row_at r_a4.out 0
  have c_a4_1 : W4.cell? ⟨w.heap.size, 1, none⟩ = some (.int .i64 f) := row_at r_a4.out 1
  have c_a4_2 : W4.cell? ⟨w.heap.size, 2, none⟩ = some (.int .i64 t) := row_at r_a4.out 2
  have c_a4_3 : W4.cell? ⟨w.heap.size, 3, none⟩ = some (.int .i64 h.n) := row_at r_a4.out 3
  have c_a4_4 : W4.cell? ⟨w.heap.size, 4, none⟩ = some (.string h.r) := row_at r_a4.out 4
  have c_a4_5 : W4.cell? ⟨w.heap.size, 5, none⟩ = some (.int .i64 n) := row_at r_a4.out 5
  have c_a4_6 : W4.cell? ⟨w.heap.size, 6, none⟩ = some (.slice ao0 x.length cap0) := row_at r_a4.out 6
  have c_res4_0 : W4.cell? ⟨w.heap.size + 1, 0, none⟩ = some (.int .i64 0) := row_at r_res4.out 0
  have c_res4_1 : W4.cell? ⟨w.heap.size + 1, 1, none⟩ = some (.int .i64 0) := row_at r_res4.out 1
  have c_res4_2 : W4.cell? ⟨w.heap.size + 1, 2, none⟩ = some (.int .i64 0) := row_at r_res4.out 2
  have c_res4_3 : W4.cell? ⟨w.heap.size + 1, 3, none⟩ = some (.int .i64 0) := row_at r_res4.out 3
  have c_res4_4 : W4.cell? ⟨w.heap.size + 1, 4, none⟩ = some (.string ⟨#[]⟩) := row_at r_res4.out 4
  have c_res4_5 : W4.cell? ⟨w.heap.size + 1, 5, none⟩ = some (.int .i64 0) := row_at r_res4.out 5
  have c_res4_6 : W4.cell? ⟨w.heap.size + 1, 6, none⟩ = some (.slice none 0 0) := row_at r_res4.out 6
  have c_out4_0 : W4.cell? ⟨w.heap.size + 1 + 1, 0, none⟩ = some (.int .i64 k) := row_at r_out4.out 0
  have c_out4_1 : W4.cell? ⟨w.heap.size + 1 + 1, 1, none⟩ = some (.int .i64 f) := row_at r_out4.out 1
  have c_out4_2 : W4.cell? ⟨w.heap.size + 1 + 1, 2, none⟩ = some (.int .i64 t) := row_at r_out4.out 2
  have c_out4_3 : W4.cell? ⟨w.heap.size + 1 + 1, 3, none⟩ = some (.int .i64 0) := row_at r_out4.out 3
  have c_out4_4 : W4.cell? ⟨w.heap.size + 1 + 1, 4, none⟩ = some (.string ⟨#[]⟩) := row_at r_out4.out 4
  have c_out4_5 : W4.cell? ⟨w.heap.size + 1 + 1, 5, none⟩ = some (.int .i64 0) := row_at r_out4.out 5
  have c_out4_6 : W4.cell? ⟨w.heap.size + 1 + 1, 6, none⟩ = some (.slice none 0 0) := row_at r_out4.out 6
  clear r_a3 c_a3_0 c_a3_1 c_a3_2 c_a3_3 c_a3_4 c_a3_5 c_a3_6 r_res3 c_res3_0 c_res3_1 c_res3_2 c_res3_3 c_res3_4 c_res3_5 c_res3_6
  clear r_out3 c_out3_0 c_out3_1 c_out3_2 c_out3_3 c_out3_4 c_out3_5 c_out3_6
  clear g4
  go_wp2_with fail
  refine (q1 W4).mono ?_
  rintro e W5 ⟨rfl, b5⟩
  have z5 : W4.heap.size ≤ W5.heap.size := b5.size
  have B5 : Hid (Below w.heap.size w W5) := B4.out.trans (b5.mono B4.out.size)
  have r_a5 : Hid (W5.heap[w.heap.size]? = some (.cells #[.int .i64 k, .int .i64 f, .int .i64 t, .int .i64 h.n, .string h.r, .int .i64 n, .slice ao0 x.length cap0] 38 (0, 0))) := rowKeep r_a4.out b5
  have r_res5 : Hid (W5.heap[w.heap.size + 1]? = some (.cells #[.int .i64 0, .int .i64 0, .int .i64 0, .int .i64 0, .string ⟨#[]⟩, .int .i64 0, .slice none 0 0] 28 (0, 0))) := rowKeep r_res4.out b5
  have r_out5 : Hid (W5.heap[w.heap.size + 1 + 1]? = some (.cells #[.int .i64 k, .int .i64 f, .int .i64 t, .int .i64 0, .string ⟨#[]⟩, .int .i64 0, .slice none 0 0] 28 (0, 0))) := rowKeep r_out4.out b5
  have c_a5_0 : W5.cell? ⟨w.heap.size, 0, none⟩ = some (.int .i64 k) := row_at r_a5.out 0
  have c_a5_1 : W5.cell? ⟨w.heap.size, 1, none⟩ = some (.int .i64 f) := row_at r_a5.out 1
  have c_a5_2 : W5.cell? ⟨w.heap.size, 2, none⟩ = some (.int .i64 t) := row_at r_a5.out 2
  have c_a5_3 : W5.cell? ⟨w.heap.size, 3, none⟩ = some (.int .i64 h.n) := row_at r_a5.out 3
  have c_a5_4 : W5.cell? ⟨w.heap.size, 4, none⟩ = some (.string h.r) := row_at r_a5.out 4
  have c_a5_5 : W5.cell? ⟨w.heap.size, 5, none⟩ = some (.int .i64 n) := row_at r_a5.out 5
  have c_a5_6 : W5.cell? ⟨w.heap.size, 6, none⟩ = some (.slice ao0 x.length cap0) := row_at r_a5.out 6
  have c_res5_0 : W5.cell? ⟨w.heap.size + 1, 0, none⟩ = some (.int .i64 0) := row_at r_res5.out 0
  have c_res5_1 : W5.cell? ⟨w.heap.size + 1, 1, none⟩ = some (.int .i64 0) := row_at r_res5.out 1
  have c_res5_2 : W5.cell? ⟨w.heap.size + 1, 2, none⟩ = some (.int .i64 0) := row_at r_res5.out 2
  have c_res5_3 : W5.cell? ⟨w.heap.size + 1, 3, none⟩ = some (.int .i64 0) := row_at r_res5.out 3
  have c_res5_4 : W5.cell? ⟨w.heap.size + 1, 4, none⟩ = some (.string ⟨#[]⟩) := row_at r_res5.out 4
  have c_res5_5 : W5.cell? ⟨w.heap.size + 1, 5, none⟩ = some (.int .i64 0) := row_at r_res5.out 5
  have c_res5_6 : W5.cell? ⟨w.heap.size + 1, 6, none⟩ = some (.slice none 0 0) := row_at r_res5.out 6
  have c_out5_0 : W5.cell? ⟨w.heap.size + 1 + 1, 0, none⟩ = some (.int .i64 k) := row_at r_out5.out 0
  have c_out5_1 : W5.cell? ⟨w.heap.size + 1 + 1, 1, none⟩ = some (.int .i64 f) := row_at r_out5.out 1
  have c_out5_2 : W5.cell? ⟨w.heap.size + 1 + 1, 2, none⟩ = some (.int .i64 t) := row_at r_out5.out 2
  have c_out5_3 : W5.cell? ⟨w.heap.size + 1 + 1, 3, none⟩ = some (.int .i64 0) := row_at r_out5.out 3
  have c_out5_4 : W5.cell? ⟨w.heap.size + 1 + 1, 4, none⟩ = some (.string ⟨#[]⟩) := row_at r_out5.out 4
  have c_out5_5 : W5.cell? ⟨w.heap.size + 1 + 1, 5, none⟩ = some (.int .i64 0) := row_at r_out5.out 5
  have c_out5_6 : W5.cell? ⟨w.heap.size + 1 + 1, 6, none⟩ = some (.slice none 0 0) := row_at r_out5.out 6
  clear r_a4 c_a4_0 c_a4_1 c_a4_2 c_a4_3 c_a4_4 c_a4_5 c_a4_6 r_res4 c_res4_0 c_res4_1 c_res4_2 c_res4_3 c_res4_4 c_res4_5 c_res4_6 r_out4 c_out4_0 c_out4_1 c_out4_2 c_out4_3 c_out4_4 c_out4_5 c_out4_6
  go_wp2_with (refine wpl_partG rfl 25 _ _ rfl (w.heap.size + 1 + 1) 3 (hc h) rfl rfl [.int .i64 k, .int .i64 f, .int .i64 t, .int .i64 0, .string ⟨#[]⟩, .int .i64 0, .slice none 0 0] 28 r_out5.out (Nat.le_of_ble_eq_true rfl) (sizeH _) (oneH _) [.int .i64 k, .int .i64 f, .int .i64 t, .int .i64 h.n, .string h.r, .int .i64 0, .slice none 0 0] rfl ?_)
  intro W6 r_out6 g6
  have r_out6 : Hid (W6.heap[w.heap.size + 1 + 1]? = some (.cells #[.int .i64 k, .int .i64 f, .int .i64 t, .int .i64 h.n, .string h.r, .int .i64 0, .slice none 0 0] 28 (0, 0))) := r_out6
  have z6 : W5.heap.size ≤ W6.heap.size := g6.size
  have B6 : Hid (Below w.heap.size w W6) := belowGro B5.out g6 B5.out.size (fun k9 h9 => by injection h9 with h9; have := B5.out.size; omega)
  have r_a6 : Hid (W6.heap[w.heap.size]? = some (.cells #[.int .i64 k, .int .i64 f, .int .i64 t, .int .i64 h.n, .string h.r, .int .i64 n, .slice ao0 x.length cap0] 38 (0, 0))) := rowGro r_a5.out g6 (fun h9 => by injection h9 with h9; omega)
  have r_res6 : Hid (W6.heap[w.heap.size + 1]? = some (.cells #[.int .i64 0, .int .i64 0, .int .i64 0, .int .i64 0, .string ⟨#[]⟩, .int .i64 0, .slice none 0 0] 28 (0, 0))) := rowGro r_res5.out g6 (fun h9 => by injection h9 with h9; omega)
  have c_a6_0 : W6.cell? ⟨w.heap.size, 0, none⟩ = some (.int .i64 k) := row_at r_a6.out 0
  have c_a6_1 : W6.cell? ⟨w.heap.size, 1, none⟩ = some (.int .i64 f) := row_at r_a6.out 1
  have c_a6_2 : W6.cell? ⟨w.heap.size, 2, none⟩ = some (.int .i64 t) := row_at r_a6.out 2
  have c_a6_3 : W6.cell? ⟨w.heap.size, 3, none⟩ = some (.int .i64 h.n) := row_at r_a6.out 3
  have c_a6_4 : W6.cell? ⟨w.heap.size, 4, none⟩ = some (.string h.r) := row_at r_a6.out 4
  have c_a6_5 : W6.cell? ⟨w.heap.size, 5, none⟩ = some (.int .i64 n) := row_at r_a6.out 5
  have c_a6_6 : W6.cell? ⟨w.heap.size, 6, none⟩ = some (.slice ao0 x.length cap0) := row_at r_a6.out 6
  have c_res6_0 : W6.cell? ⟨w.heap.size + 1, 0, none⟩ = some (.int .i64 0) := row_at r_res6.out 0
  have c_res6_1 : W6.cell? ⟨w.heap.size + 1, 1, none⟩ = some (.int .i64 0) := row_at r_res6.out 1
  have c_res6_2 : W6.cell? ⟨w.heap.size + 1, 2, none⟩ = some (.int .i64 0) := row_at r_res6.out 2
  have c_res6_3 : W6.cell? ⟨w.heap.size + 1, 3, none⟩ = some (.int .i64 0) := row_at r_res6.out 3
  have c_res6_4 : W6.cell? ⟨w.heap.size + 1, 4, none⟩ = some (.string ⟨#[]⟩) := row_at r_res6.out 4
  have c_res6_5 : W6.cell? ⟨w.heap.size + 1, 5, none⟩ = some (.int .i64 0) := row_at r_res6.out 5
  have c_res6_6 : W6.cell? ⟨w.heap.size + 1, 6, none⟩ = some (.slice none 0 0) := row_at r_res6.out 6
  have c_out6_0 : W6.cell? ⟨w.heap.size + 1 + 1, 0, none⟩ = some (.int .i64 k) := row_at r_out6.out 0
  have c_out6_1 : W6.cell? ⟨w.heap.size + 1 + 1, 1, none⟩ = some (.int .i64 f) := row_at r_out6.out 1
  have c_out6_2 : W6.cell? ⟨w.heap.size + 1 + 1, 2, none⟩ = some (.int .i64 t) := row_at r_out6.out 2
  have c_out6_3 : W6.cell? ⟨w.heap.size + 1 + 1, 3, none⟩ = some (.int .i64 h.n) := row_at r_out6.out 3
  have c_out6_4 : W6.cell? ⟨w.heap.size + 1 + 1, 4, none⟩ = some (.string h.r) := row_at r_out6.out 4
  have c_out6_5 : W6.cell? ⟨w.heap.size + 1 + 1, 5, none⟩ = some (.int .i64 0) := row_at r_out6.out 5
  have c_out6_6 : W6.cell? ⟨w.heap.size + 1 + 1, 6, none⟩ = some (.slice none 0 0) := row_at r_out6.out 6
  clear r_a5 c_a5_0 c_a5_1 c_a5_2 c_a5_3 c_a5_4 c_a5_5 c_a5_6 r_res5 c_res5_0 c_res5_1 c_res5_2 c_res5_3 c_res5_4 c_res5_5 c_res5_6
  clear r_out5 c_out5_0 c_out5_1 c_out5_2 c_out5_3 c_out5_4 c_out5_5 c_out5_6
  clear g6
  go_wp2_with (refine wpl_oneG rfl 3 _ _ rfl (w.heap.size + 1 + 1) 5 (.int .i64 n) rfl rfl [.int .i64 k, .int .i64 f, .int .i64 t, .int .i64 h.n, .string h.r, .int .i64 0, .slice none 0 0] 28 r_out6.out (Nat.le_of_ble_eq_true rfl) (by kernel_rfl) rfl [.int .i64 k, .int .i64 f, .int .i64 t, .int .i64 h.n, .string h.r, .int .i64 n, .slice none 0 0] rfl ?_)
  intro W7 r_out7 g7
  have r_out7 : Hid (W7.heap[w.heap.size + 1 + 1]? = some (.cells #[.int .i64 k, .int .i64 f, .int .i64 t, .int .i64 h.n, .string h.r, .int .i64 n, .slice none 0 0] 28 (0, 0))) := r_out7
  have z7 : W6.heap.size ≤ W7.heap.size := g7.size
  have B7 : Hid (Below w.heap.size w W7) := belowGro B6.out g7 B6.out.size (fun k9 h9 => by injection h9 with h9; have := B6.out.size; omega)
  have r_a7 : Hid (W7.heap[w.heap.size]? = some (.cells #[.int .i64 k, .int .i64 f, .int .i64 t, .int .i64 h.n, .string h.r, .int .i64 n, .slice ao0 x.length cap0] 38 (0, 0))) := rowGro r_a6.out g7 (fun h9 => by injection h9 with h9; omega)
  have r_res7 : Hid (W7.heap[w.heap.size + 1]? = some (.cells #[.int .i64 0, .int .i64 0, .int .i64 0, .int .i64 0, .string ⟨#[]⟩, .int .i64 0, .slice none 0 0] 28 (0, 0))) := rowGro r_res6.out g7 (fun h9 => by injection h9 with h9; omega)
  have c_a7_0 : W7.cell? ⟨w.heap.size, 0, none⟩ = some (.int .i64 k) := row_at r_a7.out 0
  have c_a7_1 : W7.cell? ⟨w.heap.size, 1, none⟩ = some (.int .i64 f) := row_at r_a7.out 1
  have c_a7_2 : W7.cell? ⟨w.heap.size, 2, none⟩ = some (.int .i64 t) := row_at r_a7.out 2
  have c_a7_3 : W7.cell? ⟨w.heap.size, 3, none⟩ = some (.int .i64 h.n) := row_at r_a7.out 3
  have c_a7_4 : W7.cell? ⟨w.heap.size, 4, none⟩ = some (.string h.r) := row_at r_a7.out 4
  have c_a7_5 : W7.cell? ⟨w.heap.size, 5, none⟩ = some (.int .i64 n) := row_at r_a7.out 5
  have c_a7_6 : W7.cell? ⟨w.heap.size, 6, none⟩ = some (.slice ao0 x.length cap0) := row_at r_a7.out 6
  have c_res7_0 : W7.cell? ⟨w.heap.size + 1, 0, none⟩ = some (.int .i64 0) := row_at r_res7.out 0
  have c_res7_1 : W7.cell? ⟨w.heap.size + 1, 1, none⟩ = some (.int .i64 0) := row_at r_res7.out 1
  have c_res7_2 : W7.cell? ⟨w.heap.size + 1, 2, none⟩ = some (.int .i64 0) := row_at r_res7.out 2
  have c_res7_3 : W7.cell? ⟨w.heap.size + 1, 3, none⟩ = some (.int .i64 0) := row_at r_res7.out 3
  have c_res7_4 : W7.cell? ⟨w.heap.size + 1, 4, none⟩ = some (.string ⟨#[]⟩) := row_at r_res7.out 4
  have c_res7_5 : W7.cell? ⟨w.heap.size + 1, 5, none⟩ = some (.int .i64 0) := row_at r_res7.out 5
  have c_res7_6 : W7.cell? ⟨w.heap.size + 1, 6, none⟩ = some (.slice none 0 0) := row_at r_res7.out 6
  have c_out7_0 : W7.cell? ⟨w.heap.size + 1 + 1, 0, none⟩ = some (.int .i64 k) := row_at r_out7.out 0
  have c_out7_1 : W7.cell? ⟨w.heap.size + 1 + 1, 1, none⟩ = some (.int .i64 f) := row_at r_out7.out 1
  have c_out7_2 : W7.cell? ⟨w.heap.size + 1 + 1, 2, none⟩ = some (.int .i64 t) := row_at r_out7.out 2
  have c_out7_3 : W7.cell? ⟨w.heap.size + 1 + 1, 3, none⟩ = some (.int .i64 h.n) := row_at r_out7.out 3
  have c_out7_4 : W7.cell? ⟨w.heap.size + 1 + 1, 4, none⟩ = some (.string h.r) := row_at r_out7.out 4
  have c_out7_5 : W7.cell? ⟨w.heap.size + 1 + 1, 5, none⟩ = some (.int .i64 n) := row_at r_out7.out 5
  have c_out7_6 : W7.cell? ⟨w.heap.size + 1 + 1, 6, none⟩ = some (.slice none 0 0) := row_at r_out7.out 6
  clear r_a6 c_a6_0 c_a6_1 c_a6_2 c_a6_3 c_a6_4 c_a6_5 c_a6_6 r_res6 c_res6_0 c_res6_1 c_res6_2 c_res6_3 c_res6_4 c_res6_5 c_res6_6
  clear r_out6 c_out6_0 c_out6_1 c_out6_2 c_out6_3 c_out6_4 c_out6_5 c_out6_6
  clear g7
  go_wp2_with fail
  refine (q2 W7 _ (HS.out.later B7.out)).mono ?_
  rintro e W8 ⟨v_s, rfl, o_s8, b8⟩
  obtain ⟨ao_s, L_s, cap_s, rfl, hL_s, hM_s⟩ := o_s8.form
  have o_s8 : Hid (Own W8 W7.heap.size W8.heap.size 9 (.slice ao_s L_s cap_s) (ss x)) := o_s8
  clear hL_s hM_s
  have z8 : W7.heap.size ≤ W8.heap.size := b8.size
  have B8 : Hid (Below w.heap.size w W8) := B7.out.trans (b8.mono B7.out.size)
  have r_a8 : Hid (W8.heap[w.heap.size]? = some (.cells #[.int .i64 k, .int .i64 f, .int .i64 t, .int .i64 h.n, .string h.r, .int .i64 n, .slice ao0 x.length cap0] 38 (0, 0))) := rowKeep r_a7.out b8
  have r_res8 : Hid (W8.heap[w.heap.size + 1]? = some (.cells #[.int .i64 0, .int .i64 0, .int .i64 0, .int .i64 0, .string ⟨#[]⟩, .int .i64 0, .slice none 0 0] 28 (0, 0))) := rowKeep r_res7.out b8
  have r_out8 : Hid (W8.heap[w.heap.size + 1 + 1]? = some (.cells #[.int .i64 k, .int .i64 f, .int .i64 t, .int .i64 h.n, .string h.r, .int .i64 n, .slice none 0 0] 28 (0, 0))) := rowKeep r_out7.out b8
  have c_a8_0 : W8.cell? ⟨w.heap.size, 0, none⟩ = some (.int .i64 k) := row_at r_a8.out 0
  have c_a8_1 : W8.cell? ⟨w.heap.size, 1, none⟩ = some (.int .i64 f) := row_at r_a8.out 1
  have c_a8_2 : W8.cell? ⟨w.heap.size, 2, none⟩ = some (.int .i64 t) := row_at r_a8.out 2
  have c_a8_3 : W8.cell? ⟨w.heap.size, 3, none⟩ = some (.int .i64 h.n) := row_at r_a8.out 3
  have c_a8_4 : W8.cell? ⟨w.heap.size, 4, none⟩ = some (.string h.r) := row_at r_a8.out 4
  have c_a8_5 : W8.cell? ⟨w.heap.size, 5, none⟩ = some (.int .i64 n) := row_at r_a8.out 5
  have c_a8_6 : W8.cell? ⟨w.heap.size, 6, none⟩ = some (.slice ao0 x.length cap0) := row_at r_a8.out 6
  have c_res8_0 : W8.cell? ⟨w.heap.size + 1, 0, none⟩ = some (.int .i64 0) := row_at r_res8.out 0
  have c_res8_1 : W8.cell? ⟨w.heap.size + 1, 1, none⟩ = some (.int .i64 0) := row_at r_res8.out 1
  have c_res8_2 : W8.cell? ⟨w.heap.size + 1, 2, none⟩ = some (.int .i64 0) := row_at r_res8.out 2
  have c_res8_3 : W8.cell? ⟨w.heap.size + 1, 3, none⟩ = some (.int .i64 0) := row_at r_res8.out 3
  have c_res8_4 : W8.cell? ⟨w.heap.size + 1, 4, none⟩ = some (.string ⟨#[]⟩) := row_at r_res8.out 4
  have c_res8_5 : W8.cell? ⟨w.heap.size + 1, 5, none⟩ = some (.int .i64 0) := row_at r_res8.out 5
  have c_res8_6 : W8.cell? ⟨w.heap.size + 1, 6, none⟩ = some (.slice none 0 0) := row_at r_res8.out 6
  have c_out8_0 : W8.cell? ⟨w.heap.size + 1 + 1, 0, none⟩ = some (.int .i64 k) := row_at r_out8.out 0
  have c_out8_1 : W8.cell? ⟨w.heap.size + 1 + 1, 1, none⟩ = some (.int .i64 f) := row_at r_out8.out 1
  have c_out8_2 : W8.cell? ⟨w.heap.size + 1 + 1, 2, none⟩ = some (.int .i64 t) := row_at r_out8.out 2
  have c_out8_3 : W8.cell? ⟨w.heap.size + 1 + 1, 3, none⟩ = some (.int .i64 h.n) := row_at r_out8.out 3
  have c_out8_4 : W8.cell? ⟨w.heap.size + 1 + 1, 4, none⟩ = some (.string h.r) := row_at r_out8.out 4
  have c_out8_5 : W8.cell? ⟨w.heap.size + 1 + 1, 5, none⟩ = some (.int .i64 n) := row_at r_out8.out 5
  have c_out8_6 : W8.cell? ⟨w.heap.size + 1 + 1, 6, none⟩ = some (.slice none 0 0) := row_at r_out8.out 6
  clear r_a7 c_a7_0 c_a7_1 c_a7_2 c_a7_3 c_a7_4 c_a7_5 c_a7_6 r_res7 c_res7_0 c_res7_1 c_res7_2 c_res7_3 c_res7_4 c_res7_5 c_res7_6 r_out7 c_out7_0 c_out7_1 c_out7_2 c_out7_3 c_out7_4 c_out7_5 c_out7_6
  go_wp2_with (refine wpl_oneG rfl 26 _ _ rfl (w.heap.size + 1 + 1) 6 (.slice ao_s L_s cap_s) rfl rfl [.int .i64 k, .int .i64 f, .int .i64 t, .int .i64 h.n, .string h.r, .int .i64 n, .slice none 0 0] 28 r_out8.out (Nat.le_of_ble_eq_true rfl) (by kernel_rfl) rfl [.int .i64 k, .int .i64 f, .int .i64 t, .int .i64 h.n, .string h.r, .int .i64 n, .slice ao_s L_s cap_s] rfl ?_)
  intro W9 r_out9 g9
  have r_out9 : Hid (W9.heap[w.heap.size + 1 + 1]? = some (.cells #[.int .i64 k, .int .i64 f, .int .i64 t, .int .i64 h.n, .string h.r, .int .i64 n, .slice ao_s L_s cap_s] 28 (0, 0))) := r_out9
  have z9 : W8.heap.size ≤ W9.heap.size := g9.size
  have B9 : Hid (Below w.heap.size w W9) := belowGro B8.out g9 B8.out.size (fun k9 h9 => by injection h9 with h9; have := B8.out.size; omega)
  have r_a9 : Hid (W9.heap[w.heap.size]? = some (.cells #[.int .i64 k, .int .i64 f, .int .i64 t, .int .i64 h.n, .string h.r, .int .i64 n, .slice ao0 x.length cap0] 38 (0, 0))) := rowGro r_a8.out g9 (fun h9 => by injection h9 with h9; omega)
  have r_res9 : Hid (W9.heap[w.heap.size + 1]? = some (.cells #[.int .i64 0, .int .i64 0, .int .i64 0, .int .i64 0, .string ⟨#[]⟩, .int .i64 0, .slice none 0 0] 28 (0, 0))) := rowGro r_res8.out g9 (fun h9 => by injection h9 with h9; omega)
  have o_s9 : Hid (Own W9 (W7.heap.size) (W8.heap.size) 9 (.slice ao_s L_s cap_s) (ss x)) := Own.gro o_s8.out g9 (fun k9 h9 e9 => Own.neRow o_s8.out r_out8.out (by decide) (h9.trans e9.symm))
  have c_a9_0 : W9.cell? ⟨w.heap.size, 0, none⟩ = some (.int .i64 k) := row_at r_a9.out 0
  have c_a9_1 : W9.cell? ⟨w.heap.size, 1, none⟩ = some (.int .i64 f) := row_at r_a9.out 1
  have c_a9_2 : W9.cell? ⟨w.heap.size, 2, none⟩ = some (.int .i64 t) := row_at r_a9.out 2
  have c_a9_3 : W9.cell? ⟨w.heap.size, 3, none⟩ = some (.int .i64 h.n) := row_at r_a9.out 3
  have c_a9_4 : W9.cell? ⟨w.heap.size, 4, none⟩ = some (.string h.r) := row_at r_a9.out 4
  have c_a9_5 : W9.cell? ⟨w.heap.size, 5, none⟩ = some (.int .i64 n) := row_at r_a9.out 5
  have c_a9_6 : W9.cell? ⟨w.heap.size, 6, none⟩ = some (.slice ao0 x.length cap0) := row_at r_a9.out 6
  have c_res9_0 : W9.cell? ⟨w.heap.size + 1, 0, none⟩ = some (.int .i64 0) := row_at r_res9.out 0
  have c_res9_1 : W9.cell? ⟨w.heap.size + 1, 1, none⟩ = some (.int .i64 0) := row_at r_res9.out 1
  have c_res9_2 : W9.cell? ⟨w.heap.size + 1, 2, none⟩ = some (.int .i64 0) := row_at r_res9.out 2
  have c_res9_3 : W9.cell? ⟨w.heap.size + 1, 3, none⟩ = some (.int .i64 0) := row_at r_res9.out 3
  have c_res9_4 : W9.cell? ⟨w.heap.size + 1, 4, none⟩ = some (.string ⟨#[]⟩) := row_at r_res9.out 4
  have c_res9_5 : W9.cell? ⟨w.heap.size + 1, 5, none⟩ = some (.int .i64 0) := row_at r_res9.out 5
  have c_res9_6 : W9.cell? ⟨w.heap.size + 1, 6, none⟩ = some (.slice none 0 0) := row_at r_res9.out 6
  have c_out9_0 : W9.cell? ⟨w.heap.size + 1 + 1, 0, none⟩ = some (.int .i64 k) := row_at r_out9.out 0
  have c_out9_1 : W9.cell? ⟨w.heap.size + 1 + 1, 1, none⟩ = some (.int .i64 f) := row_at r_out9.out 1
  have c_out9_2 : W9.cell? ⟨w.heap.size + 1 + 1, 2, none⟩ = some (.int .i64 t) := row_at r_out9.out 2
  have c_out9_3 : W9.cell? ⟨w.heap.size + 1 + 1, 3, none⟩ = some (.int .i64 h.n) := row_at r_out9.out 3
  have c_out9_4 : W9.cell? ⟨w.heap.size + 1 + 1, 4, none⟩ = some (.string h.r) := row_at r_out9.out 4
  have c_out9_5 : W9.cell? ⟨w.heap.size + 1 + 1, 5, none⟩ = some (.int .i64 n) := row_at r_out9.out 5
  have c_out9_6 : W9.cell? ⟨w.heap.size + 1 + 1, 6, none⟩ = some (.slice ao_s L_s cap_s) := row_at r_out9.out 6
  clear r_a8 c_a8_0 c_a8_1 c_a8_2 c_a8_3 c_a8_4 c_a8_5 c_a8_6 r_res8 c_res8_0 c_res8_1 c_res8_2 c_res8_3 c_res8_4 c_res8_5 c_res8_6 o_s8
  clear r_out8 c_out8_0 c_out8_1 c_out8_2 c_out8_3 c_out8_4 c_out8_5 c_out8_6
  clear g9
  go_wp2_with (first | (refine wpList_load_row rfl 28 _ rfl (w.heap.size + 1 + 1) rfl 28 (mc ⟨k, f, t, h, n, x⟩ (.slice ao_s L_s cap_s)) (0, 0) _ r_out9.out Try.underlying28 rfl (sizeM _ _) ?_) | (refine wpList_store_row rfl 28 _ _ rfl (w.heap.size + 1) (mc ⟨k, f, t, h, n, x⟩ (.slice ao_s L_s cap_s)) rfl rfl 28 _ r_res9.out (sizeM _ _) rfl (oneM _ rfl) ?_))
  exact bodyPost_ret (v := .agg (mc ⟨k, f, t, h, n, x⟩ (.slice ao_s L_s cap_s))) (results_cell_row rfl _ _ (w.heap.size + 1) 28 _ (0, 0) _ rfl (setRow_heap _ _ _ _ _ (0, 0) r_res9.out) Try.underlying28 rfl (sizeM _ _)) rfl ⟨_, rfl, (Own.setRow o_s9.out _ (by omega)).mono (by omega) (by rw [size_setRow]; omega), below_setRow B9.out (by omega) _⟩

set_option maxRecDepth 1000000 in
set_option maxHeartbeats 4000000 in
theorem sz_msg (w : World) (v : Value) (m : Ms) (hs : Sl w v (ss m.x)) (hz : ∀ s ∈ m.x, s.size ≤ 9223372036854775807) (hl : m.x.length ≤ 9223372036854775807) (hr : m.h.r.size ≤ 9223372036854775807) :
    Calls Try.prog 16 #[.agg #[.int .i64 m.k, .int .i64 m.f, .int .i64 m.t, .int .i64 m.h.n, .string m.h.r, .int .i64 m.n, v], .int .i64 1048576] w fun e w' => (∃ r : Int, e = .returned (.int .i64 r) ∧ (r < 0 ∨ (m.x.length + Puts.tot m.x ≤ 1048576 ∧ m.h.r.size ≤ 1048576 ∧ 0 ≤ r ∧ r ≤ 1048576))) ∧ Below w.heap.size w w' := by
  obtain ⟨k, f, t, h, n, x⟩ := m
  simp only at *
  have HS : Hid (Sl w v (ss x)) := hs
  obtain ⟨ao0, cap0, rfl, hc0⟩ := hs.form
  simp only [ss_len] at *
  clear hs
  have B0 : Hid (Below w.heap.size w w) := Below.refl _ _
  obtain ⟨W1, HW1, b1, y1, hS1, r_a1⟩ : ∃ X, Hid ((w.alloc (.cells #[.int .i64 k, .int .i64 f, .int .i64 t, .int .i64 h.n, .string h.r, .int .i64 n, .slice ao0 x.length cap0] 38)) = X) ∧ Below w.heap.size w X ∧ w.heap.size + 1 ≤ X.heap.size ∧ Hid (X.heap.size = w.heap.size + 1) ∧ Hid (X.heap[w.heap.size]? = some (.cells #[.int .i64 k, .int .i64 f, .int .i64 t, .int .i64 h.n, .string h.r, .int .i64 n, .slice ao0 x.length cap0] 38 (0, 0))) := ⟨_, rfl, ((Below.refl _ _).alloc (Nat.le_refl _) _), by simp, by show _ = _; simp, (by show _ = _; exact alloc_nth1_0 w _)⟩
  have z1 : w.heap.size ≤ W1.heap.size := b1.size
  have B1 : Hid (Below w.heap.size w W1) := B0.out.trans (b1.mono B0.out.size)
  have c_a1_0 : W1.cell? ⟨w.heap.size, 0, none⟩ = some (.int .i64 k) := row_at r_a1.out 0
  have c_a1_1 : W1.cell? ⟨w.heap.size, 1, none⟩ = some (.int .i64 f) := row_at r_a1.out 1
  have c_a1_2 : W1.cell? ⟨w.heap.size, 2, none⟩ = some (.int .i64 t) := row_at r_a1.out 2
  have c_a1_3 : W1.cell? ⟨w.heap.size, 3, none⟩ = some (.int .i64 h.n) := row_at r_a1.out 3
  have c_a1_4 : W1.cell? ⟨w.heap.size, 4, none⟩ = some (.string h.r) := row_at r_a1.out 4
  have c_a1_5 : W1.cell? ⟨w.heap.size, 5, none⟩ = some (.int .i64 n) := row_at r_a1.out 5
  have c_a1_6 : W1.cell? ⟨w.heap.size, 6, none⟩ = some (.slice ao0 x.length cap0) := row_at r_a1.out 6
  have q1 : ∀ W, _ := fun W => sz_head W h 1048576 hr (by omega) (by omega)
  by_cases hb : (1048576 : Int) - (h.r.size : Int) < 0
  · simp only [if_pos hb] at q1
    go_enter Try.func16, Try.ntmps16
    go_wp2_with fail
    rw [HW1.out]
    refine (q1 W1).mono ?_
    rintro e W2 ⟨rfl, b2⟩
    have z2 : W1.heap.size ≤ W2.heap.size := b2.size
    have B2 : Hid (Below w.heap.size w W2) := B1.out.trans (b2.mono B1.out.size)
    have r_a2 : Hid (W2.heap[w.heap.size]? = some (.cells #[.int .i64 k, .int .i64 f, .int .i64 t, .int .i64 h.n, .string h.r, .int .i64 n, .slice ao0 x.length cap0] 38 (0, 0))) := rowKeep r_a1.out b2
    have c_a2_0 : W2.cell? ⟨w.heap.size, 0, none⟩ = some (.int .i64 k) := row_at r_a2.out 0
    have c_a2_1 : W2.cell? ⟨w.heap.size, 1, none⟩ = some (.int .i64 f) := row_at r_a2.out 1
    have c_a2_2 : W2.cell? ⟨w.heap.size, 2, none⟩ = some (.int .i64 t) := row_at r_a2.out 2
    have c_a2_3 : W2.cell? ⟨w.heap.size, 3, none⟩ = some (.int .i64 h.n) := row_at r_a2.out 3
    have c_a2_4 : W2.cell? ⟨w.heap.size, 4, none⟩ = some (.string h.r) := row_at r_a2.out 4
    have c_a2_5 : W2.cell? ⟨w.heap.size, 5, none⟩ = some (.int .i64 n) := row_at r_a2.out 5
    have c_a2_6 : W2.cell? ⟨w.heap.size, 6, none⟩ = some (.slice ao0 x.length cap0) := row_at r_a2.out 6
    clear r_a1 c_a1_0 c_a1_1 c_a1_2 c_a1_3 c_a1_4 c_a1_5 c_a1_6
    go_wp2
    go_ret
    exact ⟨⟨-1, rfl, .inl (by omega)⟩, B2.out⟩
  · simp only [if_neg hb] at q1
    obtain ⟨c, hc⟩ : ∃ c : Nat, (1048576 : Int) - (h.r.size : Int) = (c : Int) := ⟨((1048576 : Int) - (h.r.size : Int)).toNat, by omega⟩
    have hcl : c ≤ 1048576 := by omega
    have hle : h.r.size ≤ 1048576 := by omega
    simp only [hc] at q1
    have hc9 : ¬ (c : Int) < 0 := by omega
    clear hc hb
    have q2 : ∀ W v1, Sl W v1 (ss x) → _ := fun W v1 h1 => Strs.sz_any2 W v1 x c h1 hz hl hcl
    clear hz
    go_enter Try.func16, Try.ntmps16
    go_wp2_with fail
    rw [HW1.out]
    refine (q1 W1).mono ?_
    rintro e W2 ⟨rfl, b2⟩
    have z2 : W1.heap.size ≤ W2.heap.size := b2.size
    have B2 : Hid (Below w.heap.size w W2) := B1.out.trans (b2.mono B1.out.size)
    have r_a2 : Hid (W2.heap[w.heap.size]? = some (.cells #[.int .i64 k, .int .i64 f, .int .i64 t, .int .i64 h.n, .string h.r, .int .i64 n, .slice ao0 x.length cap0] 38 (0, 0))) := rowKeep r_a1.out b2
    have c_a2_0 : W2.cell? ⟨w.heap.size, 0, none⟩ = some (.int .i64 k) := row_at r_a2.out 0
    have c_a2_1 : W2.cell? ⟨w.heap.size, 1, none⟩ = some (.int .i64 f) := row_at r_a2.out 1
    have c_a2_2 : W2.cell? ⟨w.heap.size, 2, none⟩ = some (.int .i64 t) := row_at r_a2.out 2
    have c_a2_3 : W2.cell? ⟨w.heap.size, 3, none⟩ = some (.int .i64 h.n) := row_at r_a2.out 3
    have c_a2_4 : W2.cell? ⟨w.heap.size, 4, none⟩ = some (.string h.r) := row_at r_a2.out 4
    have c_a2_5 : W2.cell? ⟨w.heap.size, 5, none⟩ = some (.int .i64 n) := row_at r_a2.out 5
    have c_a2_6 : W2.cell? ⟨w.heap.size, 6, none⟩ = some (.slice ao0 x.length cap0) := row_at r_a2.out 6
    clear r_a1 c_a1_0 c_a1_1 c_a1_2 c_a1_3 c_a1_4 c_a1_5 c_a1_6
    go_wp2_with fail
    refine (q2 W2 _ (HS.out.later B2.out)).mono ?_
    rintro e W_ ⟨⟨r, rfl, hr0⟩, hW_⟩
    try have hW_ := hW_.symm
    subst hW_
    clear q2 q1
    by_cases h0 : r < 0
    · go_wp2
      go_ret
      exact ⟨⟨-1, rfl, .inl (by omega)⟩, B2.out⟩
    · go_wp2
      go_ret
      refine ⟨⟨r, rfl, .inr ?_⟩, B2.out⟩
      rcases hr0 with hr0 | ⟨hr1, hr2, hr3⟩
      · omega
      · exact ⟨by omega, hle, by omega, by omega⟩

set_option maxRecDepth 1000000 in
set_option maxHeartbeats 4000000 in
theorem eq_msg (w : World) (v1 v2 : Value) (m : Ms) (h1 : Sl w v1 (ss m.x)) (h2 : Sl w v2 (ss m.x)) (hl : m.x.length ≤ 1000000000000) :
    Calls Try.prog 18 #[.agg #[.int .i64 m.k, .int .i64 m.f, .int .i64 m.t, .int .i64 m.h.n, .string m.h.r, .int .i64 m.n, v1], .agg #[.int .i64 m.k, .int .i64 m.f, .int .i64 m.t, .int .i64 m.h.n, .string m.h.r, .int .i64 m.n, v2]] w fun e w' => e = .returned (.bool true) ∧ Below w.heap.size w w' := by
  obtain ⟨k, f, t, h, n, x⟩ := m
  simp only at *
  have HS1 : Hid (Sl w v1 (ss x)) := h1
  have HS2 : Hid (Sl w v2 (ss x)) := h2
  obtain ⟨ao0, cap0, rfl, hc0⟩ := h1.form
  obtain ⟨ao1, cap1, rfl, hc1⟩ := h2.form
  simp only [ss_len] at *
  clear h1 h2
  have B0 : Hid (Below w.heap.size w w) := Below.refl _ _
  obtain ⟨W1, HW1, b1, y1, hS1, r_a1, r_b1⟩ : ∃ X, Hid (((w.alloc (.cells #[.int .i64 k, .int .i64 f, .int .i64 t, .int .i64 h.n, .string h.r, .int .i64 n, .slice ao0 x.length cap0] 28)).alloc (.cells #[.int .i64 k, .int .i64 f, .int .i64 t, .int .i64 h.n, .string h.r, .int .i64 n, .slice ao1 x.length cap1] 28)) = X) ∧ Below w.heap.size w X ∧ w.heap.size + 2 ≤ X.heap.size ∧ Hid (X.heap.size = w.heap.size + 1 + 1) ∧ Hid (X.heap[w.heap.size]? = some (.cells #[.int .i64 k, .int .i64 f, .int .i64 t, .int .i64 h.n, .string h.r, .int .i64 n, .slice ao0 x.length cap0] 28 (0, 0))) ∧ Hid (X.heap[w.heap.size + 1]? = some (.cells #[.int .i64 k, .int .i64 f, .int .i64 t, .int .i64 h.n, .string h.r, .int .i64 n, .slice ao1 x.length cap1] 28 (0, 0))) := ⟨_, rfl, (((Below.refl _ _).alloc (Nat.le_refl _) _).alloc (by simp) _), by simp, by show _ = _; simp, (by show _ = _; exact alloc_nth2_0 w _ _), (by show _ = _; exact alloc_nth2_1 w _ _)⟩
  have z1 : w.heap.size ≤ W1.heap.size := b1.size
  have B1 : Hid (Below w.heap.size w W1) := B0.out.trans (b1.mono B0.out.size)
  have c_a1_0 : W1.cell? ⟨w.heap.size, 0, none⟩ = some (.int .i64 k) := row_at r_a1.out 0
  have c_a1_1 : W1.cell? ⟨w.heap.size, 1, none⟩ = some (.int .i64 f) := row_at r_a1.out 1
  have c_a1_2 : W1.cell? ⟨w.heap.size, 2, none⟩ = some (.int .i64 t) := row_at r_a1.out 2
  have c_a1_3 : W1.cell? ⟨w.heap.size, 3, none⟩ = some (.int .i64 h.n) := row_at r_a1.out 3
  have c_a1_4 : W1.cell? ⟨w.heap.size, 4, none⟩ = some (.string h.r) := row_at r_a1.out 4
  have c_a1_5 : W1.cell? ⟨w.heap.size, 5, none⟩ = some (.int .i64 n) := row_at r_a1.out 5
  have c_a1_6 : W1.cell? ⟨w.heap.size, 6, none⟩ = some (.slice ao0 x.length cap0) := row_at r_a1.out 6
  have c_b1_0 : W1.cell? ⟨w.heap.size + 1, 0, none⟩ = some (.int .i64 k) := row_at r_b1.out 0
  have c_b1_1 : W1.cell? ⟨w.heap.size + 1, 1, none⟩ = some (.int .i64 f) := row_at r_b1.out 1
  have c_b1_2 : W1.cell? ⟨w.heap.size + 1, 2, none⟩ = some (.int .i64 t) := row_at r_b1.out 2
  have c_b1_3 : W1.cell? ⟨w.heap.size + 1, 3, none⟩ = some (.int .i64 h.n) := row_at r_b1.out 3
  have c_b1_4 : W1.cell? ⟨w.heap.size + 1, 4, none⟩ = some (.string h.r) := row_at r_b1.out 4
  have c_b1_5 : W1.cell? ⟨w.heap.size + 1, 5, none⟩ = some (.int .i64 n) := row_at r_b1.out 5
  have c_b1_6 : W1.cell? ⟨w.heap.size + 1, 6, none⟩ = some (.slice ao1 x.length cap1) := row_at r_b1.out 6
  have b_k : (k != k) = false := by simp
  have b_f : (f != f) = false := by simp
  have b_t : (t != t) = false := by simp
  have b_n : (n != n) = false := by simp
  have q1 : ∀ W, _ := fun W => eq_head W h
  have q2 : ∀ W v1 v2, Sl W v1 (ss x) → Sl W v2 (ss x) → _ := fun W v1 v2 h1 h2 => Strs.eqs_true W v1 v2 x h1 h2 hl
  go_enter Try.func18, Try.ntmps18
  go_wp2_with fail
  rw [HW1.out]
  refine (q1 W1).mono ?_
  rintro e W2 ⟨rfl, b2⟩
  have z2 : W1.heap.size ≤ W2.heap.size := b2.size
  have B2 : Hid (Below w.heap.size w W2) := B1.out.trans (b2.mono B1.out.size)
  have r_a2 : Hid (W2.heap[w.heap.size]? = some (.cells #[.int .i64 k, .int .i64 f, .int .i64 t, .int .i64 h.n, .string h.r, .int .i64 n, .slice ao0 x.length cap0] 28 (0, 0))) := rowKeep r_a1.out b2
  have r_b2 : Hid (W2.heap[w.heap.size + 1]? = some (.cells #[.int .i64 k, .int .i64 f, .int .i64 t, .int .i64 h.n, .string h.r, .int .i64 n, .slice ao1 x.length cap1] 28 (0, 0))) := rowKeep r_b1.out b2
  have c_a2_0 : W2.cell? ⟨w.heap.size, 0, none⟩ = some (.int .i64 k) := row_at r_a2.out 0
  have c_a2_1 : W2.cell? ⟨w.heap.size, 1, none⟩ = some (.int .i64 f) := row_at r_a2.out 1
  have c_a2_2 : W2.cell? ⟨w.heap.size, 2, none⟩ = some (.int .i64 t) := row_at r_a2.out 2
  have c_a2_3 : W2.cell? ⟨w.heap.size, 3, none⟩ = some (.int .i64 h.n) := row_at r_a2.out 3
  have c_a2_4 : W2.cell? ⟨w.heap.size, 4, none⟩ = some (.string h.r) := row_at r_a2.out 4
  have c_a2_5 : W2.cell? ⟨w.heap.size, 5, none⟩ = some (.int .i64 n) := row_at r_a2.out 5
  have c_a2_6 : W2.cell? ⟨w.heap.size, 6, none⟩ = some (.slice ao0 x.length cap0) := row_at r_a2.out 6
  have c_b2_0 : W2.cell? ⟨w.heap.size + 1, 0, none⟩ = some (.int .i64 k) := row_at r_b2.out 0
  have c_b2_1 : W2.cell? ⟨w.heap.size + 1, 1, none⟩ = some (.int .i64 f) := row_at r_b2.out 1
  have c_b2_2 : W2.cell? ⟨w.heap.size + 1, 2, none⟩ = some (.int .i64 t) := row_at r_b2.out 2
  have c_b2_3 : W2.cell? ⟨w.heap.size + 1, 3, none⟩ = some (.int .i64 h.n) := row_at r_b2.out 3
  have c_b2_4 : W2.cell? ⟨w.heap.size + 1, 4, none⟩ = some (.string h.r) := row_at r_b2.out 4
  have c_b2_5 : W2.cell? ⟨w.heap.size + 1, 5, none⟩ = some (.int .i64 n) := row_at r_b2.out 5
  have c_b2_6 : W2.cell? ⟨w.heap.size + 1, 6, none⟩ = some (.slice ao1 x.length cap1) := row_at r_b2.out 6
  clear r_a1 c_a1_0 c_a1_1 c_a1_2 c_a1_3 c_a1_4 c_a1_5 c_a1_6 r_b1 c_b1_0 c_b1_1 c_b1_2 c_b1_3 c_b1_4 c_b1_5 c_b1_6
  go_wp2_with fail
  refine (q2 W2 _ _ (HS1.out.later B2.out) (HS2.out.later B2.out)).mono ?_
  rintro e W3 ⟨rfl, h3, _⟩
  have b3 : Below W2.heap.size W2 W3 := h3 _
  clear h3
  have z3 : W2.heap.size ≤ W3.heap.size := b3.size
  have B3 : Hid (Below w.heap.size w W3) := B2.out.trans (b3.mono B2.out.size)
  have r_a3 : Hid (W3.heap[w.heap.size]? = some (.cells #[.int .i64 k, .int .i64 f, .int .i64 t, .int .i64 h.n, .string h.r, .int .i64 n, .slice ao0 x.length cap0] 28 (0, 0))) := rowKeep r_a2.out b3
  have r_b3 : Hid (W3.heap[w.heap.size + 1]? = some (.cells #[.int .i64 k, .int .i64 f, .int .i64 t, .int .i64 h.n, .string h.r, .int .i64 n, .slice ao1 x.length cap1] 28 (0, 0))) := rowKeep r_b2.out b3
  have c_a3_0 : W3.cell? ⟨w.heap.size, 0, none⟩ = some (.int .i64 k) := row_at r_a3.out 0
  have c_a3_1 : W3.cell? ⟨w.heap.size, 1, none⟩ = some (.int .i64 f) := row_at r_a3.out 1
  have c_a3_2 : W3.cell? ⟨w.heap.size, 2, none⟩ = some (.int .i64 t) := row_at r_a3.out 2
  have c_a3_3 : W3.cell? ⟨w.heap.size, 3, none⟩ = some (.int .i64 h.n) := row_at r_a3.out 3
  have c_a3_4 : W3.cell? ⟨w.heap.size, 4, none⟩ = some (.string h.r) := row_at r_a3.out 4
  have c_a3_5 : W3.cell? ⟨w.heap.size, 5, none⟩ = some (.int .i64 n) := row_at r_a3.out 5
  have c_a3_6 : W3.cell? ⟨w.heap.size, 6, none⟩ = some (.slice ao0 x.length cap0) := row_at r_a3.out 6
  have c_b3_0 : W3.cell? ⟨w.heap.size + 1, 0, none⟩ = some (.int .i64 k) := row_at r_b3.out 0
  have c_b3_1 : W3.cell? ⟨w.heap.size + 1, 1, none⟩ = some (.int .i64 f) := row_at r_b3.out 1
  have c_b3_2 : W3.cell? ⟨w.heap.size + 1, 2, none⟩ = some (.int .i64 t) := row_at r_b3.out 2
  have c_b3_3 : W3.cell? ⟨w.heap.size + 1, 3, none⟩ = some (.int .i64 h.n) := row_at r_b3.out 3
  have c_b3_4 : W3.cell? ⟨w.heap.size + 1, 4, none⟩ = some (.string h.r) := row_at r_b3.out 4
  have c_b3_5 : W3.cell? ⟨w.heap.size + 1, 5, none⟩ = some (.int .i64 n) := row_at r_b3.out 5
  have c_b3_6 : W3.cell? ⟨w.heap.size + 1, 6, none⟩ = some (.slice ao1 x.length cap1) := row_at r_b3.out 6
  clear r_a2 c_a2_0 c_a2_1 c_a2_2 c_a2_3 c_a2_4 c_a2_5 c_a2_6 r_b2 c_b2_0 c_b2_1 c_b2_2 c_b2_3 c_b2_4 c_b2_5 c_b2_6
  go_wp2
  go_ret
  exact ⟨rfl, B3.out⟩

set_option maxRecDepth 1000000 in
set_option maxHeartbeats 2000000 in
theorem mark_msg (w : World) (m0 : Ms) (v : Value) (lo hi : Nat) (hs : List ByteArray) (k0 : Nat) (h : Own w lo hi 9 v (ss hs)) (hhi : hi ≤ w.heap.size) (hx : hs.length ≤ 1000000000) (hk1 : 1 ≤ k0) (hk0 : k0 ≤ 1000000000) :
    Calls Try.prog 21 #[.agg #[.int .i64 m0.k, .int .i64 m0.f, .int .i64 m0.t, .int .i64 m0.h.n, .string m0.h.r, .int .i64 m0.n, v], .int .i64 (k0 : Int)] w fun e w' => e = .returned (.int .i64 ((k0 + hs.length : Nat) : Int)) ∧ Own w' lo hi 9 v (ss (Strs.mts k0 hs.length)) ∧ Apart lo hi w w' := by
  have hb : Below w.heap.size w (w.alloc (.cells #[.int .i64 m0.k, .int .i64 m0.f, .int .i64 m0.t, .int .i64 m0.h.n, .string m0.h.r, .int .i64 m0.n, v] 28)) := (Below.refl _ _).alloc (Nat.le_refl _) _
  have q := Strs.marks_any (w.alloc (.cells #[.int .i64 m0.k, .int .i64 m0.f, .int .i64 m0.t, .int .i64 m0.h.n, .string m0.h.r, .int .i64 m0.n, v] 28)) v lo hi hs k0 (h.later hb hhi) (Nat.le_trans hhi hb.size) (by omega) hk1 (by omega)
  have HA : Hid (Apart lo hi w (w.alloc (.cells #[.int .i64 m0.k, .int .i64 m0.f, .int .i64 m0.t, .int .i64 m0.h.n, .string m0.h.r, .int .i64 m0.n, v] 28))) := (Apart.refl lo hi w).grow hb
  obtain ⟨ao, L, cap, rfl, _, _⟩ := h.form
  obtain ⟨m, hm⟩ : ∃ m : Int, ((k0 + hs.length : Nat) : Int) = m := ⟨_, rfl⟩
  rw [hm] at q ⊢
  clear h hb hm
  go_enter Try.func21, Try.ntmps21
  go_wp2_with fail
  refine q.mono ?_
  rintro e w1 ⟨rfl, o1, a1⟩
  have HO : Hid _ := o1
  have HA2 : Hid (Apart lo hi w w1) := HA.out.trans a1
  clear q o1 a1 HA
  go_wp2
  go_ret
  exact ⟨rfl, HO.out, HA2.out⟩

set_option maxRecDepth 1000000 in
set_option maxHeartbeats 2000000 in
theorem held_msg (w : World) (m0 : Ms) (v : Value) (m k0 : Nat) (h : Sl w v (ss (Strs.mts k0 m))) (hx : m ≤ 1000000000) (hk1 : 1 ≤ k0) (hk0 : k0 ≤ 1000000000) :
    Calls Try.prog 25 #[.agg #[.int .i64 m0.k, .int .i64 m0.f, .int .i64 m0.t, .int .i64 m0.h.n, .string m0.h.r, .int .i64 m0.n, v], .int .i64 (k0 : Int)] w fun e w' => e = .returned (.int .i64 ((k0 + m : Nat) : Int)) ∧ Below w.heap.size w w' := by
  have HB : Hid (Below w.heap.size w (w.alloc (.cells #[.int .i64 m0.k, .int .i64 m0.f, .int .i64 m0.t, .int .i64 m0.h.n, .string m0.h.r, .int .i64 m0.n, v] 28))) := (Below.refl _ _).alloc (Nat.le_refl _) _
  have q := Strs.helds_any (w.alloc (.cells #[.int .i64 m0.k, .int .i64 m0.f, .int .i64 m0.t, .int .i64 m0.h.n, .string m0.h.r, .int .i64 m0.n, v] 28)) v m k0 (h.later HB.out) (by omega) hk1 (by omega)
  obtain ⟨ao, cap, rfl, _⟩ := h.form
  obtain ⟨r, hr⟩ : ∃ r : Int, ((k0 + m : Nat) : Int) = r := ⟨_, rfl⟩
  have hr0 : ¬ r < 0 := by omega
  rw [hr] at q ⊢
  clear hr
  go_enter Try.func25, Try.ntmps25
  go_wp2_with fail
  refine q.mono ?_
  rintro e w1 ⟨rfl, b1⟩
  have HB1 : Hid (Below w.heap.size w w1) := HB.out.trans (b1.mono HB.out.size)
  clear q b1 HB
  go_wp2
  go_ret
  exact ⟨rfl, HB1.out⟩

end Go.Proofs.Yteemblfjghnooaa.Mg
