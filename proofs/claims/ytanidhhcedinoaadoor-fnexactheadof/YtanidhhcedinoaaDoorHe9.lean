/- Chapter 10: the exact law of HeadOf, over the landed function's contract. -/
import Derived.Test.YtanidhhcedinoaaDoorHeO
import Derived.Test.YtanidhhcedinoaaDoorTrX
namespace Go.Proofs.YtanidhhcedinoaaDoor.He
open Go.RowKit Go.Proofs.YtanidhhcedinoaaDoor.Mem Go.Proofs.YtanidhhcedinoaaDoor.Laws Go.Proofs.YtanidhhcedinoaaDoor.Bytes Go.Proofs.YtanidhhcedinoaaDoor.Sha Go.Proofs.YtanidhhcedinoaaDoor.Tr
set_option linter.unusedVariables false
set_option linter.unusedSimpArgs false

set_option maxRecDepth 1000000 in
set_option maxHeartbeats 4000000 in
theorem exact_headof (w : World) (v0 : Value) (l0 : List ByteArray) (h0 : Sl w v0 (ss l0)) (y0 : ∀ s ∈ l0, s.size ≤ maxLen) (m0 : l0.length ≤ maxLen)
    (iF : ∀ W v', Below w.heap.size w W → Sl W v' (ss l0) → l0.length ≤ 1048576 → (∀ s ∈ l0, s.size ≤ 1048576) → Calls Tryd.prog 7 #[v'] W fun e w' => e = .returned (.agg #[.int .i64 (headOf l0).n, .string (headOf l0).r]) ∧ Below W.heap.size W w') :
    Calls Tryd.prog 3 #[v0] w fun e w' => e = .returned (.bool true) ∧ Below w.heap.size w w' := by
  unfold maxLen at *
  have B0 : Hid (Below w.heap.size w w) := Below.refl _ _
  have hsz := Strs.sz_any w v0 l0 1048576 h0 y0 m0 (by omega)
  have HS : Hid (Sl w v0 (ss l0)) := h0
  obtain ⟨ao0, cap0, rfl, -, -, -⟩ := h0
  rw [ss_len] at *
  go_enter Tryd.func3, Tryd.ntmps3
  go_wp2_with fail
  refine hsz.mono ?_
  rintro e WX ⟨⟨r, rfl, hr⟩, hWX⟩
  subst hWX
  clear hsz
  rcases hr with hr | ⟨hfit, hr⟩
  · go_wp2
    go_ret
    exact ⟨rfl, Below.refl _ _⟩
  have hl : l0.length ≤ 1048576 := by omega
  have hz : ∀ s ∈ l0, s.size ≤ 1048576 := fun s hs => by have := mem_tot hs; omega
  have q2 : ∀ W v', Below w.heap.size w W → Sl W v' (ss l0) → _ := fun W v' hW hv => iF W v' hW hv hl hz
  have q1 : ∀ W v', Sl W v' (ss l0) → _ := fun W v' hv => headOf_spec W v' l0 hv (by omega) (fun s hs => by have := hz s hs; omega)
  obtain ⟨M, hM⟩ : ∃ M, headOf l0 = M := ⟨_, rfl⟩
  simp only [hM] at q1 q2
  clear hM hz iF hfit y0
  go_wp2_with fail
  refine (Strs.to_s w _ l0 (HS.out.later B0.out) (by omega)).mono ?_
  rintro e W1 ⟨v_t, rfl, o_t1, b1⟩
  obtain ⟨ao_t, L_t, cap_t, rfl, hL_t, hM_t⟩ := o_t1.form
  have o_t1 : Hid (Own W1 w.heap.size W1.heap.size 9 (.slice ao_t L_t cap_t) (ss l0)) := o_t1
  clear hL_t hM_t
  have z1 : w.heap.size ≤ W1.heap.size := b1.size
  have B1 : Hid (Below w.heap.size w W1) := B0.out.trans (b1.mono B0.out.size)
  go_wp2_with fail
  refine (q1 W1 _ o_t1.out.sl).mono ?_
  rintro e W2 ⟨rfl, b2⟩
  have z2 : W1.heap.size ≤ W2.heap.size := b2.size
  have B2 : Hid (Below w.heap.size w W2) := B1.out.trans (b2.mono B1.out.size)
  have o_t2 : Hid (Own W2 (w.heap.size) (W1.heap.size) 9 (.slice ao_t L_t cap_t) (ss l0)) := Own.later o_t1.out b2 (by omega)
  clear o_t1
  clear o_t2
  obtain ⟨W3, HW3, b3, y3, r_w03⟩ : ∃ X, Hid ((W2.alloc (.cells #[.int .i64 M.n, .string M.r] 25)) = X) ∧ Below W2.heap.size W2 X ∧ W2.heap.size + 1 ≤ X.heap.size ∧ Hid (X.heap[W2.heap.size]? = some (.cells #[.int .i64 M.n, .string M.r] 25 (0, 0))) := ⟨_, rfl, (Below.refl _ _).alloc (Nat.le_refl _) _, by simp, heap_alloc_new _ _⟩
  have z3 : W2.heap.size ≤ W3.heap.size := b3.size
  have B3 : Hid (Below w.heap.size w W3) := B2.out.trans (b3.mono B2.out.size)
  have c_w03_0 : W3.cell? ⟨W2.heap.size, 0, none⟩ = some (.int .i64 M.n) := row_at r_w03.out 0
  have a_w03_0 : ∀ o, (W3.alloc o).cell? ⟨W2.heap.size, 0, none⟩ = some (.int .i64 M.n) := fun o => keepR c_w03_0 ((Below.refl _ _).alloc (Nat.le_refl _) o)
  have c_w03_1 : W3.cell? ⟨W2.heap.size, 1, none⟩ = some (.string M.r) := row_at r_w03.out 1
  have a_w03_1 : ∀ o, (W3.alloc o).cell? ⟨W2.heap.size, 1, none⟩ = some (.string M.r) := fun o => keepR c_w03_1 ((Below.refl _ _).alloc (Nat.le_refl _) o)
  go_wp2_with fail
  rw [HW3.out]
  refine (Strs.to_s W3 _ l0 (HS.out.later B3.out) (by omega)).mono ?_
  rintro e W4 ⟨v_x, rfl, o_x4, b4⟩
  obtain ⟨ao_x, L_x, cap_x, rfl, hL_x, hM_x⟩ := o_x4.form
  have o_x4 : Hid (Own W4 W3.heap.size W4.heap.size 9 (.slice ao_x L_x cap_x) (ss l0)) := o_x4
  clear hL_x hM_x
  have z4 : W3.heap.size ≤ W4.heap.size := b4.size
  have B4 : Hid (Below w.heap.size w W4) := B3.out.trans (b4.mono B3.out.size)
  have r_w04 : Hid (W4.heap[W2.heap.size]? = some (.cells #[.int .i64 M.n, .string M.r] 25 (0, 0))) := rowKeep r_w03.out b4
  have c_w04_0 : W4.cell? ⟨W2.heap.size, 0, none⟩ = some (.int .i64 M.n) := row_at r_w04.out 0
  have a_w04_0 : ∀ o, (W4.alloc o).cell? ⟨W2.heap.size, 0, none⟩ = some (.int .i64 M.n) := fun o => keepR c_w04_0 ((Below.refl _ _).alloc (Nat.le_refl _) o)
  have c_w04_1 : W4.cell? ⟨W2.heap.size, 1, none⟩ = some (.string M.r) := row_at r_w04.out 1
  have a_w04_1 : ∀ o, (W4.alloc o).cell? ⟨W2.heap.size, 1, none⟩ = some (.string M.r) := fun o => keepR c_w04_1 ((Below.refl _ _).alloc (Nat.le_refl _) o)
  clear r_w03 c_w03_0 c_w03_1 a_w03_0 a_w03_1
  go_wp2_with fail
  refine (q2 W4 _ B4.out o_x4.out.sl).mono ?_
  rintro e W5 ⟨rfl, b5⟩
  have z5 : W4.heap.size ≤ W5.heap.size := b5.size
  have B5 : Hid (Below w.heap.size w W5) := B4.out.trans (b5.mono B4.out.size)
  have r_w05 : Hid (W5.heap[W2.heap.size]? = some (.cells #[.int .i64 M.n, .string M.r] 25 (0, 0))) := rowKeep r_w04.out b5
  have o_x5 : Hid (Own W5 (W3.heap.size) (W4.heap.size) 9 (.slice ao_x L_x cap_x) (ss l0)) := Own.later o_x4.out b5 (by omega)
  have c_w05_0 : W5.cell? ⟨W2.heap.size, 0, none⟩ = some (.int .i64 M.n) := row_at r_w05.out 0
  have a_w05_0 : ∀ o, (W5.alloc o).cell? ⟨W2.heap.size, 0, none⟩ = some (.int .i64 M.n) := fun o => keepR c_w05_0 ((Below.refl _ _).alloc (Nat.le_refl _) o)
  have c_w05_1 : W5.cell? ⟨W2.heap.size, 1, none⟩ = some (.string M.r) := row_at r_w05.out 1
  have a_w05_1 : ∀ o, (W5.alloc o).cell? ⟨W2.heap.size, 1, none⟩ = some (.string M.r) := fun o => keepR c_w05_1 ((Below.refl _ _).alloc (Nat.le_refl _) o)
  clear r_w04 c_w04_0 c_w04_1 a_w04_0 a_w04_1 o_x4
  obtain ⟨W6, HW6, b6, y6, r_g06⟩ : ∃ X, Hid ((W5.alloc (.cells #[.int .i64 M.n, .string M.r] 25)) = X) ∧ Below W5.heap.size W5 X ∧ W5.heap.size + 1 ≤ X.heap.size ∧ Hid (X.heap[W5.heap.size]? = some (.cells #[.int .i64 M.n, .string M.r] 25 (0, 0))) := ⟨_, rfl, (Below.refl _ _).alloc (Nat.le_refl _) _, by simp, heap_alloc_new _ _⟩
  have z6 : W5.heap.size ≤ W6.heap.size := b6.size
  have B6 : Hid (Below w.heap.size w W6) := B5.out.trans (b6.mono B5.out.size)
  have r_w06 : Hid (W6.heap[W2.heap.size]? = some (.cells #[.int .i64 M.n, .string M.r] 25 (0, 0))) := rowKeep r_w05.out b6
  have o_x6 : Hid (Own W6 (W3.heap.size) (W4.heap.size) 9 (.slice ao_x L_x cap_x) (ss l0)) := Own.later o_x5.out b6 (by omega)
  have c_w06_0 : W6.cell? ⟨W2.heap.size, 0, none⟩ = some (.int .i64 M.n) := row_at r_w06.out 0
  have a_w06_0 : ∀ o, (W6.alloc o).cell? ⟨W2.heap.size, 0, none⟩ = some (.int .i64 M.n) := fun o => keepR c_w06_0 ((Below.refl _ _).alloc (Nat.le_refl _) o)
  have c_w06_1 : W6.cell? ⟨W2.heap.size, 1, none⟩ = some (.string M.r) := row_at r_w06.out 1
  have a_w06_1 : ∀ o, (W6.alloc o).cell? ⟨W2.heap.size, 1, none⟩ = some (.string M.r) := fun o => keepR c_w06_1 ((Below.refl _ _).alloc (Nat.le_refl _) o)
  have c_g06_0 : W6.cell? ⟨W5.heap.size, 0, none⟩ = some (.int .i64 M.n) := row_at r_g06.out 0
  have a_g06_0 : ∀ o, (W6.alloc o).cell? ⟨W5.heap.size, 0, none⟩ = some (.int .i64 M.n) := fun o => keepR c_g06_0 ((Below.refl _ _).alloc (Nat.le_refl _) o)
  have c_g06_1 : W6.cell? ⟨W5.heap.size, 1, none⟩ = some (.string M.r) := row_at r_g06.out 1
  have a_g06_1 : ∀ o, (W6.alloc o).cell? ⟨W5.heap.size, 1, none⟩ = some (.string M.r) := fun o => keepR c_g06_1 ((Below.refl _ _).alloc (Nat.le_refl _) o)
  clear r_w05 c_w05_0 c_w05_1 o_x5
  go_wp2_with fail
  rw [HW6.out]
  clear a_w05_0 a_w05_1
  refine (eq_head W6 M).mono ?_
  rintro e W7 ⟨rfl, b7⟩
  have z7 : W6.heap.size ≤ W7.heap.size := b7.size
  have B7 : Hid (Below w.heap.size w W7) := B6.out.trans (b7.mono B6.out.size)
  have r_w07 : Hid (W7.heap[W2.heap.size]? = some (.cells #[.int .i64 M.n, .string M.r] 25 (0, 0))) := rowKeep r_w06.out b7
  have r_g07 : Hid (W7.heap[W5.heap.size]? = some (.cells #[.int .i64 M.n, .string M.r] 25 (0, 0))) := rowKeep r_g06.out b7
  have o_x7 : Hid (Own W7 (W3.heap.size) (W4.heap.size) 9 (.slice ao_x L_x cap_x) (ss l0)) := Own.later o_x6.out b7 (by omega)
  have c_w07_0 : W7.cell? ⟨W2.heap.size, 0, none⟩ = some (.int .i64 M.n) := row_at r_w07.out 0
  have a_w07_0 : ∀ o, (W7.alloc o).cell? ⟨W2.heap.size, 0, none⟩ = some (.int .i64 M.n) := fun o => keepR c_w07_0 ((Below.refl _ _).alloc (Nat.le_refl _) o)
  have c_w07_1 : W7.cell? ⟨W2.heap.size, 1, none⟩ = some (.string M.r) := row_at r_w07.out 1
  have a_w07_1 : ∀ o, (W7.alloc o).cell? ⟨W2.heap.size, 1, none⟩ = some (.string M.r) := fun o => keepR c_w07_1 ((Below.refl _ _).alloc (Nat.le_refl _) o)
  have c_g07_0 : W7.cell? ⟨W5.heap.size, 0, none⟩ = some (.int .i64 M.n) := row_at r_g07.out 0
  have a_g07_0 : ∀ o, (W7.alloc o).cell? ⟨W5.heap.size, 0, none⟩ = some (.int .i64 M.n) := fun o => keepR c_g07_0 ((Below.refl _ _).alloc (Nat.le_refl _) o)
  have c_g07_1 : W7.cell? ⟨W5.heap.size, 1, none⟩ = some (.string M.r) := row_at r_g07.out 1
  have a_g07_1 : ∀ o, (W7.alloc o).cell? ⟨W5.heap.size, 1, none⟩ = some (.string M.r) := fun o => keepR c_g07_1 ((Below.refl _ _).alloc (Nat.le_refl _) o)
  clear r_w06 c_w06_0 c_w06_1 a_w06_0 a_w06_1 r_g06 c_g06_0 c_g06_1 a_g06_0 a_g06_1 o_x6
  go_wp2_with fail
  refine (Strs.to_s W7 _ l0 (HS.out.later B7.out) (by omega)).mono ?_
  rintro e W8 ⟨v_u, rfl, o_u8, b8⟩
  obtain ⟨ao_u, L_u, cap_u, rfl, hL_u, hM_u⟩ := o_u8.form
  have o_u8 : Hid (Own W8 W7.heap.size W8.heap.size 9 (.slice ao_u L_u cap_u) (ss l0)) := o_u8
  clear hL_u hM_u
  have z8 : W7.heap.size ≤ W8.heap.size := b8.size
  have B8 : Hid (Below w.heap.size w W8) := B7.out.trans (b8.mono B7.out.size)
  have r_w08 : Hid (W8.heap[W2.heap.size]? = some (.cells #[.int .i64 M.n, .string M.r] 25 (0, 0))) := rowKeep r_w07.out b8
  have r_g08 : Hid (W8.heap[W5.heap.size]? = some (.cells #[.int .i64 M.n, .string M.r] 25 (0, 0))) := rowKeep r_g07.out b8
  have o_x8 : Hid (Own W8 (W3.heap.size) (W4.heap.size) 9 (.slice ao_x L_x cap_x) (ss l0)) := Own.later o_x7.out b8 (by omega)
  have c_w08_0 : W8.cell? ⟨W2.heap.size, 0, none⟩ = some (.int .i64 M.n) := row_at r_w08.out 0
  have a_w08_0 : ∀ o, (W8.alloc o).cell? ⟨W2.heap.size, 0, none⟩ = some (.int .i64 M.n) := fun o => keepR c_w08_0 ((Below.refl _ _).alloc (Nat.le_refl _) o)
  have c_w08_1 : W8.cell? ⟨W2.heap.size, 1, none⟩ = some (.string M.r) := row_at r_w08.out 1
  have a_w08_1 : ∀ o, (W8.alloc o).cell? ⟨W2.heap.size, 1, none⟩ = some (.string M.r) := fun o => keepR c_w08_1 ((Below.refl _ _).alloc (Nat.le_refl _) o)
  have c_g08_0 : W8.cell? ⟨W5.heap.size, 0, none⟩ = some (.int .i64 M.n) := row_at r_g08.out 0
  have a_g08_0 : ∀ o, (W8.alloc o).cell? ⟨W5.heap.size, 0, none⟩ = some (.int .i64 M.n) := fun o => keepR c_g08_0 ((Below.refl _ _).alloc (Nat.le_refl _) o)
  have c_g08_1 : W8.cell? ⟨W5.heap.size, 1, none⟩ = some (.string M.r) := row_at r_g08.out 1
  have a_g08_1 : ∀ o, (W8.alloc o).cell? ⟨W5.heap.size, 1, none⟩ = some (.string M.r) := fun o => keepR c_g08_1 ((Below.refl _ _).alloc (Nat.le_refl _) o)
  clear r_w07 c_w07_0 c_w07_1 a_w07_0 a_w07_1 r_g07 c_g07_0 c_g07_1 a_g07_0 a_g07_1 o_x7
  go_wp2_with fail
  refine (Strs.eqs_true W8 _ _ l0 o_x8.out.sl o_u8.out.sl (by omega)).mono ?_
  rintro e W9 ⟨rfl, h9, _⟩
  have b9 : Below W8.heap.size W8 W9 := h9 _
  clear h9
  have z9 : W8.heap.size ≤ W9.heap.size := b9.size
  have B9 : Hid (Below w.heap.size w W9) := B8.out.trans (b9.mono B8.out.size)
  have r_w09 : Hid (W9.heap[W2.heap.size]? = some (.cells #[.int .i64 M.n, .string M.r] 25 (0, 0))) := rowKeep r_w08.out b9
  have r_g09 : Hid (W9.heap[W5.heap.size]? = some (.cells #[.int .i64 M.n, .string M.r] 25 (0, 0))) := rowKeep r_g08.out b9
  have o_x9 : Hid (Own W9 (W3.heap.size) (W4.heap.size) 9 (.slice ao_x L_x cap_x) (ss l0)) := Own.later o_x8.out b9 (by omega)
  have o_u9 : Hid (Own W9 (W7.heap.size) (W8.heap.size) 9 (.slice ao_u L_u cap_u) (ss l0)) := Own.later o_u8.out b9 (by omega)
  have c_w09_0 : W9.cell? ⟨W2.heap.size, 0, none⟩ = some (.int .i64 M.n) := row_at r_w09.out 0
  have a_w09_0 : ∀ o, (W9.alloc o).cell? ⟨W2.heap.size, 0, none⟩ = some (.int .i64 M.n) := fun o => keepR c_w09_0 ((Below.refl _ _).alloc (Nat.le_refl _) o)
  have c_w09_1 : W9.cell? ⟨W2.heap.size, 1, none⟩ = some (.string M.r) := row_at r_w09.out 1
  have a_w09_1 : ∀ o, (W9.alloc o).cell? ⟨W2.heap.size, 1, none⟩ = some (.string M.r) := fun o => keepR c_w09_1 ((Below.refl _ _).alloc (Nat.le_refl _) o)
  have c_g09_0 : W9.cell? ⟨W5.heap.size, 0, none⟩ = some (.int .i64 M.n) := row_at r_g09.out 0
  have a_g09_0 : ∀ o, (W9.alloc o).cell? ⟨W5.heap.size, 0, none⟩ = some (.int .i64 M.n) := fun o => keepR c_g09_0 ((Below.refl _ _).alloc (Nat.le_refl _) o)
  have c_g09_1 : W9.cell? ⟨W5.heap.size, 1, none⟩ = some (.string M.r) := row_at r_g09.out 1
  have a_g09_1 : ∀ o, (W9.alloc o).cell? ⟨W5.heap.size, 1, none⟩ = some (.string M.r) := fun o => keepR c_g09_1 ((Below.refl _ _).alloc (Nat.le_refl _) o)
  clear r_w08 c_w08_0 c_w08_1 a_w08_0 a_w08_1 r_g08 c_g08_0 c_g08_1 a_g08_0 a_g08_1 o_x8 o_u8
  go_wp2
  go_ret
  exact ⟨rfl, B9.out⟩

end Go.Proofs.YtanidhhcedinoaaDoor.He
