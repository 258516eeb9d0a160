/- Chapter 10: the exact laws, over contracts of the landed functions. -/
import Derived.Test.YtanidhhcedinoaaHe4
import Derived.Test.YtanidhhcedinoaaStrs
import Derived.Test.YtanidhhcedinoaaTrX
namespace Go.Proofs.Ytanidhhcedinoaa.He
open Go.RowKit Go.Proofs.Ytanidhhcedinoaa.Mem Go.Proofs.Ytanidhhcedinoaa.Laws Go.Proofs.Ytanidhhcedinoaa.Bytes Go.Proofs.Ytanidhhcedinoaa.Sha Go.Proofs.Ytanidhhcedinoaa.Tr
set_option linter.unusedVariables false
set_option linter.unusedSimpArgs false

set_option maxRecDepth 1000000 in
set_option maxHeartbeats 4000000 in
theorem exact_headok (w : World) (h : Hd) (hm : h.r.size ≤ maxLen)
    (iF : ∀ W, Below w.heap.size w W → h.r.size ≤ 1048576 → Calls Try.prog 12 #[.agg #[.int .i64 h.n, .string h.r]] W fun e w' => e = .returned (.bool (okH h)) ∧ Below W.heap.size W w') :
    Calls Try.prog 4 #[.agg #[.int .i64 h.n, .string h.r]] w fun e w' => e = .returned (.bool true) ∧ Below w.heap.size w w' := by
  unfold maxLen at hm
  have B0 : Hid (Below w.heap.size w w) := Below.refl _ _
  obtain ⟨W1, HW1, b1, y1, r_a1⟩ : ∃ X, Hid ((w.alloc (.cells #[.int .i64 h.n, .string h.r] 33)) = X) ∧ Below w.heap.size w X ∧ w.heap.size + 1 ≤ X.heap.size ∧ Hid (X.heap[w.heap.size]? = some (.cells #[.int .i64 h.n, .string h.r] 33 (0, 0))) := ⟨_, rfl, (Below.refl _ _).alloc (Nat.le_refl _) _, by simp, heap_alloc_new _ _⟩
  have z1 : w.heap.size ≤ W1.heap.size := b1.size
  have B1 : Hid (Below w.heap.size w W1) := B0.out.trans (b1.mono B0.out.size)
  have c_a1_0 : W1.cell? ⟨w.heap.size, 0, none⟩ = some (.int .i64 h.n) := row_at r_a1.out 0
  have a_a1_0 : ∀ o, (W1.alloc o).cell? ⟨w.heap.size, 0, none⟩ = some (.int .i64 h.n) := fun o => keepR c_a1_0 ((Below.refl _ _).alloc (Nat.le_refl _) o)
  have c_a1_1 : W1.cell? ⟨w.heap.size, 1, none⟩ = some (.string h.r) := row_at r_a1.out 1
  have a_a1_1 : ∀ o, (W1.alloc o).cell? ⟨w.heap.size, 1, none⟩ = some (.string h.r) := fun o => keepR c_a1_1 ((Below.refl _ _).alloc (Nat.le_refl _) o)
  have q0 : ∀ W, _ := fun W => sz_head W h 1048576 hm (by omega) (by omega)
  by_cases hb : (1048576 : Int) - (h.r.size : Int) < 0
  · simp only [if_pos hb] at q0
    clear iF
    go_enter Try.func4, Try.ntmps4
    go_wp2_with fail
    rw [HW1.out]
    refine (q0 _).mono ?_
    rintro e W2 ⟨rfl, b2⟩
    have B2 : Below w.heap.size w W2 := B1.out.trans (b2.mono B1.out.size)
    go_wp2
    go_ret
    exact ⟨rfl, B2⟩
  simp only [if_neg hb] at q0
  have hz : h.r.size ≤ 1048576 := by omega
  have q2 : ∀ W, Below w.heap.size w W → _ := fun W hW => iF W hW hz
  have q1 : ∀ W, _ := fun W => ok_spec W h
  obtain ⟨t, ht⟩ : ∃ t, okH h = t := ⟨_, rfl⟩
  simp only [ht] at q1 q2
  have nok : (t != t) = false := by simp
  have hr0 : ¬ (1048576 : Int) - (h.r.size : Int) < 0 := hb
  clear ht iF hm
  go_enter Try.func4, Try.ntmps4
  go_wp2_with fail
  rw [HW1.out]
  refine (q0 W1).mono ?_
  rintro e W2 ⟨rfl, b2⟩
  have z2 : W1.heap.size ≤ W2.heap.size := b2.size
  have B2 : Hid (Below w.heap.size w W2) := B1.out.trans (b2.mono B1.out.size)
  have r_a2 : Hid (W2.heap[w.heap.size]? = some (.cells #[.int .i64 h.n, .string h.r] 33 (0, 0))) := rowKeep r_a1.out b2
  have c_a2_0 : W2.cell? ⟨w.heap.size, 0, none⟩ = some (.int .i64 h.n) := row_at r_a2.out 0
  have a_a2_0 : ∀ o, (W2.alloc o).cell? ⟨w.heap.size, 0, none⟩ = some (.int .i64 h.n) := fun o => keepR c_a2_0 ((Below.refl _ _).alloc (Nat.le_refl _) o)
  have c_a2_1 : W2.cell? ⟨w.heap.size, 1, none⟩ = some (.string h.r) := row_at r_a2.out 1
  have a_a2_1 : ∀ o, (W2.alloc o).cell? ⟨w.heap.size, 1, none⟩ = some (.string h.r) := fun o => keepR c_a2_1 ((Below.refl _ _).alloc (Nat.le_refl _) o)
  clear r_a1 c_a1_0 c_a1_1 a_a1_0 a_a1_1
  go_wp2_with fail
  refine (to_head W2 h).mono ?_
  rintro e W3 ⟨rfl, b3⟩
  have z3 : W2.heap.size ≤ W3.heap.size := b3.size
  have B3 : Hid (Below w.heap.size w W3) := B2.out.trans (b3.mono B2.out.size)
  have r_a3 : Hid (W3.heap[w.heap.size]? = some (.cells #[.int .i64 h.n, .string h.r] 33 (0, 0))) := rowKeep r_a2.out b3
  have c_a3_0 : W3.cell? ⟨w.heap.size, 0, none⟩ = some (.int .i64 h.n) := row_at r_a3.out 0
  have a_a3_0 : ∀ o, (W3.alloc o).cell? ⟨w.heap.size, 0, none⟩ = some (.int .i64 h.n) := fun o => keepR c_a3_0 ((Below.refl _ _).alloc (Nat.le_refl _) o)
  have c_a3_1 : W3.cell? ⟨w.heap.size, 1, none⟩ = some (.string h.r) := row_at r_a3.out 1
  have a_a3_1 : ∀ o, (W3.alloc o).cell? ⟨w.heap.size, 1, none⟩ = some (.string h.r) := fun o => keepR c_a3_1 ((Below.refl _ _).alloc (Nat.le_refl _) o)
  clear r_a2 c_a2_0 c_a2_1 a_a2_0 a_a2_1
  go_wp2_with fail
  refine (q1 W3).mono ?_
  rintro e W4 ⟨rfl, b4⟩
  have z4 : W3.heap.size ≤ W4.heap.size := b4.size
  have B4 : Hid (Below w.heap.size w W4) := B3.out.trans (b4.mono B3.out.size)
  have r_a4 : Hid (W4.heap[w.heap.size]? = some (.cells #[.int .i64 h.n, .string h.r] 33 (0, 0))) := rowKeep r_a3.out b4
  have c_a4_0 : W4.cell? ⟨w.heap.size, 0, none⟩ = some (.int .i64 h.n) := row_at r_a4.out 0
  have a_a4_0 : ∀ o, (W4.alloc o).cell? ⟨w.heap.size, 0, none⟩ = some (.int .i64 h.n) := fun o => keepR c_a4_0 ((Below.refl _ _).alloc (Nat.le_refl _) o)
  have c_a4_1 : W4.cell? ⟨w.heap.size, 1, none⟩ = some (.string h.r) := row_at r_a4.out 1
  have a_a4_1 : ∀ o, (W4.alloc o).cell? ⟨w.heap.size, 1, none⟩ = some (.string h.r) := fun o => keepR c_a4_1 ((Below.refl _ _).alloc (Nat.le_refl _) o)
  clear r_a3 c_a3_0 c_a3_1 a_a3_0 a_a3_1
  go_wp2_with fail
  refine (to_head W4 h).mono ?_
  rintro e W5 ⟨rfl, b5⟩
  have z5 : W4.heap.size ≤ W5.heap.size := b5.size
  have B5 : Hid (Below w.heap.size w W5) := B4.out.trans (b5.mono B4.out.size)
  have r_a5 : Hid (W5.heap[w.heap.size]? = some (.cells #[.int .i64 h.n, .string h.r] 33 (0, 0))) := rowKeep r_a4.out b5
  have c_a5_0 : W5.cell? ⟨w.heap.size, 0, none⟩ = some (.int .i64 h.n) := row_at r_a5.out 0
  have a_a5_0 : ∀ o, (W5.alloc o).cell? ⟨w.heap.size, 0, none⟩ = some (.int .i64 h.n) := fun o => keepR c_a5_0 ((Below.refl _ _).alloc (Nat.le_refl _) o)
  have c_a5_1 : W5.cell? ⟨w.heap.size, 1, none⟩ = some (.string h.r) := row_at r_a5.out 1
  have a_a5_1 : ∀ o, (W5.alloc o).cell? ⟨w.heap.size, 1, none⟩ = some (.string h.r) := fun o => keepR c_a5_1 ((Below.refl _ _).alloc (Nat.le_refl _) o)
  clear r_a4 c_a4_0 c_a4_1 a_a4_0 a_a4_1
  go_wp2_with fail
  refine (q2 W5 B5.out).mono ?_
  rintro e W6 ⟨rfl, b6⟩
  have z6 : W5.heap.size ≤ W6.heap.size := b6.size
  have B6 : Hid (Below w.heap.size w W6) := B5.out.trans (b6.mono B5.out.size)
  have r_a6 : Hid (W6.heap[w.heap.size]? = some (.cells #[.int .i64 h.n, .string h.r] 33 (0, 0))) := rowKeep r_a5.out b6
  have c_a6_0 : W6.cell? ⟨w.heap.size, 0, none⟩ = some (.int .i64 h.n) := row_at r_a6.out 0
  have a_a6_0 : ∀ o, (W6.alloc o).cell? ⟨w.heap.size, 0, none⟩ = some (.int .i64 h.n) := fun o => keepR c_a6_0 ((Below.refl _ _).alloc (Nat.le_refl _) o)
  have c_a6_1 : W6.cell? ⟨w.heap.size, 1, none⟩ = some (.string h.r) := row_at r_a6.out 1
  have a_a6_1 : ∀ o, (W6.alloc o).cell? ⟨w.heap.size, 1, none⟩ = some (.string h.r) := fun o => keepR c_a6_1 ((Below.refl _ _).alloc (Nat.le_refl _) o)
  clear r_a5 c_a5_0 c_a5_1 a_a5_0 a_a5_1
  go_wp2
  go_ret
  exact ⟨rfl, B6.out⟩

set_option maxRecDepth 1000000 in
set_option maxHeartbeats 4000000 in
theorem exact_best (w : World) (v0 : Value) (t : List Hd) (h0 : Sh w v0 t) (y0 : ∀ x ∈ t, x.r.size ≤ maxLen) (m0 : t.length ≤ maxLen)
    (iF : ∀ W v, Below w.heap.size w W → Sh W v t → t.length ≤ 1048576 → (∀ x ∈ t, x.r.size ≤ 1048576) → Calls Try.prog 10 #[v] W fun e w' => e = .returned (.agg #[.int .i64 (best t).n, .string (best t).r]) ∧ Below W.heap.size W w') :
    Calls Try.prog 6 #[v0] w fun e w' => e = .returned (.bool true) ∧ Below w.heap.size w w' := by
  unfold maxLen at *
  have B0 : Hid (Below w.heap.size w w) := Below.refl _ _
  have hsz : ∀ W, Below w.heap.size w W → _ := fun W hW => sz_heads W v0 t 1048576 (h0.later hW) (fun n hn => y0 n hn) m0 (by omega)
  go_enter Try.func6, Try.ntmps6
  go_wp2_with fail
  refine (hsz w B0.out).mono ?_
  rintro e W1 ⟨⟨r0, rfl, hr1, hr0⟩, b1⟩
  have z1 : w.heap.size ≤ W1.heap.size := b1.size
  have B1 : Hid (Below w.heap.size w W1) := B0.out.trans (b1.mono B0.out.size)
  by_cases hr : r0 < 0
  · go_wp2
    go_ret
    exact ⟨rfl, B1.out⟩
  have hfit : 0 ≤ r0 ∧ t.length ≤ 1048576 ∧ ∀ n ∈ t, n.r.size ≤ 1048576 := by rcases hr0 with h | h; exact absurd h hr; exact h
  obtain ⟨hr2, hl, hz⟩ := hfit
  clear hsz hr0
  have q1 : ∀ W v, Sh W v t → _ := fun W v hv => best_spec W v t hv (by omega)
  have q2 : ∀ W v, Below w.heap.size w W → Sh W v t → _ := fun W v hW hv => iF W v hW hv hl hz
  obtain ⟨M, hM⟩ : ∃ M, best t = M := ⟨_, rfl⟩
  simp only [hM] at q1 q2
  have q3 : ∀ W, Below w.heap.size w W → _ := fun W hW => to_heads W v0 t (h0.later hW) (by omega)
  clear hM iF hz y0
  go_wp2_with fail
  refine (q3 W1 B1.out).mono ?_
  rintro e W2 ⟨v_t, rfl, o_t2, b2⟩
  have z2 : W1.heap.size ≤ W2.heap.size := b2.size
  have B2 : Hid (Below w.heap.size w W2) := B1.out.trans (b2.mono B1.out.size)
  have f_t2 : Hid (Sh W2 v_t t) := o_t2.sh
  clear o_t2
  go_wp2_with fail
  refine (q1 W2 v_t f_t2.out).mono ?_
  rintro e W3 ⟨rfl, b3⟩
  have z3 : W2.heap.size ≤ W3.heap.size := b3.size
  have B3 : Hid (Below w.heap.size w W3) := B2.out.trans (b3.mono B2.out.size)
  have f_t3 : Hid (Sh W3 v_t t) := Sh.later f_t2.out b3
  clear f_t2
  clear f_t3
  obtain ⟨W4, HW4, b4, y4, r_w04⟩ : ∃ X, Hid ((W3.alloc (.cells #[.int .i64 M.n, .string M.r] 27)) = X) ∧ Below W3.heap.size W3 X ∧ W3.heap.size + 1 ≤ X.heap.size ∧ Hid (X.heap[W3.heap.size]? = some (.cells #[.int .i64 M.n, .string M.r] 27 (0, 0))) := ⟨_, rfl, (Below.refl _ _).alloc (Nat.le_refl _) _, by simp, heap_alloc_new _ _⟩
  have z4 : W3.heap.size ≤ W4.heap.size := b4.size
  have B4 : Hid (Below w.heap.size w W4) := B3.out.trans (b4.mono B3.out.size)
  have c_w04_0 : W4.cell? ⟨W3.heap.size, 0, none⟩ = some (.int .i64 M.n) := row_at r_w04.out 0
  have a_w04_0 : ∀ o, (W4.alloc o).cell? ⟨W3.heap.size, 0, none⟩ = some (.int .i64 M.n) := fun o => keepR c_w04_0 ((Below.refl _ _).alloc (Nat.le_refl _) o)
  have c_w04_1 : W4.cell? ⟨W3.heap.size, 1, none⟩ = some (.string M.r) := row_at r_w04.out 1
  have a_w04_1 : ∀ o, (W4.alloc o).cell? ⟨W3.heap.size, 1, none⟩ = some (.string M.r) := fun o => keepR c_w04_1 ((Below.refl _ _).alloc (Nat.le_refl _) o)
  go_wp2_with fail
  rw [HW4.out]
  refine (q3 W4 B4.out).mono ?_
  rintro e W5 ⟨v_x, rfl, o_x5, b5⟩
  have z5 : W4.heap.size ≤ W5.heap.size := b5.size
  have B5 : Hid (Below w.heap.size w W5) := B4.out.trans (b5.mono B4.out.size)
  have r_w05 : Hid (W5.heap[W3.heap.size]? = some (.cells #[.int .i64 M.n, .string M.r] 27 (0, 0))) := rowKeep r_w04.out b5
  have c_w05_0 : W5.cell? ⟨W3.heap.size, 0, none⟩ = some (.int .i64 M.n) := row_at r_w05.out 0
  have a_w05_0 : ∀ o, (W5.alloc o).cell? ⟨W3.heap.size, 0, none⟩ = some (.int .i64 M.n) := fun o => keepR c_w05_0 ((Below.refl _ _).alloc (Nat.le_refl _) o)
  have c_w05_1 : W5.cell? ⟨W3.heap.size, 1, none⟩ = some (.string M.r) := row_at r_w05.out 1
  have a_w05_1 : ∀ o, (W5.alloc o).cell? ⟨W3.heap.size, 1, none⟩ = some (.string M.r) := fun o => keepR c_w05_1 ((Below.refl _ _).alloc (Nat.le_refl _) o)
  clear r_w04 c_w04_0 c_w04_1 a_w04_0 a_w04_1
  have f_x5 : Hid (Sh W5 v_x t) := o_x5.sh
  clear o_x5
  go_wp2_with fail
  refine (q2 W5 v_x B5.out f_x5.out).mono ?_
  rintro e W6 ⟨rfl, b6⟩
  have z6 : W5.heap.size ≤ W6.heap.size := b6.size
  have B6 : Hid (Below w.heap.size w W6) := B5.out.trans (b6.mono B5.out.size)
  have r_w06 : Hid (W6.heap[W3.heap.size]? = some (.cells #[.int .i64 M.n, .string M.r] 27 (0, 0))) := rowKeep r_w05.out b6
  have c_w06_0 : W6.cell? ⟨W3.heap.size, 0, none⟩ = some (.int .i64 M.n) := row_at r_w06.out 0
  have a_w06_0 : ∀ o, (W6.alloc o).cell? ⟨W3.heap.size, 0, none⟩ = some (.int .i64 M.n) := fun o => keepR c_w06_0 ((Below.refl _ _).alloc (Nat.le_refl _) o)
  have c_w06_1 : W6.cell? ⟨W3.heap.size, 1, none⟩ = some (.string M.r) := row_at r_w06.out 1
  have a_w06_1 : ∀ o, (W6.alloc o).cell? ⟨W3.heap.size, 1, none⟩ = some (.string M.r) := fun o => keepR c_w06_1 ((Below.refl _ _).alloc (Nat.le_refl _) o)
  clear r_w05 c_w05_0 c_w05_1 a_w05_0 a_w05_1
  have f_x6 : Hid (Sh W6 v_x t) := Sh.later f_x5.out b6
  clear f_x5
  obtain ⟨W7, HW7, b7, y7, r_g07⟩ : ∃ X, Hid ((W6.alloc (.cells #[.int .i64 M.n, .string M.r] 27)) = X) ∧ Below W6.heap.size W6 X ∧ W6.heap.size + 1 ≤ X.heap.size ∧ Hid (X.heap[W6.heap.size]? = some (.cells #[.int .i64 M.n, .string M.r] 27 (0, 0))) := ⟨_, rfl, (Below.refl _ _).alloc (Nat.le_refl _) _, by simp, heap_alloc_new _ _⟩
  have z7 : W6.heap.size ≤ W7.heap.size := b7.size
  have B7 : Hid (Below w.heap.size w W7) := B6.out.trans (b7.mono B6.out.size)
  have r_w07 : Hid (W7.heap[W3.heap.size]? = some (.cells #[.int .i64 M.n, .string M.r] 27 (0, 0))) := rowKeep r_w06.out b7
  have c_w07_0 : W7.cell? ⟨W3.heap.size, 0, none⟩ = some (.int .i64 M.n) := row_at r_w07.out 0
  have a_w07_0 : ∀ o, (W7.alloc o).cell? ⟨W3.heap.size, 0, none⟩ = some (.int .i64 M.n) := fun o => keepR c_w07_0 ((Below.refl _ _).alloc (Nat.le_refl _) o)
  have c_w07_1 : W7.cell? ⟨W3.heap.size, 1, none⟩ = some (.string M.r) := row_at r_w07.out 1
  have a_w07_1 : ∀ o, (W7.alloc o).cell? ⟨W3.heap.size, 1, none⟩ = some (.string M.r) := fun o => keepR c_w07_1 ((Below.refl _ _).alloc (Nat.le_refl _) o)
  have c_g07_0 : W7.cell? ⟨W6.heap.size, 0, none⟩ = some (.int .i64 M.n) := row_at r_g07.out 0
  have a_g07_0 : ∀ o, (W7.alloc o).cell? ⟨W6.heap.size, 0, none⟩ = some (.int .i64 M.n) := fun o => keepR c_g07_0 ((Below.refl _ _).alloc (Nat.le_refl _) o)
  have c_g07_1 : W7.cell? ⟨W6.heap.size, 1, none⟩ = some (.string M.r) := row_at r_g07.out 1
  have a_g07_1 : ∀ o, (W7.alloc o).cell? ⟨W6.heap.size, 1, none⟩ = some (.string M.r) := fun o => keepR c_g07_1 ((Below.refl _ _).alloc (Nat.le_refl _) o)
  clear r_w06 c_w06_0 c_w06_1
  have f_x7 : Hid (Sh W7 v_x t) := Sh.later f_x6.out b7
  clear f_x6
  go_wp2_with fail
  rw [HW7.out]
  clear a_w06_0 a_w06_1
  refine (eq_head W7 M).mono ?_
  rintro e W8 ⟨rfl, b8⟩
  have z8 : W7.heap.size ≤ W8.heap.size := b8.size
  have B8 : Hid (Below w.heap.size w W8) := B7.out.trans (b8.mono B7.out.size)
  have r_w08 : Hid (W8.heap[W3.heap.size]? = some (.cells #[.int .i64 M.n, .string M.r] 27 (0, 0))) := rowKeep r_w07.out b8
  have r_g08 : Hid (W8.heap[W6.heap.size]? = some (.cells #[.int .i64 M.n, .string M.r] 27 (0, 0))) := rowKeep r_g07.out b8
  have c_w08_0 : W8.cell? ⟨W3.heap.size, 0, none⟩ = some (.int .i64 M.n) := row_at r_w08.out 0
  have a_w08_0 : ∀ o, (W8.alloc o).cell? ⟨W3.heap.size, 0, none⟩ = some (.int .i64 M.n) := fun o => keepR c_w08_0 ((Below.refl _ _).alloc (Nat.le_refl _) o)
  have c_w08_1 : W8.cell? ⟨W3.heap.size, 1, none⟩ = some (.string M.r) := row_at r_w08.out 1
  have a_w08_1 : ∀ o, (W8.alloc o).cell? ⟨W3.heap.size, 1, none⟩ = some (.string M.r) := fun o => keepR c_w08_1 ((Below.refl _ _).alloc (Nat.le_refl _) o)
  have c_g08_0 : W8.cell? ⟨W6.heap.size, 0, none⟩ = some (.int .i64 M.n) := row_at r_g08.out 0
  have a_g08_0 : ∀ o, (W8.alloc o).cell? ⟨W6.heap.size, 0, none⟩ = some (.int .i64 M.n) := fun o => keepR c_g08_0 ((Below.refl _ _).alloc (Nat.le_refl _) o)
  have c_g08_1 : W8.cell? ⟨W6.heap.size, 1, none⟩ = some (.string M.r) := row_at r_g08.out 1
  have a_g08_1 : ∀ o, (W8.alloc o).cell? ⟨W6.heap.size, 1, none⟩ = some (.string M.r) := fun o => keepR c_g08_1 ((Below.refl _ _).alloc (Nat.le_refl _) o)
  clear r_w07 c_w07_0 c_w07_1 a_w07_0 a_w07_1 r_g07 c_g07_0 c_g07_1 a_g07_0 a_g07_1
  have f_x8 : Hid (Sh W8 v_x t) := Sh.later f_x7.out b8
  clear f_x7
  go_wp2_with fail
  refine (q3 W8 B8.out).mono ?_
  rintro e W9 ⟨v_u, rfl, o_u9, b9⟩
  have z9 : W8.heap.size ≤ W9.heap.size := b9.size
  have B9 : Hid (Below w.heap.size w W9) := B8.out.trans (b9.mono B8.out.size)
  have r_w09 : Hid (W9.heap[W3.heap.size]? = some (.cells #[.int .i64 M.n, .string M.r] 27 (0, 0))) := rowKeep r_w08.out b9
  have r_g09 : Hid (W9.heap[W6.heap.size]? = some (.cells #[.int .i64 M.n, .string M.r] 27 (0, 0))) := rowKeep r_g08.out b9
  have c_w09_0 : W9.cell? ⟨W3.heap.size, 0, none⟩ = some (.int .i64 M.n) := row_at r_w09.out 0
  have a_w09_0 : ∀ o, (W9.alloc o).cell? ⟨W3.heap.size, 0, none⟩ = some (.int .i64 M.n) := fun o => keepR c_w09_0 ((Below.refl _ _).alloc (Nat.le_refl _) o)
  have c_w09_1 : W9.cell? ⟨W3.heap.size, 1, none⟩ = some (.string M.r) := row_at r_w09.out 1
  have a_w09_1 : ∀ o, (W9.alloc o).cell? ⟨W3.heap.size, 1, none⟩ = some (.string M.r) := fun o => keepR c_w09_1 ((Below.refl _ _).alloc (Nat.le_refl _) o)
  have c_g09_0 : W9.cell? ⟨W6.heap.size, 0, none⟩ = some (.int .i64 M.n) := row_at r_g09.out 0
  have a_g09_0 : ∀ o, (W9.alloc o).cell? ⟨W6.heap.size, 0, none⟩ = some (.int .i64 M.n) := fun o => keepR c_g09_0 ((Below.refl _ _).alloc (Nat.le_refl _) o)
  have c_g09_1 : W9.cell? ⟨W6.heap.size, 1, none⟩ = some (.string M.r) := row_at r_g09.out 1
  have a_g09_1 : ∀ o, (W9.alloc o).cell? ⟨W6.heap.size, 1, none⟩ = some (.string M.r) := fun o => keepR c_g09_1 ((Below.refl _ _).alloc (Nat.le_refl _) o)
  clear r_w08 c_w08_0 c_w08_1 a_w08_0 a_w08_1 r_g08 c_g08_0 c_g08_1 a_g08_0 a_g08_1
  have f_x9 : Hid (Sh W9 v_x t) := Sh.later f_x8.out b9
  clear f_x8
  have f_u9 : Hid (Sh W9 v_u t) := o_u9.sh
  clear o_u9
  go_wp2_with fail
  refine (eq_heads W9 v_x v_u t f_x9.out f_u9.out (by omega)).mono ?_
  rintro e W10 ⟨rfl, b10⟩
  have z10 : W9.heap.size ≤ W10.heap.size := b10.size
  have B10 : Hid (Below w.heap.size w W10) := B9.out.trans (b10.mono B9.out.size)
  have r_w010 : Hid (W10.heap[W3.heap.size]? = some (.cells #[.int .i64 M.n, .string M.r] 27 (0, 0))) := rowKeep r_w09.out b10
  have r_g010 : Hid (W10.heap[W6.heap.size]? = some (.cells #[.int .i64 M.n, .string M.r] 27 (0, 0))) := rowKeep r_g09.out b10
  have c_w010_0 : W10.cell? ⟨W3.heap.size, 0, none⟩ = some (.int .i64 M.n) := row_at r_w010.out 0
  have a_w010_0 : ∀ o, (W10.alloc o).cell? ⟨W3.heap.size, 0, none⟩ = some (.int .i64 M.n) := fun o => keepR c_w010_0 ((Below.refl _ _).alloc (Nat.le_refl _) o)
  have c_w010_1 : W10.cell? ⟨W3.heap.size, 1, none⟩ = some (.string M.r) := row_at r_w010.out 1
  have a_w010_1 : ∀ o, (W10.alloc o).cell? ⟨W3.heap.size, 1, none⟩ = some (.string M.r) := fun o => keepR c_w010_1 ((Below.refl _ _).alloc (Nat.le_refl _) o)
  have c_g010_0 : W10.cell? ⟨W6.heap.size, 0, none⟩ = some (.int .i64 M.n) := row_at r_g010.out 0
  have a_g010_0 : ∀ o, (W10.alloc o).cell? ⟨W6.heap.size, 0, none⟩ = some (.int .i64 M.n) := fun o => keepR c_g010_0 ((Below.refl _ _).alloc (Nat.le_refl _) o)
  have c_g010_1 : W10.cell? ⟨W6.heap.size, 1, none⟩ = some (.string M.r) := row_at r_g010.out 1
  have a_g010_1 : ∀ o, (W10.alloc o).cell? ⟨W6.heap.size, 1, none⟩ = some (.string M.r) := fun o => keepR c_g010_1 ((Below.refl _ _).alloc (Nat.le_refl _) o)
  clear r_w09 c_w09_0 c_w09_1 a_w09_0 a_w09_1 r_g09 c_g09_0 c_g09_1 a_g09_0 a_g09_1
  have f_x10 : Hid (Sh W10 v_x t) := Sh.later f_x9.out b10
  have f_u10 : Hid (Sh W10 v_u t) := Sh.later f_u9.out b10
  clear f_x9 f_u9
  go_wp2
  go_ret
  exact ⟨rfl, B10.out⟩

set_option maxRecDepth 1000000 in
set_option maxHeartbeats 4000000 in
theorem exact_fork (w : World) (v0 : Value) (t : List Hd) (h0 : Sh w v0 t) (y0 : ∀ x ∈ t, x.r.size ≤ maxLen) (m0 : t.length ≤ maxLen)
    (iF : ∀ W v, Below w.heap.size w W → Sh W v t → t.length ≤ 1048576 → (∀ x ∈ t, x.r.size ≤ 1048576) → Calls Try.prog 14 #[v] W fun e w' => e = .returned (.tuple #[.agg #[.int .i64 (fork t).1.n, .string (fork t).1.r], .agg #[.int .i64 (fork t).2.1.n, .string (fork t).2.1.r], .bool (fork t).2.2]) ∧ Below W.heap.size W w') :
    Calls Try.prog 7 #[v0] w fun e w' => e = .returned (.bool true) ∧ Below w.heap.size w w' := by
  unfold maxLen at *
  have B0 : Hid (Below w.heap.size w w) := Below.refl _ _
  have hsz : ∀ W, Below w.heap.size w W → _ := fun W hW => sz_heads W v0 t 1048576 (h0.later hW) (fun n hn => y0 n hn) m0 (by omega)
  go_enter Try.func7, Try.ntmps7
  go_wp2_with fail
  refine (hsz w B0.out).mono ?_
  rintro e W1 ⟨⟨r0, rfl, hr1, hr0⟩, b1⟩
  have z1 : w.heap.size ≤ W1.heap.size := b1.size
  have B1 : Hid (Below w.heap.size w W1) := B0.out.trans (b1.mono B0.out.size)
  by_cases hr : r0 < 0
  · go_wp2
    go_ret
    exact ⟨rfl, B1.out⟩
  have hfit : 0 ≤ r0 ∧ t.length ≤ 1048576 ∧ ∀ n ∈ t, n.r.size ≤ 1048576 := by rcases hr0 with h | h; exact absurd h hr; exact h
  obtain ⟨hr2, hl, hz⟩ := hfit
  clear hsz hr0
  have q1 : ∀ W v, Sh W v t → _ := fun W v hv => fork_spec W v t hv (by omega)
  have q2 : ∀ W v, Below w.heap.size w W → Sh W v t → _ := fun W v hW hv => iF W v hW hv hl hz
  obtain ⟨M, N, ok, hM⟩ : ∃ M N ok, fork t = (M, N, ok) := ⟨_, _, _, rfl⟩
  simp only [hM] at q1 q2
  have nok : (ok != ok) = false := by simp
  have q3 : ∀ W, Below w.heap.size w W → _ := fun W hW => to_heads W v0 t (h0.later hW) (by omega)
  clear hM iF hz y0
  go_wp2_with fail
  refine (q3 W1 B1.out).mono ?_
  rintro e W2 ⟨v_t, rfl, o_t2, b2⟩
  have z2 : W1.heap.size ≤ W2.heap.size := b2.size
  have B2 : Hid (Below w.heap.size w W2) := B1.out.trans (b2.mono B1.out.size)
  have f_t2 : Hid (Sh W2 v_t t) := o_t2.sh
  clear o_t2
  go_wp2_with fail
  refine (q1 W2 v_t f_t2.out).mono ?_
  rintro e W3 ⟨rfl, b3⟩
  have z3 : W2.heap.size ≤ W3.heap.size := b3.size
  have B3 : Hid (Below w.heap.size w W3) := B2.out.trans (b3.mono B2.out.size)
  have f_t3 : Hid (Sh W3 v_t t) := Sh.later f_t2.out b3
  clear f_t2
  clear f_t3
  obtain ⟨W4, HW4, b4, y4, r_w04, r_w14⟩ : ∃ X, Hid (((W3.alloc (.cells #[.int .i64 M.n, .string M.r] 27)).alloc (.cells #[.int .i64 N.n, .string N.r] 27)) = X) ∧ Below W3.heap.size W3 X ∧ W3.heap.size + 2 ≤ X.heap.size ∧ Hid (X.heap[W3.heap.size]? = some (.cells #[.int .i64 M.n, .string M.r] 27 (0, 0))) ∧ Hid (X.heap[W3.heap.size + 1]? = some (.cells #[.int .i64 N.n, .string N.r] 27 (0, 0))) := ⟨_, rfl, ((Below.refl _ _).alloc (Nat.le_refl _) _).alloc (by simp) _, by simp, heap_alloc2_old _ _ _, heap_alloc2_new _ _ _⟩
  have z4 : W3.heap.size ≤ W4.heap.size := b4.size
  have B4 : Hid (Below w.heap.size w W4) := B3.out.trans (b4.mono B3.out.size)
  have c_w04_0 : W4.cell? ⟨W3.heap.size, 0, none⟩ = some (.int .i64 M.n) := row_at r_w04.out 0
  have a_w04_0 : ∀ o, (W4.alloc o).cell? ⟨W3.heap.size, 0, none⟩ = some (.int .i64 M.n) := fun o => keepR c_w04_0 ((Below.refl _ _).alloc (Nat.le_refl _) o)
  have c_w04_1 : W4.cell? ⟨W3.heap.size, 1, none⟩ = some (.string M.r) := row_at r_w04.out 1
  have a_w04_1 : ∀ o, (W4.alloc o).cell? ⟨W3.heap.size, 1, none⟩ = some (.string M.r) := fun o => keepR c_w04_1 ((Below.refl _ _).alloc (Nat.le_refl _) o)
  have c_w14_0 : W4.cell? ⟨W3.heap.size + 1, 0, none⟩ = some (.int .i64 N.n) := row_at r_w14.out 0
  have a_w14_0 : ∀ o, (W4.alloc o).cell? ⟨W3.heap.size + 1, 0, none⟩ = some (.int .i64 N.n) := fun o => keepR c_w14_0 ((Below.refl _ _).alloc (Nat.le_refl _) o)
  have c_w14_1 : W4.cell? ⟨W3.heap.size + 1, 1, none⟩ = some (.string N.r) := row_at r_w14.out 1
  have a_w14_1 : ∀ o, (W4.alloc o).cell? ⟨W3.heap.size + 1, 1, none⟩ = some (.string N.r) := fun o => keepR c_w14_1 ((Below.refl _ _).alloc (Nat.le_refl _) o)
  go_wp2_with fail
  rw [HW4.out]
  refine (q3 W4 B4.out).mono ?_
  rintro e W5 ⟨v_x, rfl, o_x5, b5⟩
  have z5 : W4.heap.size ≤ W5.heap.size := b5.size
  have B5 : Hid (Below w.heap.size w W5) := B4.out.trans (b5.mono B4.out.size)
  have r_w05 : Hid (W5.heap[W3.heap.size]? = some (.cells #[.int .i64 M.n, .string M.r] 27 (0, 0))) := rowKeep r_w04.out b5
  have r_w15 : Hid (W5.heap[W3.heap.size + 1]? = some (.cells #[.int .i64 N.n, .string N.r] 27 (0, 0))) := rowKeep r_w14.out b5
  have c_w05_0 : W5.cell? ⟨W3.heap.size, 0, none⟩ = some (.int .i64 M.n) := row_at r_w05.out 0
  have a_w05_0 : ∀ o, (W5.alloc o).cell? ⟨W3.heap.size, 0, none⟩ = some (.int .i64 M.n) := fun o => keepR c_w05_0 ((Below.refl _ _).alloc (Nat.le_refl _) o)
  have c_w05_1 : W5.cell? ⟨W3.heap.size, 1, none⟩ = some (.string M.r) := row_at r_w05.out 1
  have a_w05_1 : ∀ o, (W5.alloc o).cell? ⟨W3.heap.size, 1, none⟩ = some (.string M.r) := fun o => keepR c_w05_1 ((Below.refl _ _).alloc (Nat.le_refl _) o)
  have c_w15_0 : W5.cell? ⟨W3.heap.size + 1, 0, none⟩ = some (.int .i64 N.n) := row_at r_w15.out 0
  have a_w15_0 : ∀ o, (W5.alloc o).cell? ⟨W3.heap.size + 1, 0, none⟩ = some (.int .i64 N.n) := fun o => keepR c_w15_0 ((Below.refl _ _).alloc (Nat.le_refl _) o)
  have c_w15_1 : W5.cell? ⟨W3.heap.size + 1, 1, none⟩ = some (.string N.r) := row_at r_w15.out 1
  have a_w15_1 : ∀ o, (W5.alloc o).cell? ⟨W3.heap.size + 1, 1, none⟩ = some (.string N.r) := fun o => keepR c_w15_1 ((Below.refl _ _).alloc (Nat.le_refl _) o)
  clear r_w04 c_w04_0 c_w04_1 a_w04_0 a_w04_1 r_w14 c_w14_0 c_w14_1 a_w14_0 a_w14_1
  have f_x5 : Hid (Sh W5 v_x t) := o_x5.sh
  clear o_x5
  go_wp2_with fail
  refine (q2 W5 v_x B5.out f_x5.out).mono ?_
  rintro e W6 ⟨rfl, b6⟩
  have z6 : W5.heap.size ≤ W6.heap.size := b6.size
  have B6 : Hid (Below w.heap.size w W6) := B5.out.trans (b6.mono B5.out.size)
  have r_w06 : Hid (W6.heap[W3.heap.size]? = some (.cells #[.int .i64 M.n, .string M.r] 27 (0, 0))) := rowKeep r_w05.out b6
  have r_w16 : Hid (W6.heap[W3.heap.size + 1]? = some (.cells #[.int .i64 N.n, .string N.r] 27 (0, 0))) := rowKeep r_w15.out b6
  have c_w06_0 : W6.cell? ⟨W3.heap.size, 0, none⟩ = some (.int .i64 M.n) := row_at r_w06.out 0
  have a_w06_0 : ∀ o, (W6.alloc o).cell? ⟨W3.heap.size, 0, none⟩ = some (.int .i64 M.n) := fun o => keepR c_w06_0 ((Below.refl _ _).alloc (Nat.le_refl _) o)
  have c_w06_1 : W6.cell? ⟨W3.heap.size, 1, none⟩ = some (.string M.r) := row_at r_w06.out 1
  have a_w06_1 : ∀ o, (W6.alloc o).cell? ⟨W3.heap.size, 1, none⟩ = some (.string M.r) := fun o => keepR c_w06_1 ((Below.refl _ _).alloc (Nat.le_refl _) o)
  have c_w16_0 : W6.cell? ⟨W3.heap.size + 1, 0, none⟩ = some (.int .i64 N.n) := row_at r_w16.out 0
  have a_w16_0 : ∀ o, (W6.alloc o).cell? ⟨W3.heap.size + 1, 0, none⟩ = some (.int .i64 N.n) := fun o => keepR c_w16_0 ((Below.refl _ _).alloc (Nat.le_refl _) o)
  have c_w16_1 : W6.cell? ⟨W3.heap.size + 1, 1, none⟩ = some (.string N.r) := row_at r_w16.out 1
  have a_w16_1 : ∀ o, (W6.alloc o).cell? ⟨W3.heap.size + 1, 1, none⟩ = some (.string N.r) := fun o => keepR c_w16_1 ((Below.refl _ _).alloc (Nat.le_refl _) o)
  clear r_w05 c_w05_0 c_w05_1 a_w05_0 a_w05_1 r_w15 c_w15_0 c_w15_1 a_w15_0 a_w15_1
  have f_x6 : Hid (Sh W6 v_x t) := Sh.later f_x5.out b6
  clear f_x5
  have aa_w06_0 : ∀ o p, ((W6.alloc o).alloc p).cell? ⟨W3.heap.size, 0, none⟩ = some (.int .i64 M.n) := fun o p => keepR (a_w06_0 o) ((Below.refl _ _).alloc (Nat.le_refl _) p)
  have aa_w06_1 : ∀ o p, ((W6.alloc o).alloc p).cell? ⟨W3.heap.size, 1, none⟩ = some (.string M.r) := fun o p => keepR (a_w06_1 o) ((Below.refl _ _).alloc (Nat.le_refl _) p)
  have aa_w16_0 : ∀ o p, ((W6.alloc o).alloc p).cell? ⟨W3.heap.size + 1, 0, none⟩ = some (.int .i64 N.n) := fun o p => keepR (a_w16_0 o) ((Below.refl _ _).alloc (Nat.le_refl _) p)
  have aa_w16_1 : ∀ o p, ((W6.alloc o).alloc p).cell? ⟨W3.heap.size + 1, 1, none⟩ = some (.string N.r) := fun o p => keepR (a_w16_1 o) ((Below.refl _ _).alloc (Nat.le_refl _) p)
  obtain ⟨W7, HW7, b7, y7, r_g07, r_g17⟩ : ∃ X, Hid (((W6.alloc (.cells #[.int .i64 M.n, .string M.r] 27)).alloc (.cells #[.int .i64 N.n, .string N.r] 27)) = X) ∧ Below W6.heap.size W6 X ∧ W6.heap.size + 2 ≤ X.heap.size ∧ Hid (X.heap[W6.heap.size]? = some (.cells #[.int .i64 M.n, .string M.r] 27 (0, 0))) ∧ Hid (X.heap[W6.heap.size + 1]? = some (.cells #[.int .i64 N.n, .string N.r] 27 (0, 0))) := ⟨_, rfl, ((Below.refl _ _).alloc (Nat.le_refl _) _).alloc (by simp) _, by simp, heap_alloc2_old _ _ _, heap_alloc2_new _ _ _⟩
  have z7 : W6.heap.size ≤ W7.heap.size := b7.size
  have B7 : Hid (Below w.heap.size w W7) := B6.out.trans (b7.mono B6.out.size)
  have r_w07 : Hid (W7.heap[W3.heap.size]? = some (.cells #[.int .i64 M.n, .string M.r] 27 (0, 0))) := rowKeep r_w06.out b7
  have r_w17 : Hid (W7.heap[W3.heap.size + 1]? = some (.cells #[.int .i64 N.n, .string N.r] 27 (0, 0))) := rowKeep r_w16.out b7
  have c_w07_0 : W7.cell? ⟨W3.heap.size, 0, none⟩ = some (.int .i64 M.n) := row_at r_w07.out 0
  have a_w07_0 : ∀ o, (W7.alloc o).cell? ⟨W3.heap.size, 0, none⟩ = some (.int .i64 M.n) := fun o => keepR c_w07_0 ((Below.refl _ _).alloc (Nat.le_refl _) o)
  have c_w07_1 : W7.cell? ⟨W3.heap.size, 1, none⟩ = some (.string M.r) := row_at r_w07.out 1
  have a_w07_1 : ∀ o, (W7.alloc o).cell? ⟨W3.heap.size, 1, none⟩ = some (.string M.r) := fun o => keepR c_w07_1 ((Below.refl _ _).alloc (Nat.le_refl _) o)
  have c_w17_0 : W7.cell? ⟨W3.heap.size + 1, 0, none⟩ = some (.int .i64 N.n) := row_at r_w17.out 0
  have a_w17_0 : ∀ o, (W7.alloc o).cell? ⟨W3.heap.size + 1, 0, none⟩ = some (.int .i64 N.n) := fun o => keepR c_w17_0 ((Below.refl _ _).alloc (Nat.le_refl _) o)
  have c_w17_1 : W7.cell? ⟨W3.heap.size + 1, 1, none⟩ = some (.string N.r) := row_at r_w17.out 1
  have a_w17_1 : ∀ o, (W7.alloc o).cell? ⟨W3.heap.size + 1, 1, none⟩ = some (.string N.r) := fun o => keepR c_w17_1 ((Below.refl _ _).alloc (Nat.le_refl _) o)
  have c_g07_0 : W7.cell? ⟨W6.heap.size, 0, none⟩ = some (.int .i64 M.n) := row_at r_g07.out 0
  have a_g07_0 : ∀ o, (W7.alloc o).cell? ⟨W6.heap.size, 0, none⟩ = some (.int .i64 M.n) := fun o => keepR c_g07_0 ((Below.refl _ _).alloc (Nat.le_refl _) o)
  have c_g07_1 : W7.cell? ⟨W6.heap.size, 1, none⟩ = some (.string M.r) := row_at r_g07.out 1
  have a_g07_1 : ∀ o, (W7.alloc o).cell? ⟨W6.heap.size, 1, none⟩ = some (.string M.r) := fun o => keepR c_g07_1 ((Below.refl _ _).alloc (Nat.le_refl _) o)
  have c_g17_0 : W7.cell? ⟨W6.heap.size + 1, 0, none⟩ = some (.int .i64 N.n) := row_at r_g17.out 0
  have a_g17_0 : ∀ o, (W7.alloc o).cell? ⟨W6.heap.size + 1, 0, none⟩ = some (.int .i64 N.n) := fun o => keepR c_g17_0 ((Below.refl _ _).alloc (Nat.le_refl _) o)
  have c_g17_1 : W7.cell? ⟨W6.heap.size + 1, 1, none⟩ = some (.string N.r) := row_at r_g17.out 1
  have a_g17_1 : ∀ o, (W7.alloc o).cell? ⟨W6.heap.size + 1, 1, none⟩ = some (.string N.r) := fun o => keepR c_g17_1 ((Below.refl _ _).alloc (Nat.le_refl _) o)
  clear r_w06 c_w06_0 c_w06_1 r_w16 c_w16_0 c_w16_1
  have f_x7 : Hid (Sh W7 v_x t) := Sh.later f_x6.out b7
  clear f_x6
  go_wp2_with fail
  rw [HW7.out]
  clear aa_w06_0 aa_w06_1 aa_w16_0 aa_w16_1 a_w06_0 a_w06_1 a_w16_0 a_w16_1
  refine (eq_head W7 M).mono ?_
  rintro e W8 ⟨rfl, b8⟩
  have z8 : W7.heap.size ≤ W8.heap.size := b8.size
  have B8 : Hid (Below w.heap.size w W8) := B7.out.trans (b8.mono B7.out.size)
  have r_w08 : Hid (W8.heap[W3.heap.size]? = some (.cells #[.int .i64 M.n, .string M.r] 27 (0, 0))) := rowKeep r_w07.out b8
  have r_w18 : Hid (W8.heap[W3.heap.size + 1]? = some (.cells #[.int .i64 N.n, .string N.r] 27 (0, 0))) := rowKeep r_w17.out b8
  have r_g08 : Hid (W8.heap[W6.heap.size]? = some (.cells #[.int .i64 M.n, .string M.r] 27 (0, 0))) := rowKeep r_g07.out b8
  have r_g18 : Hid (W8.heap[W6.heap.size + 1]? = some (.cells #[.int .i64 N.n, .string N.r] 27 (0, 0))) := rowKeep r_g17.out b8
  have c_w08_0 : W8.cell? ⟨W3.heap.size, 0, none⟩ = some (.int .i64 M.n) := row_at r_w08.out 0
  have a_w08_0 : ∀ o, (W8.alloc o).cell? ⟨W3.heap.size, 0, none⟩ = some (.int .i64 M.n) := fun o => keepR c_w08_0 ((Below.refl _ _).alloc (Nat.le_refl _) o)
  have c_w08_1 : W8.cell? ⟨W3.heap.size, 1, none⟩ = some (.string M.r) := row_at r_w08.out 1
  have a_w08_1 : ∀ o, (W8.alloc o).cell? ⟨W3.heap.size, 1, none⟩ = some (.string M.r) := fun o => keepR c_w08_1 ((Below.refl _ _).alloc (Nat.le_refl _) o)
  have c_w18_0 : W8.cell? ⟨W3.heap.size + 1, 0, none⟩ = some (.int .i64 N.n) := row_at r_w18.out 0
  have a_w18_0 : ∀ o, (W8.alloc o).cell? ⟨W3.heap.size + 1, 0, none⟩ = some (.int .i64 N.n) := fun o => keepR c_w18_0 ((Below.refl _ _).alloc (Nat.le_refl _) o)
  have c_w18_1 : W8.cell? ⟨W3.heap.size + 1, 1, none⟩ = some (.string N.r) := row_at r_w18.out 1
  have a_w18_1 : ∀ o, (W8.alloc o).cell? ⟨W3.heap.size + 1, 1, none⟩ = some (.string N.r) := fun o => keepR c_w18_1 ((Below.refl _ _).alloc (Nat.le_refl _) o)
  have c_g08_0 : W8.cell? ⟨W6.heap.size, 0, none⟩ = some (.int .i64 M.n) := row_at r_g08.out 0
  have a_g08_0 : ∀ o, (W8.alloc o).cell? ⟨W6.heap.size, 0, none⟩ = some (.int .i64 M.n) := fun o => keepR c_g08_0 ((Below.refl _ _).alloc (Nat.le_refl _) o)
  have c_g08_1 : W8.cell? ⟨W6.heap.size, 1, none⟩ = some (.string M.r) := row_at r_g08.out 1
  have a_g08_1 : ∀ o, (W8.alloc o).cell? ⟨W6.heap.size, 1, none⟩ = some (.string M.r) := fun o => keepR c_g08_1 ((Below.refl _ _).alloc (Nat.le_refl _) o)
  have c_g18_0 : W8.cell? ⟨W6.heap.size + 1, 0, none⟩ = some (.int .i64 N.n) := row_at r_g18.out 0
  have a_g18_0 : ∀ o, (W8.alloc o).cell? ⟨W6.heap.size + 1, 0, none⟩ = some (.int .i64 N.n) := fun o => keepR c_g18_0 ((Below.refl _ _).alloc (Nat.le_refl _) o)
  have c_g18_1 : W8.cell? ⟨W6.heap.size + 1, 1, none⟩ = some (.string N.r) := row_at r_g18.out 1
  have a_g18_1 : ∀ o, (W8.alloc o).cell? ⟨W6.heap.size + 1, 1, none⟩ = some (.string N.r) := fun o => keepR c_g18_1 ((Below.refl _ _).alloc (Nat.le_refl _) o)
  clear r_w07 c_w07_0 c_w07_1 a_w07_0 a_w07_1 r_w17 c_w17_0 c_w17_1 a_w17_0 a_w17_1 r_g07 c_g07_0 c_g07_1 a_g07_0 a_g07_1 r_g17 c_g17_0 c_g17_1 a_g17_0 a_g17_1
  have f_x8 : Hid (Sh W8 v_x t) := Sh.later f_x7.out b8
  clear f_x7
  go_wp2_with fail
  refine (eq_head W8 N).mono ?_
  rintro e W9 ⟨rfl, b9⟩
  have z9 : W8.heap.size ≤ W9.heap.size := b9.size
  have B9 : Hid (Below w.heap.size w W9) := B8.out.trans (b9.mono B8.out.size)
  have r_w09 : Hid (W9.heap[W3.heap.size]? = some (.cells #[.int .i64 M.n, .string M.r] 27 (0, 0))) := rowKeep r_w08.out b9
  have r_w19 : Hid (W9.heap[W3.heap.size + 1]? = some (.cells #[.int .i64 N.n, .string N.r] 27 (0, 0))) := rowKeep r_w18.out b9
  have r_g09 : Hid (W9.heap[W6.heap.size]? = some (.cells #[.int .i64 M.n, .string M.r] 27 (0, 0))) := rowKeep r_g08.out b9
  have r_g19 : Hid (W9.heap[W6.heap.size + 1]? = some (.cells #[.int .i64 N.n, .string N.r] 27 (0, 0))) := rowKeep r_g18.out b9
  have c_w09_0 : W9.cell? ⟨W3.heap.size, 0, none⟩ = some (.int .i64 M.n) := row_at r_w09.out 0
  have a_w09_0 : ∀ o, (W9.alloc o).cell? ⟨W3.heap.size, 0, none⟩ = some (.int .i64 M.n) := fun o => keepR c_w09_0 ((Below.refl _ _).alloc (Nat.le_refl _) o)
  have c_w09_1 : W9.cell? ⟨W3.heap.size, 1, none⟩ = some (.string M.r) := row_at r_w09.out 1
  have a_w09_1 : ∀ o, (W9.alloc o).cell? ⟨W3.heap.size, 1, none⟩ = some (.string M.r) := fun o => keepR c_w09_1 ((Below.refl _ _).alloc (Nat.le_refl _) o)
  have c_w19_0 : W9.cell? ⟨W3.heap.size + 1, 0, none⟩ = some (.int .i64 N.n) := row_at r_w19.out 0
  have a_w19_0 : ∀ o, (W9.alloc o).cell? ⟨W3.heap.size + 1, 0, none⟩ = some (.int .i64 N.n) := fun o => keepR c_w19_0 ((Below.refl _ _).alloc (Nat.le_refl _) o)
  have c_w19_1 : W9.cell? ⟨W3.heap.size + 1, 1, none⟩ = some (.string N.r) := row_at r_w19.out 1
  have a_w19_1 : ∀ o, (W9.alloc o).cell? ⟨W3.heap.size + 1, 1, none⟩ = some (.string N.r) := fun o => keepR c_w19_1 ((Below.refl _ _).alloc (Nat.le_refl _) o)
  have c_g09_0 : W9.cell? ⟨W6.heap.size, 0, none⟩ = some (.int .i64 M.n) := row_at r_g09.out 0
  have a_g09_0 : ∀ o, (W9.alloc o).cell? ⟨W6.heap.size, 0, none⟩ = some (.int .i64 M.n) := fun o => keepR c_g09_0 ((Below.refl _ _).alloc (Nat.le_refl _) o)
  have c_g09_1 : W9.cell? ⟨W6.heap.size, 1, none⟩ = some (.string M.r) := row_at r_g09.out 1
  have a_g09_1 : ∀ o, (W9.alloc o).cell? ⟨W6.heap.size, 1, none⟩ = some (.string M.r) := fun o => keepR c_g09_1 ((Below.refl _ _).alloc (Nat.le_refl _) o)
  have c_g19_0 : W9.cell? ⟨W6.heap.size + 1, 0, none⟩ = some (.int .i64 N.n) := row_at r_g19.out 0
  have a_g19_0 : ∀ o, (W9.alloc o).cell? ⟨W6.heap.size + 1, 0, none⟩ = some (.int .i64 N.n) := fun o => keepR c_g19_0 ((Below.refl _ _).alloc (Nat.le_refl _) o)
  have c_g19_1 : W9.cell? ⟨W6.heap.size + 1, 1, none⟩ = some (.string N.r) := row_at r_g19.out 1
  have a_g19_1 : ∀ o, (W9.alloc o).cell? ⟨W6.heap.size + 1, 1, none⟩ = some (.string N.r) := fun o => keepR c_g19_1 ((Below.refl _ _).alloc (Nat.le_refl _) o)
  clear r_w08 c_w08_0 c_w08_1 a_w08_0 a_w08_1 r_w18 c_w18_0 c_w18_1 a_w18_0 a_w18_1 r_g08 c_g08_0 c_g08_1 a_g08_0 a_g08_1 r_g18 c_g18_0 c_g18_1 a_g18_0 a_g18_1
  have f_x9 : Hid (Sh W9 v_x t) := Sh.later f_x8.out b9
  clear f_x8
  go_wp2_with fail
  refine (q3 W9 B9.out).mono ?_
  rintro e W10 ⟨v_u, rfl, o_u10, b10⟩
  have z10 : W9.heap.size ≤ W10.heap.size := b10.size
  have B10 : Hid (Below w.heap.size w W10) := B9.out.trans (b10.mono B9.out.size)
  have r_w010 : Hid (W10.heap[W3.heap.size]? = some (.cells #[.int .i64 M.n, .string M.r] 27 (0, 0))) := rowKeep r_w09.out b10
  have r_w110 : Hid (W10.heap[W3.heap.size + 1]? = some (.cells #[.int .i64 N.n, .string N.r] 27 (0, 0))) := rowKeep r_w19.out b10
  have r_g010 : Hid (W10.heap[W6.heap.size]? = some (.cells #[.int .i64 M.n, .string M.r] 27 (0, 0))) := rowKeep r_g09.out b10
  have r_g110 : Hid (W10.heap[W6.heap.size + 1]? = some (.cells #[.int .i64 N.n, .string N.r] 27 (0, 0))) := rowKeep r_g19.out b10
  have c_w010_0 : W10.cell? ⟨W3.heap.size, 0, none⟩ = some (.int .i64 M.n) := row_at r_w010.out 0
  have a_w010_0 : ∀ o, (W10.alloc o).cell? ⟨W3.heap.size, 0, none⟩ = some (.int .i64 M.n) := fun o => keepR c_w010_0 ((Below.refl _ _).alloc (Nat.le_refl _) o)
  have c_w010_1 : W10.cell? ⟨W3.heap.size, 1, none⟩ = some (.string M.r) := row_at r_w010.out 1
  have a_w010_1 : ∀ o, (W10.alloc o).cell? ⟨W3.heap.size, 1, none⟩ = some (.string M.r) := fun o => keepR c_w010_1 ((Below.refl _ _).alloc (Nat.le_refl _) o)
  have c_w110_0 : W10.cell? ⟨W3.heap.size + 1, 0, none⟩ = some (.int .i64 N.n) := row_at r_w110.out 0
  have a_w110_0 : ∀ o, (W10.alloc o).cell? ⟨W3.heap.size + 1, 0, none⟩ = some (.int .i64 N.n) := fun o => keepR c_w110_0 ((Below.refl _ _).alloc (Nat.le_refl _) o)
  have c_w110_1 : W10.cell? ⟨W3.heap.size + 1, 1, none⟩ = some (.string N.r) := row_at r_w110.out 1
  have a_w110_1 : ∀ o, (W10.alloc o).cell? ⟨W3.heap.size + 1, 1, none⟩ = some (.string N.r) := fun o => keepR c_w110_1 ((Below.refl _ _).alloc (Nat.le_refl _) o)
  have c_g010_0 : W10.cell? ⟨W6.heap.size, 0, none⟩ = some (.int .i64 M.n) := row_at r_g010.out 0
  have a_g010_0 : ∀ o, (W10.alloc o).cell? ⟨W6.heap.size, 0, none⟩ = some (.int .i64 M.n) := fun o => keepR c_g010_0 ((Below.refl _ _).alloc (Nat.le_refl _) o)
  have c_g010_1 : W10.cell? ⟨W6.heap.size, 1, none⟩ = some (.string M.r) := row_at r_g010.out 1
  have a_g010_1 : ∀ o, (W10.alloc o).cell? ⟨W6.heap.size, 1, none⟩ = some (.string M.r) := fun o => keepR c_g010_1 ((Below.refl _ _).alloc (Nat.le_refl _) o)
  have c_g110_0 : W10.cell? ⟨W6.heap.size + 1, 0, none⟩ = some (.int .i64 N.n) := row_at r_g110.out 0
  have a_g110_0 : ∀ o, (W10.alloc o).cell? ⟨W6.heap.size + 1, 0, none⟩ = some (.int .i64 N.n) := fun o => keepR c_g110_0 ((Below.refl _ _).alloc (Nat.le_refl _) o)
  have c_g110_1 : W10.cell? ⟨W6.heap.size + 1, 1, none⟩ = some (.string N.r) := row_at r_g110.out 1
  have a_g110_1 : ∀ o, (W10.alloc o).cell? ⟨W6.heap.size + 1, 1, none⟩ = some (.string N.r) := fun o => keepR c_g110_1 ((Below.refl _ _).alloc (Nat.le_refl _) o)
  clear r_w09 c_w09_0 c_w09_1 a_w09_0 a_w09_1 r_w19 c_w19_0 c_w19_1 a_w19_0 a_w19_1 r_g09 c_g09_0 c_g09_1 a_g09_0 a_g09_1 r_g19 c_g19_0 c_g19_1 a_g19_0 a_g19_1
  have f_x10 : Hid (Sh W10 v_x t) := Sh.later f_x9.out b10
  clear f_x9
  have f_u10 : Hid (Sh W10 v_u t) := o_u10.sh
  clear o_u10
  go_wp2_with fail
  refine (eq_heads W10 v_x v_u t f_x10.out f_u10.out (by omega)).mono ?_
  rintro e W11 ⟨rfl, b11⟩
  have z11 : W10.heap.size ≤ W11.heap.size := b11.size
  have B11 : Hid (Below w.heap.size w W11) := B10.out.trans (b11.mono B10.out.size)
  have r_w011 : Hid (W11.heap[W3.heap.size]? = some (.cells #[.int .i64 M.n, .string M.r] 27 (0, 0))) := rowKeep r_w010.out b11
  have r_w111 : Hid (W11.heap[W3.heap.size + 1]? = some (.cells #[.int .i64 N.n, .string N.r] 27 (0, 0))) := rowKeep r_w110.out b11
  have r_g011 : Hid (W11.heap[W6.heap.size]? = some (.cells #[.int .i64 M.n, .string M.r] 27 (0, 0))) := rowKeep r_g010.out b11
  have r_g111 : Hid (W11.heap[W6.heap.size + 1]? = some (.cells #[.int .i64 N.n, .string N.r] 27 (0, 0))) := rowKeep r_g110.out b11
  have c_w011_0 : W11.cell? ⟨W3.heap.size, 0, none⟩ = some (.int .i64 M.n) := row_at r_w011.out 0
  have a_w011_0 : ∀ o, (W11.alloc o).cell? ⟨W3.heap.size, 0, none⟩ = some (.int .i64 M.n) := fun o => keepR c_w011_0 ((Below.refl _ _).alloc (Nat.le_refl _) o)
  have c_w011_1 : W11.cell? ⟨W3.heap.size, 1, none⟩ = some (.string M.r) := row_at r_w011.out 1
  have a_w011_1 : ∀ o, (W11.alloc o).cell? ⟨W3.heap.size, 1, none⟩ = some (.string M.r) := fun o => keepR c_w011_1 ((Below.refl _ _).alloc (Nat.le_refl _) o)
  have c_w111_0 : W11.cell? ⟨W3.heap.size + 1, 0, none⟩ = some (.int .i64 N.n) := row_at r_w111.out 0
  have a_w111_0 : ∀ o, (W11.alloc o).cell? ⟨W3.heap.size + 1, 0, none⟩ = some (.int .i64 N.n) := fun o => keepR c_w111_0 ((Below.refl _ _).alloc (Nat.le_refl _) o)
  have c_w111_1 : W11.cell? ⟨W3.heap.size + 1, 1, none⟩ = some (.string N.r) := row_at r_w111.out 1
  have a_w111_1 : ∀ o, (W11.alloc o).cell? ⟨W3.heap.size + 1, 1, none⟩ = some (.string N.r) := fun o => keepR c_w111_1 ((Below.refl _ _).alloc (Nat.le_refl _) o)
  have c_g011_0 : W11.cell? ⟨W6.heap.size, 0, none⟩ = some (.int .i64 M.n) := row_at r_g011.out 0
  have a_g011_0 : ∀ o, (W11.alloc o).cell? ⟨W6.heap.size, 0, none⟩ = some (.int .i64 M.n) := fun o => keepR c_g011_0 ((Below.refl _ _).alloc (Nat.le_refl _) o)
  have c_g011_1 : W11.cell? ⟨W6.heap.size, 1, none⟩ = some (.string M.r) := row_at r_g011.out 1
  have a_g011_1 : ∀ o, (W11.alloc o).cell? ⟨W6.heap.size, 1, none⟩ = some (.string M.r) := fun o => keepR c_g011_1 ((Below.refl _ _).alloc (Nat.le_refl _) o)
  have c_g111_0 : W11.cell? ⟨W6.heap.size + 1, 0, none⟩ = some (.int .i64 N.n) := row_at r_g111.out 0
  have a_g111_0 : ∀ o, (W11.alloc o).cell? ⟨W6.heap.size + 1, 0, none⟩ = some (.int .i64 N.n) := fun o => keepR c_g111_0 ((Below.refl _ _).alloc (Nat.le_refl _) o)
  have c_g111_1 : W11.cell? ⟨W6.heap.size + 1, 1, none⟩ = some (.string N.r) := row_at r_g111.out 1
  have a_g111_1 : ∀ o, (W11.alloc o).cell? ⟨W6.heap.size + 1, 1, none⟩ = some (.string N.r) := fun o => keepR c_g111_1 ((Below.refl _ _).alloc (Nat.le_refl _) o)
  clear r_w010 c_w010_0 c_w010_1 a_w010_0 a_w010_1 r_w110 c_w110_0 c_w110_1 a_w110_0 a_w110_1 r_g010 c_g010_0 c_g010_1 a_g010_0 a_g010_1 r_g110 c_g110_0 c_g110_1 a_g110_0 a_g110_1
  have f_x11 : Hid (Sh W11 v_x t) := Sh.later f_x10.out b11
  have f_u11 : Hid (Sh W11 v_u t) := Sh.later f_u10.out b11
  clear f_x10 f_u10
  go_wp2
  go_ret
  exact ⟨rfl, B11.out⟩

set_option maxRecDepth 1000000 in
set_option maxHeartbeats 4000000 in
theorem exact_signed (w : World) (v0 : Value) (t : List Hd) (h0 : Sh w v0 t) (y0 : ∀ x ∈ t, x.r.size ≤ maxLen) (m0 : t.length ≤ maxLen) (h : Hd) (hm : h.r.size ≤ maxLen)
    (iF : ∀ W v, Below w.heap.size w W → Sh W v t → t.length ≤ 1048576 → (∀ x ∈ t, x.r.size ≤ 1048576) → h.r.size ≤ 1048576 → Calls Try.prog 11 #[v, .agg #[.int .i64 h.n, .string h.r]] W fun e w' => e = .returned (.bool (signed t h)) ∧ Below W.heap.size W w') :
    Calls Try.prog 5 #[v0, .agg #[.int .i64 h.n, .string h.r]] w fun e w' => e = .returned (.bool true) ∧ Below w.heap.size w w' := by
  unfold maxLen at *
  have B0 : Hid (Below w.heap.size w w) := Below.refl _ _
  obtain ⟨W1, HW1, b1, y1, r_a1⟩ : ∃ X, Hid ((w.alloc (.cells #[.int .i64 h.n, .string h.r] 33)) = X) ∧ Below w.heap.size w X ∧ w.heap.size + 1 ≤ X.heap.size ∧ Hid (X.heap[w.heap.size]? = some (.cells #[.int .i64 h.n, .string h.r] 33 (0, 0))) := ⟨_, rfl, (Below.refl _ _).alloc (Nat.le_refl _) _, by simp, heap_alloc_new _ _⟩
  have z1 : w.heap.size ≤ W1.heap.size := b1.size
  have B1 : Hid (Below w.heap.size w W1) := B0.out.trans (b1.mono B0.out.size)
  have c_a1_0 : W1.cell? ⟨w.heap.size, 0, none⟩ = some (.int .i64 h.n) := row_at r_a1.out 0
  have a_a1_0 : ∀ o, (W1.alloc o).cell? ⟨w.heap.size, 0, none⟩ = some (.int .i64 h.n) := fun o => keepR c_a1_0 ((Below.refl _ _).alloc (Nat.le_refl _) o)
  have c_a1_1 : W1.cell? ⟨w.heap.size, 1, none⟩ = some (.string h.r) := row_at r_a1.out 1
  have a_a1_1 : ∀ o, (W1.alloc o).cell? ⟨w.heap.size, 1, none⟩ = some (.string h.r) := fun o => keepR c_a1_1 ((Below.refl _ _).alloc (Nat.le_refl _) o)
  have hsz : ∀ W, Below w.heap.size w W → _ := fun W hW => sz_heads W v0 t 1048576 (h0.later hW) (fun n hn => y0 n hn) m0 (by omega)
  go_enter Try.func5, Try.ntmps5
  go_wp2_with fail
  rw [HW1.out]
  refine (hsz W1 B1.out).mono ?_
  rintro e W2 ⟨⟨r0, rfl, hr1, hr0⟩, b2⟩
  have z2 : W1.heap.size ≤ W2.heap.size := b2.size
  have B2 : Hid (Below w.heap.size w W2) := B1.out.trans (b2.mono B1.out.size)
  have r_a2 : Hid (W2.heap[w.heap.size]? = some (.cells #[.int .i64 h.n, .string h.r] 33 (0, 0))) := rowKeep r_a1.out b2
  have c_a2_0 : W2.cell? ⟨w.heap.size, 0, none⟩ = some (.int .i64 h.n) := row_at r_a2.out 0
  have a_a2_0 : ∀ o, (W2.alloc o).cell? ⟨w.heap.size, 0, none⟩ = some (.int .i64 h.n) := fun o => keepR c_a2_0 ((Below.refl _ _).alloc (Nat.le_refl _) o)
  have c_a2_1 : W2.cell? ⟨w.heap.size, 1, none⟩ = some (.string h.r) := row_at r_a2.out 1
  have a_a2_1 : ∀ o, (W2.alloc o).cell? ⟨w.heap.size, 1, none⟩ = some (.string h.r) := fun o => keepR c_a2_1 ((Below.refl _ _).alloc (Nat.le_refl _) o)
  clear r_a1 c_a1_0 c_a1_1 a_a1_0 a_a1_1
  by_cases hr : r0 < 0
  · go_wp2
    go_ret
    exact ⟨rfl, B2.out⟩
  have hfit : 0 ≤ r0 ∧ t.length ≤ 1048576 ∧ ∀ n ∈ t, n.r.size ≤ 1048576 := by rcases hr0 with h | h; exact absurd h hr; exact h
  obtain ⟨hr2, hl, hz⟩ := hfit
  clear hsz hr0
  obtain ⟨r1, rfl⟩ : ∃ r1 : Nat, r0 = (r1 : Int) := ⟨r0.toNat, by omega⟩
  have q0 : ∀ W, _ := fun W => sz_head W h (r1 : Int) hm (by omega) (by omega)
  by_cases hb : (r1 : Int) - (h.r.size : Int) < 0
  · simp only [if_pos hb] at q0
    clear iF
    go_wp2_with fail
    refine (q0 _).mono ?_
    rintro e W3 ⟨rfl, b3⟩
    have B3 : Below w.heap.size w W3 := B2.out.trans (b3.mono B2.out.size)
    go_wp2
    go_ret
    exact ⟨rfl, B3⟩
  simp only [if_neg hb] at q0
  have hzh : h.r.size ≤ 1048576 := by omega
  have q1 : ∀ W v, Sh W v t → _ := fun W v hv => signed_spec W v t h hv (by omega)
  have q2 : ∀ W v, Below w.heap.size w W → Sh W v t → _ := fun W v hW hv => iF W v hW hv hl hz hzh
  obtain ⟨T, hT⟩ : ∃ T, signed t h = T := ⟨_, rfl⟩
  simp only [hT] at q1 q2
  have nok : (T != T) = false := by simp
  have q3 : ∀ W, Below w.heap.size w W → _ := fun W hW => to_heads W v0 t (h0.later hW) (by omega)
  clear hT iF hz y0 hm
  go_wp2_with fail
  refine (q0 W2).mono ?_
  rintro e W3 ⟨rfl, b3⟩
  have z3 : W2.heap.size ≤ W3.heap.size := b3.size
  have B3 : Hid (Below w.heap.size w W3) := B2.out.trans (b3.mono B2.out.size)
  have r_a3 : Hid (W3.heap[w.heap.size]? = some (.cells #[.int .i64 h.n, .string h.r] 33 (0, 0))) := rowKeep r_a2.out b3
  have c_a3_0 : W3.cell? ⟨w.heap.size, 0, none⟩ = some (.int .i64 h.n) := row_at r_a3.out 0
  have a_a3_0 : ∀ o, (W3.alloc o).cell? ⟨w.heap.size, 0, none⟩ = some (.int .i64 h.n) := fun o => keepR c_a3_0 ((Below.refl _ _).alloc (Nat.le_refl _) o)
  have c_a3_1 : W3.cell? ⟨w.heap.size, 1, none⟩ = some (.string h.r) := row_at r_a3.out 1
  have a_a3_1 : ∀ o, (W3.alloc o).cell? ⟨w.heap.size, 1, none⟩ = some (.string h.r) := fun o => keepR c_a3_1 ((Below.refl _ _).alloc (Nat.le_refl _) o)
  clear r_a2 c_a2_0 c_a2_1 a_a2_0 a_a2_1
  go_wp2_with fail
  refine wp_region_held_drew (S := fun w' => w'.cell? ⟨w.heap.size, 0, none⟩ = some (.int .i64 h.n) ∧ w'.cell? ⟨w.heap.size, 1, none⟩ = some (.string h.r)) (by kernel_rfl) ⟨c_a3_0, c_a3_1⟩ (fun hHeld => ?_)
  (refine wpAnyH_take (i := 0) (v := ?v0x1) rfl (by kernel_rfl) (by kernel_rfl) (by kernel_rfl) (fun _ _ _ h => h) (Or.inl ⟨by rfl, ?hy0x1⟩) (by assumption) ?rest0x1; case hy0x1 => (intro w hSw; (try dsimp only at hSw); go_split_ands; go_simp; (try with_reducible rfl)))
  try simp only [Act.put, List.setIfInBounds_toArray, List.set_cons_zero, List.set_cons_succ, List.getElem_toArray, List.getElem_cons_zero, List.getElem_cons_succ]
  (refine wpAnyH_take (i := 2) (v := ?v2x2) rfl (by kernel_rfl) (by kernel_rfl) (by kernel_rfl) (fun _ _ _ h => h) (Or.inl ⟨by rfl, ?hy2x2⟩) (by assumption) ?rest2x2; case hy2x2 => (intro w hSw; (try dsimp only at hSw); go_split_ands; go_simp; (try with_reducible rfl)))
  try simp only [Act.put, List.setIfInBounds_toArray, List.set_cons_zero, List.set_cons_succ, List.getElem_toArray, List.getElem_cons_zero, List.getElem_cons_succ]
  refine wpAnyH_ready (rs := [1]) (by kernel_rfl) (by simp) ?_
  refine AllReadyH.cons rfl (fun K hK => ?_) AllReadyH.nil
  go_simp
  refine (q3 W3.drew (Below.drew B3.out)).mono ?_
  rintro e W4 ⟨v_t, rfl, o_t4, b4⟩
  have b4 : Below W3.heap.size W3 W4 := (Below.drew (Below.refl _ _)).trans b4
  refine hK.out _ _ ⟨keepR (W := W3) hHeld.1 b4, keepR (W := W3) hHeld.2 b4⟩ (fun hHeld => ?_)
  clear hK K
  try simp only [Act.put, List.setIfInBounds_toArray, List.set_cons_zero, List.set_cons_succ, List.getElem_toArray, List.getElem_cons_zero, List.getElem_cons_succ]
  have z4 : W3.heap.size ≤ W4.heap.size := b4.size
  have B4 : Hid (Below w.heap.size w W4) := B3.out.trans (b4.mono B3.out.size)
  have r_a4 : Hid (W4.heap[w.heap.size]? = some (.cells #[.int .i64 h.n, .string h.r] 33 (0, 0))) := rowKeep r_a3.out b4
  have c_a4_0 : W4.cell? ⟨w.heap.size, 0, none⟩ = some (.int .i64 h.n) := row_at r_a4.out 0
  have a_a4_0 : ∀ o, (W4.alloc o).cell? ⟨w.heap.size, 0, none⟩ = some (.int .i64 h.n) := fun o => keepR c_a4_0 ((Below.refl _ _).alloc (Nat.le_refl _) o)
  have c_a4_1 : W4.cell? ⟨w.heap.size, 1, none⟩ = some (.string h.r) := row_at r_a4.out 1
  have a_a4_1 : ∀ o, (W4.alloc o).cell? ⟨w.heap.size, 1, none⟩ = some (.string h.r) := fun o => keepR c_a4_1 ((Below.refl _ _).alloc (Nat.le_refl _) o)
  clear r_a3 c_a3_0 c_a3_1 a_a3_0 a_a3_1
  have f_t4 : Hid (Sh W4 v_t t) := o_t4.sh
  clear o_t4
  refine wpAnyH_ready (rs := [3]) (by kernel_rfl) (by simp) ?_
  refine AllReadyH.cons rfl (fun K hK => ?_) AllReadyH.nil
  go_simp
  refine (to_head W4 h).mono ?_
  rintro e W5 ⟨rfl, b5⟩
  refine hK.out _ _ ⟨keepR hHeld.1 b5, keepR hHeld.2 b5⟩ (fun hHeld => ?_)
  clear hK K
  try simp only [Act.put, List.setIfInBounds_toArray, List.set_cons_zero, List.set_cons_succ, List.getElem_toArray, List.getElem_cons_zero, List.getElem_cons_succ]
  have z5 : W4.heap.size ≤ W5.heap.size := b5.size
  have B5 : Hid (Below w.heap.size w W5) := B4.out.trans (b5.mono B4.out.size)
  have r_a5 : Hid (W5.heap[w.heap.size]? = some (.cells #[.int .i64 h.n, .string h.r] 33 (0, 0))) := rowKeep r_a4.out b5
  have c_a5_0 : W5.cell? ⟨w.heap.size, 0, none⟩ = some (.int .i64 h.n) := row_at r_a5.out 0
  have a_a5_0 : ∀ o, (W5.alloc o).cell? ⟨w.heap.size, 0, none⟩ = some (.int .i64 h.n) := fun o => keepR c_a5_0 ((Below.refl _ _).alloc (Nat.le_refl _) o)
  have c_a5_1 : W5.cell? ⟨w.heap.size, 1, none⟩ = some (.string h.r) := row_at r_a5.out 1
  have a_a5_1 : ∀ o, (W5.alloc o).cell? ⟨w.heap.size, 1, none⟩ = some (.string h.r) := fun o => keepR c_a5_1 ((Below.refl _ _).alloc (Nat.le_refl _) o)
  clear r_a4 c_a4_0 c_a4_1 a_a4_0 a_a4_1
  have f_t5 : Hid (Sh W5 v_t t) := Sh.later f_t4.out b5
  clear f_t4
  refine wpAnyH_ready (rs := [4]) (by kernel_rfl) (by simp) ?_
  refine AllReadyH.cons rfl (fun K hK => ?_) AllReadyH.nil
  go_simp
  refine (q1 W5 v_t f_t5.out).mono ?_
  rintro e W6 ⟨rfl, b6⟩
  refine hK.out _ _ ⟨keepR hHeld.1 b6, keepR hHeld.2 b6⟩ (fun hHeld => ?_)
  clear hK K
  try simp only [Act.put, List.setIfInBounds_toArray, List.set_cons_zero, List.set_cons_succ, List.getElem_toArray, List.getElem_cons_zero, List.getElem_cons_succ]
  have z6 : W5.heap.size ≤ W6.heap.size := b6.size
  have B6 : Hid (Below w.heap.size w W6) := B5.out.trans (b6.mono B5.out.size)
  have r_a6 : Hid (W6.heap[w.heap.size]? = some (.cells #[.int .i64 h.n, .string h.r] 33 (0, 0))) := rowKeep r_a5.out b6
  have c_a6_0 : W6.cell? ⟨w.heap.size, 0, none⟩ = some (.int .i64 h.n) := row_at r_a6.out 0
  have a_a6_0 : ∀ o, (W6.alloc o).cell? ⟨w.heap.size, 0, none⟩ = some (.int .i64 h.n) := fun o => keepR c_a6_0 ((Below.refl _ _).alloc (Nat.le_refl _) o)
  have c_a6_1 : W6.cell? ⟨w.heap.size, 1, none⟩ = some (.string h.r) := row_at r_a6.out 1
  have a_a6_1 : ∀ o, (W6.alloc o).cell? ⟨w.heap.size, 1, none⟩ = some (.string h.r) := fun o => keepR c_a6_1 ((Below.refl _ _).alloc (Nat.le_refl _) o)
  clear r_a5 c_a5_0 c_a5_1 a_a5_0 a_a5_1
  have f_t6 : Hid (Sh W6 v_t t) := Sh.later f_t5.out b6
  clear f_t5
  (refine wpAnyH_take (i := 5) (v := ?v5x3) rfl (by kernel_rfl) (by kernel_rfl) (by kernel_rfl) (fun _ _ _ h => h) (Or.inl ⟨by rfl, ?hy5x3⟩) (by assumption) ?rest5x3; case hy5x3 => (intro w hSw; (try dsimp only at hSw); go_split_ands; go_simp; (try with_reducible rfl)))
  try simp only [Act.put, List.setIfInBounds_toArray, List.set_cons_zero, List.set_cons_succ, List.getElem_toArray, List.getElem_cons_zero, List.getElem_cons_succ]
  refine wpAnyH_done (by kernel_rfl) ?_ _
  clear hHeld
  clear f_t6
  go_wp2_with fail
  refine (q3 W6 B6.out).mono ?_
  rintro e W7 ⟨v_x, rfl, o_x7, b7⟩
  have z7 : W6.heap.size ≤ W7.heap.size := b7.size
  have B7 : Hid (Below w.heap.size w W7) := B6.out.trans (b7.mono B6.out.size)
  have r_a7 : Hid (W7.heap[w.heap.size]? = some (.cells #[.int .i64 h.n, .string h.r] 33 (0, 0))) := rowKeep r_a6.out b7
  have c_a7_0 : W7.cell? ⟨w.heap.size, 0, none⟩ = some (.int .i64 h.n) := row_at r_a7.out 0
  have a_a7_0 : ∀ o, (W7.alloc o).cell? ⟨w.heap.size, 0, none⟩ = some (.int .i64 h.n) := fun o => keepR c_a7_0 ((Below.refl _ _).alloc (Nat.le_refl _) o)
  have c_a7_1 : W7.cell? ⟨w.heap.size, 1, none⟩ = some (.string h.r) := row_at r_a7.out 1
  have a_a7_1 : ∀ o, (W7.alloc o).cell? ⟨w.heap.size, 1, none⟩ = some (.string h.r) := fun o => keepR c_a7_1 ((Below.refl _ _).alloc (Nat.le_refl _) o)
  clear r_a6 c_a6_0 c_a6_1 a_a6_0 a_a6_1
  have f_x7 : Hid (Sh W7 v_x t) := o_x7.sh
  clear o_x7
  go_wp2_with fail
  refine (to_head W7 h).mono ?_
  rintro e W8 ⟨rfl, b8⟩
  have z8 : W7.heap.size ≤ W8.heap.size := b8.size
  have B8 : Hid (Below w.heap.size w W8) := B7.out.trans (b8.mono B7.out.size)
  have r_a8 : Hid (W8.heap[w.heap.size]? = some (.cells #[.int .i64 h.n, .string h.r] 33 (0, 0))) := rowKeep r_a7.out b8
  have c_a8_0 : W8.cell? ⟨w.heap.size, 0, none⟩ = some (.int .i64 h.n) := row_at r_a8.out 0
  have a_a8_0 : ∀ o, (W8.alloc o).cell? ⟨w.heap.size, 0, none⟩ = some (.int .i64 h.n) := fun o => keepR c_a8_0 ((Below.refl _ _).alloc (Nat.le_refl _) o)
  have c_a8_1 : W8.cell? ⟨w.heap.size, 1, none⟩ = some (.string h.r) := row_at r_a8.out 1
  have a_a8_1 : ∀ o, (W8.alloc o).cell? ⟨w.heap.size, 1, none⟩ = some (.string h.r) := fun o => keepR c_a8_1 ((Below.refl _ _).alloc (Nat.le_refl _) o)
  clear r_a7 c_a7_0 c_a7_1 a_a7_0 a_a7_1
  have f_x8 : Hid (Sh W8 v_x t) := Sh.later f_x7.out b8
  clear f_x7
  go_wp2_with fail
  refine (q2 W8 v_x B8.out f_x8.out).mono ?_
  rintro e W9 ⟨rfl, b9⟩
  have z9 : W8.heap.size ≤ W9.heap.size := b9.size
  have B9 : Hid (Below w.heap.size w W9) := B8.out.trans (b9.mono B8.out.size)
  have r_a9 : Hid (W9.heap[w.heap.size]? = some (.cells #[.int .i64 h.n, .string h.r] 33 (0, 0))) := rowKeep r_a8.out b9
  have c_a9_0 : W9.cell? ⟨w.heap.size, 0, none⟩ = some (.int .i64 h.n) := row_at r_a9.out 0
  have a_a9_0 : ∀ o, (W9.alloc o).cell? ⟨w.heap.size, 0, none⟩ = some (.int .i64 h.n) := fun o => keepR c_a9_0 ((Below.refl _ _).alloc (Nat.le_refl _) o)
  have c_a9_1 : W9.cell? ⟨w.heap.size, 1, none⟩ = some (.string h.r) := row_at r_a9.out 1
  have a_a9_1 : ∀ o, (W9.alloc o).cell? ⟨w.heap.size, 1, none⟩ = some (.string h.r) := fun o => keepR c_a9_1 ((Below.refl _ _).alloc (Nat.le_refl _) o)
  clear r_a8 c_a8_0 c_a8_1 a_a8_0 a_a8_1
  have f_x9 : Hid (Sh W9 v_x t) := Sh.later f_x8.out b9
  clear f_x8
  go_wp2_with fail
  refine (q3 W9 B9.out).mono ?_
  rintro e W10 ⟨v_u, rfl, o_u10, b10⟩
  have z10 : W9.heap.size ≤ W10.heap.size := b10.size
  have B10 : Hid (Below w.heap.size w W10) := B9.out.trans (b10.mono B9.out.size)
  have r_a10 : Hid (W10.heap[w.heap.size]? = some (.cells #[.int .i64 h.n, .string h.r] 33 (0, 0))) := rowKeep r_a9.out b10
  have c_a10_0 : W10.cell? ⟨w.heap.size, 0, none⟩ = some (.int .i64 h.n) := row_at r_a10.out 0
  have a_a10_0 : ∀ o, (W10.alloc o).cell? ⟨w.heap.size, 0, none⟩ = some (.int .i64 h.n) := fun o => keepR c_a10_0 ((Below.refl _ _).alloc (Nat.le_refl _) o)
  have c_a10_1 : W10.cell? ⟨w.heap.size, 1, none⟩ = some (.string h.r) := row_at r_a10.out 1
  have a_a10_1 : ∀ o, (W10.alloc o).cell? ⟨w.heap.size, 1, none⟩ = some (.string h.r) := fun o => keepR c_a10_1 ((Below.refl _ _).alloc (Nat.le_refl _) o)
  clear r_a9 c_a9_0 c_a9_1 a_a9_0 a_a9_1
  have f_x10 : Hid (Sh W10 v_x t) := Sh.later f_x9.out b10
  clear f_x9
  have f_u10 : Hid (Sh W10 v_u t) := o_u10.sh
  clear o_u10
  go_wp2_with fail
  refine (eq_heads W10 v_x v_u t f_x10.out f_u10.out (by omega)).mono ?_
  rintro e W11 ⟨rfl, b11⟩
  have z11 : W10.heap.size ≤ W11.heap.size := b11.size
  have B11 : Hid (Below w.heap.size w W11) := B10.out.trans (b11.mono B10.out.size)
  have r_a11 : Hid (W11.heap[w.heap.size]? = some (.cells #[.int .i64 h.n, .string h.r] 33 (0, 0))) := rowKeep r_a10.out b11
  have c_a11_0 : W11.cell? ⟨w.heap.size, 0, none⟩ = some (.int .i64 h.n) := row_at r_a11.out 0
  have a_a11_0 : ∀ o, (W11.alloc o).cell? ⟨w.heap.size, 0, none⟩ = some (.int .i64 h.n) := fun o => keepR c_a11_0 ((Below.refl _ _).alloc (Nat.le_refl _) o)
  have c_a11_1 : W11.cell? ⟨w.heap.size, 1, none⟩ = some (.string h.r) := row_at r_a11.out 1
  have a_a11_1 : ∀ o, (W11.alloc o).cell? ⟨w.heap.size, 1, none⟩ = some (.string h.r) := fun o => keepR c_a11_1 ((Below.refl _ _).alloc (Nat.le_refl _) o)
  clear r_a10 c_a10_0 c_a10_1 a_a10_0 a_a10_1
  have f_x11 : Hid (Sh W11 v_x t) := Sh.later f_x10.out b11
  have f_u11 : Hid (Sh W11 v_u t) := Sh.later f_u10.out b11
  clear f_x10 f_u10
  go_wp2
  go_ret
  exact ⟨rfl, B11.out⟩

end Go.Proofs.Ytanidhhcedinoaa.He
