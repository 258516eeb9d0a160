/- Texts in one: SrX, Ed1. -/
import Derived.Test.YtfpaichdkddglabDoorPk13
import Derived.Test.YtfpaichdkddglabDoorPk15
import Derived.Test.YtfpaichdkddglabDoorPk9
/- Chapter 12: the exact laws of new stores, of what is right and of what is sure, over contracts of the landed functions. -/
namespace Go.Proofs.YtfpaichdkddglabDoor.Sr
open Go.RowKit Go.Proofs.YtfpaichdkddglabDoor.Mem Go.Proofs.YtfpaichdkddglabDoor.Laws Go.Proofs.YtfpaichdkddglabDoor.Bytes Go.Proofs.YtfpaichdkddglabDoor.Sha Go.Proofs.YtfpaichdkddglabDoor.Tr Go.Proofs.YtfpaichdkddglabDoor.He Go.Proofs.YtfpaichdkddglabDoor.Lg
set_option linter.unusedVariables false
set_option linter.unusedSimpArgs false

theorem slNilS (w : World) : Sl w (.slice none 0 0) (ss []) := ⟨none, 0, rfl, Nat.le_refl _, fun _ => rfl, fun h => by simp [ss] at h⟩
theorem slNilB (w : World) : Sl w (.slice none 0 0) (bs []) := ⟨none, 0, rfl, Nat.le_refl _, fun _ => rfl, fun h => by simp [bs] at h⟩

theorem tot_mem : ∀ (l : List ByteArray) (s : ByteArray), s ∈ l → s.size ≤ Puts.tot l := by
  intro l
  induction l with
  | nil => intro s h; cases h
  | cons a r ih =>
    intro s h
    simp only [Puts.tot]
    rcases List.mem_cons.1 h with rfl | h
    · omega
    · have := ih s h; omega

set_option maxRecDepth 1000000 in
set_option maxHeartbeats 16000000 in
theorem exact_storenew (w : World)
    (iF : ∀ W, Below w.heap.size w W → Calls Tryd.prog 6 #[] W fun e w' => ∃ v' vb', e = .returned (.agg #[v', .int .i64 (headOf []).n, .string (headOf []).r, vb', .int .i64 0]) ∧ Own w' W.heap.size w'.heap.size 9 v' (ss []) ∧ Own w' W.heap.size w'.heap.size 5 vb' (bs []) ∧ Below W.heap.size W w') :
    Calls Tryd.prog 3 #[] w fun e w' => e = .returned (.bool true) ∧ Below w.heap.size w w' := by
  have B0 : Hid (Below w.heap.size w w) := Below.refl _ _
  have q1 : ∀ W, _ := fun W => storenew_spec W
  have q2 : ∀ W, Below w.heap.size w W → _ := fun W hB => iF W hB
  obtain ⟨M, hM⟩ : ∃ M, headOf [] = M := ⟨_, rfl⟩
  simp only [hM] at q1 q2
  clear hM iF
  go_enter Tryd.func3, Tryd.ntmps3
  go_wp2_with fail
  refine (q1 w).mono ?_
  rintro e W1 ⟨rfl, b1⟩
  have z1 : w.heap.size ≤ W1.heap.size := b1.size
  have B1 : Hid (Below w.heap.size w W1) := B0.out.trans (b1.mono B0.out.size)
  obtain ⟨W2, HW2, b2, y2, hS2, r_w02⟩ : ∃ X, Hid ((W1.alloc (.cells #[.slice none 0 0, .int .i64 M.n, .string M.r, .slice none 0 0, .int .i64 0] 29)) = X) ∧ Below W1.heap.size W1 X ∧ W1.heap.size + 1 ≤ X.heap.size ∧ Hid (X.heap.size = W1.heap.size + 1) ∧ Hid (X.heap[W1.heap.size]? = some (.cells #[.slice none 0 0, .int .i64 M.n, .string M.r, .slice none 0 0, .int .i64 0] 29 (0, 0))) := ⟨_, rfl, ((Below.refl _ _).alloc (Nat.le_refl _) _), by simp, by show _ = _; simp, (by show _ = _; exact alloc_nth1_0 W1 _)⟩
  have z2 : W1.heap.size ≤ W2.heap.size := b2.size
  have B2 : Hid (Below w.heap.size w W2) := B1.out.trans (b2.mono B1.out.size)
  have c_w02_0 : W2.cell? ⟨W1.heap.size, 0, none⟩ = some (.slice none 0 0) := row_at r_w02.out 0
  have c_w02_1 : W2.cell? ⟨W1.heap.size, 1, none⟩ = some (.int .i64 M.n) := row_at r_w02.out 1
  have c_w02_2 : W2.cell? ⟨W1.heap.size, 2, none⟩ = some (.string M.r) := row_at r_w02.out 2
  have c_w02_3 : W2.cell? ⟨W1.heap.size, 3, none⟩ = some (.slice none 0 0) := row_at r_w02.out 3
  have c_w02_4 : W2.cell? ⟨W1.heap.size, 4, none⟩ = some (.int .i64 0) := row_at r_w02.out 4
  go_wp2_with fail
  rw [HW2.out]
  refine (q2 W2 B2.out).mono ?_
  rintro e W3 ⟨v_g, v_gp, rfl, o_g3, o_gp3, b3⟩
  obtain ⟨lo_g, hi_g, lo_gp, hi_gp, d1_g, d2_g, d3_g, d4_g, d5_g, d6_g, d7_g, oo_g, oo_gp⟩ := Sr.pairN o_g3 o_gp3 b3.size
  clear o_g3 o_gp3
  obtain ⟨ao_g, L_g, cap_g, rfl, _, _⟩ := oo_g.form
  obtain ⟨ao_gp, L_gp, cap_gp, rfl, _, _⟩ := oo_gp.form
  have o_g3 : Hid (Own W3 lo_g hi_g 9 (.slice ao_g L_g cap_g) (ss [])) := oo_g
  have o_gp3 : Hid (Own W3 lo_gp hi_gp 5 (.slice ao_gp L_gp cap_gp) (bs [])) := oo_gp
  clear oo_g oo_gp
  have z3 : W2.heap.size ≤ W3.heap.size := b3.size
  have B3 : Hid (Below w.heap.size w W3) := B2.out.trans (b3.mono B2.out.size)
  have r_w03 : Hid (W3.heap[W1.heap.size]? = some (.cells #[.slice none 0 0, .int .i64 M.n, .string M.r, .slice none 0 0, .int .i64 0] 29 (0, 0))) := rowKeep r_w02.out b3
  have c_w03_0 : W3.cell? ⟨W1.heap.size, 0, none⟩ = some (.slice none 0 0) := row_at r_w03.out 0
  have c_w03_1 : W3.cell? ⟨W1.heap.size, 1, none⟩ = some (.int .i64 M.n) := row_at r_w03.out 1
  have c_w03_2 : W3.cell? ⟨W1.heap.size, 2, none⟩ = some (.string M.r) := row_at r_w03.out 2
  have c_w03_3 : W3.cell? ⟨W1.heap.size, 3, none⟩ = some (.slice none 0 0) := row_at r_w03.out 3
  have c_w03_4 : W3.cell? ⟨W1.heap.size, 4, none⟩ = some (.int .i64 0) := row_at r_w03.out 4
  clear r_w02 c_w02_0 c_w02_1 c_w02_2 c_w02_3 c_w02_4
  have a_w03_0 : ∀ o, (W3.alloc o).cell? ⟨W1.heap.size, 0, none⟩ = some (.slice none 0 0) := fun o => keepR c_w03_0 ((Below.refl _ _).alloc (Nat.le_refl _) o)
  have a_w03_1 : ∀ o, (W3.alloc o).cell? ⟨W1.heap.size, 1, none⟩ = some (.int .i64 M.n) := fun o => keepR c_w03_1 ((Below.refl _ _).alloc (Nat.le_refl _) o)
  have a_w03_2 : ∀ o, (W3.alloc o).cell? ⟨W1.heap.size, 2, none⟩ = some (.string M.r) := fun o => keepR c_w03_2 ((Below.refl _ _).alloc (Nat.le_refl _) o)
  have a_w03_3 : ∀ o, (W3.alloc o).cell? ⟨W1.heap.size, 3, none⟩ = some (.slice none 0 0) := fun o => keepR c_w03_3 ((Below.refl _ _).alloc (Nat.le_refl _) o)
  have a_w03_4 : ∀ o, (W3.alloc o).cell? ⟨W1.heap.size, 4, none⟩ = some (.int .i64 0) := fun o => keepR c_w03_4 ((Below.refl _ _).alloc (Nat.le_refl _) o)
  obtain ⟨W4, HW4, b4, y4, hS4, r_g04⟩ : ∃ X, Hid ((W3.alloc (.cells #[.slice ao_g L_g cap_g, .int .i64 M.n, .string M.r, .slice ao_gp L_gp cap_gp, .int .i64 0] 29)) = X) ∧ Below W3.heap.size W3 X ∧ W3.heap.size + 1 ≤ X.heap.size ∧ Hid (X.heap.size = W3.heap.size + 1) ∧ Hid (X.heap[W3.heap.size]? = some (.cells #[.slice ao_g L_g cap_g, .int .i64 M.n, .string M.r, .slice ao_gp L_gp cap_gp, .int .i64 0] 29 (0, 0))) := ⟨_, rfl, ((Below.refl _ _).alloc (Nat.le_refl _) _), by simp, by show _ = _; simp, (by show _ = _; exact alloc_nth1_0 W3 _)⟩
  have z4 : W3.heap.size ≤ W4.heap.size := b4.size
  have B4 : Hid (Below w.heap.size w W4) := B3.out.trans (b4.mono B3.out.size)
  have r_w04 : Hid (W4.heap[W1.heap.size]? = some (.cells #[.slice none 0 0, .int .i64 M.n, .string M.r, .slice none 0 0, .int .i64 0] 29 (0, 0))) := rowKeep r_w03.out b4
  have o_g4 : Hid (Own W4 (lo_g) (hi_g) 9 (.slice ao_g L_g cap_g) (ss [])) := Own.later o_g3.out b4 (by omega)
  have o_gp4 : Hid (Own W4 (lo_gp) (hi_gp) 5 (.slice ao_gp L_gp cap_gp) (bs [])) := Own.later o_gp3.out b4 (by omega)
  have c_w04_0 : W4.cell? ⟨W1.heap.size, 0, none⟩ = some (.slice none 0 0) := row_at r_w04.out 0
  have c_w04_1 : W4.cell? ⟨W1.heap.size, 1, none⟩ = some (.int .i64 M.n) := row_at r_w04.out 1
  have c_w04_2 : W4.cell? ⟨W1.heap.size, 2, none⟩ = some (.string M.r) := row_at r_w04.out 2
  have c_w04_3 : W4.cell? ⟨W1.heap.size, 3, none⟩ = some (.slice none 0 0) := row_at r_w04.out 3
  have c_w04_4 : W4.cell? ⟨W1.heap.size, 4, none⟩ = some (.int .i64 0) := row_at r_w04.out 4
  have c_g04_0 : W4.cell? ⟨W3.heap.size, 0, none⟩ = some (.slice ao_g L_g cap_g) := row_at r_g04.out 0
  have c_g04_1 : W4.cell? ⟨W3.heap.size, 1, none⟩ = some (.int .i64 M.n) := row_at r_g04.out 1
  have c_g04_2 : W4.cell? ⟨W3.heap.size, 2, none⟩ = some (.string M.r) := row_at r_g04.out 2
  have c_g04_3 : W4.cell? ⟨W3.heap.size, 3, none⟩ = some (.slice ao_gp L_gp cap_gp) := row_at r_g04.out 3
  have c_g04_4 : W4.cell? ⟨W3.heap.size, 4, none⟩ = some (.int .i64 0) := row_at r_g04.out 4
  clear r_w03 c_w03_0 c_w03_1 c_w03_2 c_w03_3 c_w03_4 o_g3 o_gp3
  go_wp2_with fail
  rw [HW4.out]
  clear a_w03_0 a_w03_1 a_w03_2 a_w03_3 a_w03_4
  refine (eq_store W4 _ _ _ _ [] M [] 0 o_g4.out.sl (slNilS _) o_gp4.out.sl (slNilB _) (by simp) (by simp)).mono ?_
  rintro e W5 ⟨rfl, b5⟩
  have z5 : W4.heap.size ≤ W5.heap.size := b5.size
  have B5 : Hid (Below w.heap.size w W5) := B4.out.trans (b5.mono B4.out.size)
  have r_w05 : Hid (W5.heap[W1.heap.size]? = some (.cells #[.slice none 0 0, .int .i64 M.n, .string M.r, .slice none 0 0, .int .i64 0] 29 (0, 0))) := rowKeep r_w04.out b5
  have r_g05 : Hid (W5.heap[W3.heap.size]? = some (.cells #[.slice ao_g L_g cap_g, .int .i64 M.n, .string M.r, .slice ao_gp L_gp cap_gp, .int .i64 0] 29 (0, 0))) := rowKeep r_g04.out b5
  have o_g5 : Hid (Own W5 (lo_g) (hi_g) 9 (.slice ao_g L_g cap_g) (ss [])) := Own.later o_g4.out b5 (by omega)
  have o_gp5 : Hid (Own W5 (lo_gp) (hi_gp) 5 (.slice ao_gp L_gp cap_gp) (bs [])) := Own.later o_gp4.out b5 (by omega)
  have c_w05_0 : W5.cell? ⟨W1.heap.size, 0, none⟩ = some (.slice none 0 0) := row_at r_w05.out 0
  have c_w05_1 : W5.cell? ⟨W1.heap.size, 1, none⟩ = some (.int .i64 M.n) := row_at r_w05.out 1
  have c_w05_2 : W5.cell? ⟨W1.heap.size, 2, none⟩ = some (.string M.r) := row_at r_w05.out 2
  have c_w05_3 : W5.cell? ⟨W1.heap.size, 3, none⟩ = some (.slice none 0 0) := row_at r_w05.out 3
  have c_w05_4 : W5.cell? ⟨W1.heap.size, 4, none⟩ = some (.int .i64 0) := row_at r_w05.out 4
  have c_g05_0 : W5.cell? ⟨W3.heap.size, 0, none⟩ = some (.slice ao_g L_g cap_g) := row_at r_g05.out 0
  have c_g05_1 : W5.cell? ⟨W3.heap.size, 1, none⟩ = some (.int .i64 M.n) := row_at r_g05.out 1
  have c_g05_2 : W5.cell? ⟨W3.heap.size, 2, none⟩ = some (.string M.r) := row_at r_g05.out 2
  have c_g05_3 : W5.cell? ⟨W3.heap.size, 3, none⟩ = some (.slice ao_gp L_gp cap_gp) := row_at r_g05.out 3
  have c_g05_4 : W5.cell? ⟨W3.heap.size, 4, none⟩ = some (.int .i64 0) := row_at r_g05.out 4
  clear r_w04 c_w04_0 c_w04_1 c_w04_2 c_w04_3 c_w04_4 r_g04 c_g04_0 c_g04_1 c_g04_2 c_g04_3 c_g04_4 o_g4 o_gp4
  go_wp2_with fail
  refine (mark_store W5 M _ _ 0 _ _ _ _ [] [] 1 o_g5.out o_gp5.out (by omega) (by omega) (by omega) (by simp) (by simp) (by omega) (by omega)).mono ?_
  rintro e W6 ⟨rfl, o_g6, o_gp6, p6⟩
  have o_g6 : Hid (Own W6 (lo_g) (hi_g) 9 (.slice ao_g L_g cap_g) (ss (Strs.mts 1 ([] : List ByteArray).length))) := o_g6
  have o_gp6 : Hid (Own W6 (lo_gp) (hi_gp) 5 (.slice ao_gp L_gp cap_gp) (bs (marks (1 + ([] : List ByteArray).length) ([] : List Int).length))) := o_gp6
  have z6 : W5.heap.size ≤ W6.heap.size := p6.size
  have B6 : Hid (Below w.heap.size w W6) := B5.out.trans (p6.below (by have := B5.out.size; omega) (by have := B5.out.size; omega) B5.out.size)
  have r_w06 : Hid (W6.heap[W1.heap.size]? = some (.cells #[.slice none 0 0, .int .i64 M.n, .string M.r, .slice none 0 0, .int .i64 0] 29 (0, 0))) := (p6.block (W1.heap.size) (by omega) (by omega) (by omega)).trans r_w05.out
  have r_g06 : Hid (W6.heap[W3.heap.size]? = some (.cells #[.slice ao_g L_g cap_g, .int .i64 M.n, .string M.r, .slice ao_gp L_gp cap_gp, .int .i64 0] 29 (0, 0))) := (p6.block (W3.heap.size) (by omega) (by omega) (by omega)).trans r_g05.out
  have c_w06_0 : W6.cell? ⟨W1.heap.size, 0, none⟩ = some (.slice none 0 0) := row_at r_w06.out 0
  have c_w06_1 : W6.cell? ⟨W1.heap.size, 1, none⟩ = some (.int .i64 M.n) := row_at r_w06.out 1
  have c_w06_2 : W6.cell? ⟨W1.heap.size, 2, none⟩ = some (.string M.r) := row_at r_w06.out 2
  have c_w06_3 : W6.cell? ⟨W1.heap.size, 3, none⟩ = some (.slice none 0 0) := row_at r_w06.out 3
  have c_w06_4 : W6.cell? ⟨W1.heap.size, 4, none⟩ = some (.int .i64 0) := row_at r_w06.out 4
  have c_g06_0 : W6.cell? ⟨W3.heap.size, 0, none⟩ = some (.slice ao_g L_g cap_g) := row_at r_g06.out 0
  have c_g06_1 : W6.cell? ⟨W3.heap.size, 1, none⟩ = some (.int .i64 M.n) := row_at r_g06.out 1
  have c_g06_2 : W6.cell? ⟨W3.heap.size, 2, none⟩ = some (.string M.r) := row_at r_g06.out 2
  have c_g06_3 : W6.cell? ⟨W3.heap.size, 3, none⟩ = some (.slice ao_gp L_gp cap_gp) := row_at r_g06.out 3
  have c_g06_4 : W6.cell? ⟨W3.heap.size, 4, none⟩ = some (.int .i64 0) := row_at r_g06.out 4
  clear r_w05 c_w05_0 c_w05_1 c_w05_2 c_w05_3 c_w05_4 r_g05 c_g05_0 c_g05_1 c_g05_2 c_g05_3 c_g05_4 o_g5 o_gp5
  go_wp2_with fail
  refine (held_store W6 M _ _ 0 ([] : List ByteArray).length ([] : List Int).length 1 o_g6.out.sl o_gp6.out.sl (by simp) (by simp) (by omega) (by omega)).mono ?_
  rintro e W7 ⟨rfl, b7⟩
  have z7 : W6.heap.size ≤ W7.heap.size := b7.size
  have B7 : Hid (Below w.heap.size w W7) := B6.out.trans (b7.mono B6.out.size)
  have r_w07 : Hid (W7.heap[W1.heap.size]? = some (.cells #[.slice none 0 0, .int .i64 M.n, .string M.r, .slice none 0 0, .int .i64 0] 29 (0, 0))) := rowKeep r_w06.out b7
  have r_g07 : Hid (W7.heap[W3.heap.size]? = some (.cells #[.slice ao_g L_g cap_g, .int .i64 M.n, .string M.r, .slice ao_gp L_gp cap_gp, .int .i64 0] 29 (0, 0))) := rowKeep r_g06.out b7
  have o_g7 : Hid (Own W7 (lo_g) (hi_g) 9 (.slice ao_g L_g cap_g) (ss (Strs.mts 1 ([] : List ByteArray).length))) := Own.later o_g6.out b7 (by omega)
  have o_gp7 : Hid (Own W7 (lo_gp) (hi_gp) 5 (.slice ao_gp L_gp cap_gp) (bs (marks (1 + ([] : List ByteArray).length) ([] : List Int).length))) := Own.later o_gp6.out b7 (by omega)
  have c_w07_0 : W7.cell? ⟨W1.heap.size, 0, none⟩ = some (.slice none 0 0) := row_at r_w07.out 0
  have c_w07_1 : W7.cell? ⟨W1.heap.size, 1, none⟩ = some (.int .i64 M.n) := row_at r_w07.out 1
  have c_w07_2 : W7.cell? ⟨W1.heap.size, 2, none⟩ = some (.string M.r) := row_at r_w07.out 2
  have c_w07_3 : W7.cell? ⟨W1.heap.size, 3, none⟩ = some (.slice none 0 0) := row_at r_w07.out 3
  have c_w07_4 : W7.cell? ⟨W1.heap.size, 4, none⟩ = some (.int .i64 0) := row_at r_w07.out 4
  have c_g07_0 : W7.cell? ⟨W3.heap.size, 0, none⟩ = some (.slice ao_g L_g cap_g) := row_at r_g07.out 0
  have c_g07_1 : W7.cell? ⟨W3.heap.size, 1, none⟩ = some (.int .i64 M.n) := row_at r_g07.out 1
  have c_g07_2 : W7.cell? ⟨W3.heap.size, 2, none⟩ = some (.string M.r) := row_at r_g07.out 2
  have c_g07_3 : W7.cell? ⟨W3.heap.size, 3, none⟩ = some (.slice ao_gp L_gp cap_gp) := row_at r_g07.out 3
  have c_g07_4 : W7.cell? ⟨W3.heap.size, 4, none⟩ = some (.int .i64 0) := row_at r_g07.out 4
  clear r_w06 c_w06_0 c_w06_1 c_w06_2 c_w06_3 c_w06_4 r_g06 c_g06_0 c_g06_1 c_g06_2 c_g06_3 c_g06_4 o_g6 o_gp6
  go_wp2_with fail
  refine (q2 W7 B7.out).mono ?_
  rintro e W8 ⟨v_h, v_hp, rfl, o_h8, o_hp8, b8⟩
  obtain ⟨lo_h, hi_h, lo_hp, hi_hp, d1_h, d2_h, d3_h, d4_h, d5_h, d6_h, d7_h, oo_h, oo_hp⟩ := Sr.pairN o_h8 o_hp8 b8.size
  clear o_h8 o_hp8
  obtain ⟨ao_h, L_h, cap_h, rfl, _, _⟩ := oo_h.form
  obtain ⟨ao_hp, L_hp, cap_hp, rfl, _, _⟩ := oo_hp.form
  have o_h8 : Hid (Own W8 lo_h hi_h 9 (.slice ao_h L_h cap_h) (ss [])) := oo_h
  have o_hp8 : Hid (Own W8 lo_hp hi_hp 5 (.slice ao_hp L_hp cap_hp) (bs [])) := oo_hp
  clear oo_h oo_hp
  have z8 : W7.heap.size ≤ W8.heap.size := b8.size
  have B8 : Hid (Below w.heap.size w W8) := B7.out.trans (b8.mono B7.out.size)
  have r_w08 : Hid (W8.heap[W1.heap.size]? = some (.cells #[.slice none 0 0, .int .i64 M.n, .string M.r, .slice none 0 0, .int .i64 0] 29 (0, 0))) := rowKeep r_w07.out b8
  have r_g08 : Hid (W8.heap[W3.heap.size]? = some (.cells #[.slice ao_g L_g cap_g, .int .i64 M.n, .string M.r, .slice ao_gp L_gp cap_gp, .int .i64 0] 29 (0, 0))) := rowKeep r_g07.out b8
  have o_g8 : Hid (Own W8 (lo_g) (hi_g) 9 (.slice ao_g L_g cap_g) (ss (Strs.mts 1 ([] : List ByteArray).length))) := Own.later o_g7.out b8 (by omega)
  have o_gp8 : Hid (Own W8 (lo_gp) (hi_gp) 5 (.slice ao_gp L_gp cap_gp) (bs (marks (1 + ([] : List ByteArray).length) ([] : List Int).length))) := Own.later o_gp7.out b8 (by omega)
  have c_w08_0 : W8.cell? ⟨W1.heap.size, 0, none⟩ = some (.slice none 0 0) := row_at r_w08.out 0
  have c_w08_1 : W8.cell? ⟨W1.heap.size, 1, none⟩ = some (.int .i64 M.n) := row_at r_w08.out 1
  have c_w08_2 : W8.cell? ⟨W1.heap.size, 2, none⟩ = some (.string M.r) := row_at r_w08.out 2
  have c_w08_3 : W8.cell? ⟨W1.heap.size, 3, none⟩ = some (.slice none 0 0) := row_at r_w08.out 3
  have c_w08_4 : W8.cell? ⟨W1.heap.size, 4, none⟩ = some (.int .i64 0) := row_at r_w08.out 4
  have c_g08_0 : W8.cell? ⟨W3.heap.size, 0, none⟩ = some (.slice ao_g L_g cap_g) := row_at r_g08.out 0
  have c_g08_1 : W8.cell? ⟨W3.heap.size, 1, none⟩ = some (.int .i64 M.n) := row_at r_g08.out 1
  have c_g08_2 : W8.cell? ⟨W3.heap.size, 2, none⟩ = some (.string M.r) := row_at r_g08.out 2
  have c_g08_3 : W8.cell? ⟨W3.heap.size, 3, none⟩ = some (.slice ao_gp L_gp cap_gp) := row_at r_g08.out 3
  have c_g08_4 : W8.cell? ⟨W3.heap.size, 4, none⟩ = some (.int .i64 0) := row_at r_g08.out 4
  clear r_w07 c_w07_0 c_w07_1 c_w07_2 c_w07_3 c_w07_4 r_g07 c_g07_0 c_g07_1 c_g07_2 c_g07_3 c_g07_4 o_g7 o_gp7
  have a_w08_0 : ∀ o, (W8.alloc o).cell? ⟨W1.heap.size, 0, none⟩ = some (.slice none 0 0) := fun o => keepR c_w08_0 ((Below.refl _ _).alloc (Nat.le_refl _) o)
  have a_w08_1 : ∀ o, (W8.alloc o).cell? ⟨W1.heap.size, 1, none⟩ = some (.int .i64 M.n) := fun o => keepR c_w08_1 ((Below.refl _ _).alloc (Nat.le_refl _) o)
  have a_w08_2 : ∀ o, (W8.alloc o).cell? ⟨W1.heap.size, 2, none⟩ = some (.string M.r) := fun o => keepR c_w08_2 ((Below.refl _ _).alloc (Nat.le_refl _) o)
  have a_w08_3 : ∀ o, (W8.alloc o).cell? ⟨W1.heap.size, 3, none⟩ = some (.slice none 0 0) := fun o => keepR c_w08_3 ((Below.refl _ _).alloc (Nat.le_refl _) o)
  have a_w08_4 : ∀ o, (W8.alloc o).cell? ⟨W1.heap.size, 4, none⟩ = some (.int .i64 0) := fun o => keepR c_w08_4 ((Below.refl _ _).alloc (Nat.le_refl _) o)
  have a_g08_0 : ∀ o, (W8.alloc o).cell? ⟨W3.heap.size, 0, none⟩ = some (.slice ao_g L_g cap_g) := fun o => keepR c_g08_0 ((Below.refl _ _).alloc (Nat.le_refl _) o)
  have a_g08_1 : ∀ o, (W8.alloc o).cell? ⟨W3.heap.size, 1, none⟩ = some (.int .i64 M.n) := fun o => keepR c_g08_1 ((Below.refl _ _).alloc (Nat.le_refl _) o)
  have a_g08_2 : ∀ o, (W8.alloc o).cell? ⟨W3.heap.size, 2, none⟩ = some (.string M.r) := fun o => keepR c_g08_2 ((Below.refl _ _).alloc (Nat.le_refl _) o)
  have a_g08_3 : ∀ o, (W8.alloc o).cell? ⟨W3.heap.size, 3, none⟩ = some (.slice ao_gp L_gp cap_gp) := fun o => keepR c_g08_3 ((Below.refl _ _).alloc (Nat.le_refl _) o)
  have a_g08_4 : ∀ o, (W8.alloc o).cell? ⟨W3.heap.size, 4, none⟩ = some (.int .i64 0) := fun o => keepR c_g08_4 ((Below.refl _ _).alloc (Nat.le_refl _) o)
  obtain ⟨W9, HW9, b9, y9, hS9, r_h09⟩ : ∃ X, Hid ((W8.alloc (.cells #[.slice ao_h L_h cap_h, .int .i64 M.n, .string M.r, .slice ao_hp L_hp cap_hp, .int .i64 0] 29)) = X) ∧ Below W8.heap.size W8 X ∧ W8.heap.size + 1 ≤ X.heap.size ∧ Hid (X.heap.size = W8.heap.size + 1) ∧ Hid (X.heap[W8.heap.size]? = some (.cells #[.slice ao_h L_h cap_h, .int .i64 M.n, .string M.r, .slice ao_hp L_hp cap_hp, .int .i64 0] 29 (0, 0))) := ⟨_, rfl, ((Below.refl _ _).alloc (Nat.le_refl _) _), by simp, by show _ = _; simp, (by show _ = _; exact alloc_nth1_0 W8 _)⟩
  have z9 : W8.heap.size ≤ W9.heap.size := b9.size
  have B9 : Hid (Below w.heap.size w W9) := B8.out.trans (b9.mono B8.out.size)
  have r_w09 : Hid (W9.heap[W1.heap.size]? = some (.cells #[.slice none 0 0, .int .i64 M.n, .string M.r, .slice none 0 0, .int .i64 0] 29 (0, 0))) := rowKeep r_w08.out b9
  have r_g09 : Hid (W9.heap[W3.heap.size]? = some (.cells #[.slice ao_g L_g cap_g, .int .i64 M.n, .string M.r, .slice ao_gp L_gp cap_gp, .int .i64 0] 29 (0, 0))) := rowKeep r_g08.out b9
  have o_g9 : Hid (Own W9 (lo_g) (hi_g) 9 (.slice ao_g L_g cap_g) (ss (Strs.mts 1 ([] : List ByteArray).length))) := Own.later o_g8.out b9 (by omega)
  have o_gp9 : Hid (Own W9 (lo_gp) (hi_gp) 5 (.slice ao_gp L_gp cap_gp) (bs (marks (1 + ([] : List ByteArray).length) ([] : List Int).length))) := Own.later o_gp8.out b9 (by omega)
  have o_h9 : Hid (Own W9 (lo_h) (hi_h) 9 (.slice ao_h L_h cap_h) (ss [])) := Own.later o_h8.out b9 (by omega)
  have o_hp9 : Hid (Own W9 (lo_hp) (hi_hp) 5 (.slice ao_hp L_hp cap_hp) (bs [])) := Own.later o_hp8.out b9 (by omega)
  have c_w09_0 : W9.cell? ⟨W1.heap.size, 0, none⟩ = some (.slice none 0 0) := row_at r_w09.out 0
  have c_w09_1 : W9.cell? ⟨W1.heap.size, 1, none⟩ = some (.int .i64 M.n) := row_at r_w09.out 1
  have c_w09_2 : W9.cell? ⟨W1.heap.size, 2, none⟩ = some (.string M.r) := row_at r_w09.out 2
  have c_w09_3 : W9.cell? ⟨W1.heap.size, 3, none⟩ = some (.slice none 0 0) := row_at r_w09.out 3
  have c_w09_4 : W9.cell? ⟨W1.heap.size, 4, none⟩ = some (.int .i64 0) := row_at r_w09.out 4
  have c_g09_0 : W9.cell? ⟨W3.heap.size, 0, none⟩ = some (.slice ao_g L_g cap_g) := row_at r_g09.out 0
  have c_g09_1 : W9.cell? ⟨W3.heap.size, 1, none⟩ = some (.int .i64 M.n) := row_at r_g09.out 1
  have c_g09_2 : W9.cell? ⟨W3.heap.size, 2, none⟩ = some (.string M.r) := row_at r_g09.out 2
  have c_g09_3 : W9.cell? ⟨W3.heap.size, 3, none⟩ = some (.slice ao_gp L_gp cap_gp) := row_at r_g09.out 3
  have c_g09_4 : W9.cell? ⟨W3.heap.size, 4, none⟩ = some (.int .i64 0) := row_at r_g09.out 4
  have c_h09_0 : W9.cell? ⟨W8.heap.size, 0, none⟩ = some (.slice ao_h L_h cap_h) := row_at r_h09.out 0
  have c_h09_1 : W9.cell? ⟨W8.heap.size, 1, none⟩ = some (.int .i64 M.n) := row_at r_h09.out 1
  have c_h09_2 : W9.cell? ⟨W8.heap.size, 2, none⟩ = some (.string M.r) := row_at r_h09.out 2
  have c_h09_3 : W9.cell? ⟨W8.heap.size, 3, none⟩ = some (.slice ao_hp L_hp cap_hp) := row_at r_h09.out 3
  have c_h09_4 : W9.cell? ⟨W8.heap.size, 4, none⟩ = some (.int .i64 0) := row_at r_h09.out 4
  clear r_w08 c_w08_0 c_w08_1 c_w08_2 c_w08_3 c_w08_4 r_g08 c_g08_0 c_g08_1 c_g08_2 c_g08_3 c_g08_4 o_g8 o_gp8 o_h8 o_hp8
  go_wp2_with fail
  rw [HW9.out]
  clear a_w08_0 a_w08_1 a_w08_2 a_w08_3 a_w08_4 a_g08_0 a_g08_1 a_g08_2 a_g08_3 a_g08_4
  refine (eq_store W9 _ _ _ _ [] M [] 0 o_h9.out.sl (slNilS _) o_hp9.out.sl (slNilB _) (by simp) (by simp)).mono ?_
  rintro e W10 ⟨rfl, b10⟩
  have z10 : W9.heap.size ≤ W10.heap.size := b10.size
  have B10 : Hid (Below w.heap.size w W10) := B9.out.trans (b10.mono B9.out.size)
  have r_w010 : Hid (W10.heap[W1.heap.size]? = some (.cells #[.slice none 0 0, .int .i64 M.n, .string M.r, .slice none 0 0, .int .i64 0] 29 (0, 0))) := rowKeep r_w09.out b10
  have r_g010 : Hid (W10.heap[W3.heap.size]? = some (.cells #[.slice ao_g L_g cap_g, .int .i64 M.n, .string M.r, .slice ao_gp L_gp cap_gp, .int .i64 0] 29 (0, 0))) := rowKeep r_g09.out b10
  have r_h010 : Hid (W10.heap[W8.heap.size]? = some (.cells #[.slice ao_h L_h cap_h, .int .i64 M.n, .string M.r, .slice ao_hp L_hp cap_hp, .int .i64 0] 29 (0, 0))) := rowKeep r_h09.out b10
  have o_g10 : Hid (Own W10 (lo_g) (hi_g) 9 (.slice ao_g L_g cap_g) (ss (Strs.mts 1 ([] : List ByteArray).length))) := Own.later o_g9.out b10 (by omega)
  have o_gp10 : Hid (Own W10 (lo_gp) (hi_gp) 5 (.slice ao_gp L_gp cap_gp) (bs (marks (1 + ([] : List ByteArray).length) ([] : List Int).length))) := Own.later o_gp9.out b10 (by omega)
  have o_h10 : Hid (Own W10 (lo_h) (hi_h) 9 (.slice ao_h L_h cap_h) (ss [])) := Own.later o_h9.out b10 (by omega)
  have o_hp10 : Hid (Own W10 (lo_hp) (hi_hp) 5 (.slice ao_hp L_hp cap_hp) (bs [])) := Own.later o_hp9.out b10 (by omega)
  have c_w010_0 : W10.cell? ⟨W1.heap.size, 0, none⟩ = some (.slice none 0 0) := row_at r_w010.out 0
  have c_w010_1 : W10.cell? ⟨W1.heap.size, 1, none⟩ = some (.int .i64 M.n) := row_at r_w010.out 1
  have c_w010_2 : W10.cell? ⟨W1.heap.size, 2, none⟩ = some (.string M.r) := row_at r_w010.out 2
  have c_w010_3 : W10.cell? ⟨W1.heap.size, 3, none⟩ = some (.slice none 0 0) := row_at r_w010.out 3
  have c_w010_4 : W10.cell? ⟨W1.heap.size, 4, none⟩ = some (.int .i64 0) := row_at r_w010.out 4
  have c_g010_0 : W10.cell? ⟨W3.heap.size, 0, none⟩ = some (.slice ao_g L_g cap_g) := row_at r_g010.out 0
  have c_g010_1 : W10.cell? ⟨W3.heap.size, 1, none⟩ = some (.int .i64 M.n) := row_at r_g010.out 1
  have c_g010_2 : W10.cell? ⟨W3.heap.size, 2, none⟩ = some (.string M.r) := row_at r_g010.out 2
  have c_g010_3 : W10.cell? ⟨W3.heap.size, 3, none⟩ = some (.slice ao_gp L_gp cap_gp) := row_at r_g010.out 3
  have c_g010_4 : W10.cell? ⟨W3.heap.size, 4, none⟩ = some (.int .i64 0) := row_at r_g010.out 4
  have c_h010_0 : W10.cell? ⟨W8.heap.size, 0, none⟩ = some (.slice ao_h L_h cap_h) := row_at r_h010.out 0
  have c_h010_1 : W10.cell? ⟨W8.heap.size, 1, none⟩ = some (.int .i64 M.n) := row_at r_h010.out 1
  have c_h010_2 : W10.cell? ⟨W8.heap.size, 2, none⟩ = some (.string M.r) := row_at r_h010.out 2
  have c_h010_3 : W10.cell? ⟨W8.heap.size, 3, none⟩ = some (.slice ao_hp L_hp cap_hp) := row_at r_h010.out 3
  have c_h010_4 : W10.cell? ⟨W8.heap.size, 4, none⟩ = some (.int .i64 0) := row_at r_h010.out 4
  clear r_w09 c_w09_0 c_w09_1 c_w09_2 c_w09_3 c_w09_4 r_g09 c_g09_0 c_g09_1 c_g09_2 c_g09_3 c_g09_4 r_h09 c_h09_0 c_h09_1 c_h09_2 c_h09_3 c_h09_4 o_g9 o_gp9 o_h9 o_hp9
  go_wp2_with fail
  refine (held_store W10 M _ _ 0 ([] : List ByteArray).length ([] : List Int).length 1 o_g10.out.sl o_gp10.out.sl (by simp) (by simp) (by omega) (by omega)).mono ?_
  rintro e W11 ⟨rfl, b11⟩
  have z11 : W10.heap.size ≤ W11.heap.size := b11.size
  have B11 : Hid (Below w.heap.size w W11) := B10.out.trans (b11.mono B10.out.size)
  have r_w011 : Hid (W11.heap[W1.heap.size]? = some (.cells #[.slice none 0 0, .int .i64 M.n, .string M.r, .slice none 0 0, .int .i64 0] 29 (0, 0))) := rowKeep r_w010.out b11
  have r_g011 : Hid (W11.heap[W3.heap.size]? = some (.cells #[.slice ao_g L_g cap_g, .int .i64 M.n, .string M.r, .slice ao_gp L_gp cap_gp, .int .i64 0] 29 (0, 0))) := rowKeep r_g010.out b11
  have r_h011 : Hid (W11.heap[W8.heap.size]? = some (.cells #[.slice ao_h L_h cap_h, .int .i64 M.n, .string M.r, .slice ao_hp L_hp cap_hp, .int .i64 0] 29 (0, 0))) := rowKeep r_h010.out b11
  have o_g11 : Hid (Own W11 (lo_g) (hi_g) 9 (.slice ao_g L_g cap_g) (ss (Strs.mts 1 ([] : List ByteArray).length))) := Own.later o_g10.out b11 (by omega)
  have o_gp11 : Hid (Own W11 (lo_gp) (hi_gp) 5 (.slice ao_gp L_gp cap_gp) (bs (marks (1 + ([] : List ByteArray).length) ([] : List Int).length))) := Own.later o_gp10.out b11 (by omega)
  have o_h11 : Hid (Own W11 (lo_h) (hi_h) 9 (.slice ao_h L_h cap_h) (ss [])) := Own.later o_h10.out b11 (by omega)
  have o_hp11 : Hid (Own W11 (lo_hp) (hi_hp) 5 (.slice ao_hp L_hp cap_hp) (bs [])) := Own.later o_hp10.out b11 (by omega)
  have c_w011_0 : W11.cell? ⟨W1.heap.size, 0, none⟩ = some (.slice none 0 0) := row_at r_w011.out 0
  have c_w011_1 : W11.cell? ⟨W1.heap.size, 1, none⟩ = some (.int .i64 M.n) := row_at r_w011.out 1
  have c_w011_2 : W11.cell? ⟨W1.heap.size, 2, none⟩ = some (.string M.r) := row_at r_w011.out 2
  have c_w011_3 : W11.cell? ⟨W1.heap.size, 3, none⟩ = some (.slice none 0 0) := row_at r_w011.out 3
  have c_w011_4 : W11.cell? ⟨W1.heap.size, 4, none⟩ = some (.int .i64 0) := row_at r_w011.out 4
  have c_g011_0 : W11.cell? ⟨W3.heap.size, 0, none⟩ = some (.slice ao_g L_g cap_g) := row_at r_g011.out 0
  have c_g011_1 : W11.cell? ⟨W3.heap.size, 1, none⟩ = some (.int .i64 M.n) := row_at r_g011.out 1
  have c_g011_2 : W11.cell? ⟨W3.heap.size, 2, none⟩ = some (.string M.r) := row_at r_g011.out 2
  have c_g011_3 : W11.cell? ⟨W3.heap.size, 3, none⟩ = some (.slice ao_gp L_gp cap_gp) := row_at r_g011.out 3
  have c_g011_4 : W11.cell? ⟨W3.heap.size, 4, none⟩ = some (.int .i64 0) := row_at r_g011.out 4
  have c_h011_0 : W11.cell? ⟨W8.heap.size, 0, none⟩ = some (.slice ao_h L_h cap_h) := row_at r_h011.out 0
  have c_h011_1 : W11.cell? ⟨W8.heap.size, 1, none⟩ = some (.int .i64 M.n) := row_at r_h011.out 1
  have c_h011_2 : W11.cell? ⟨W8.heap.size, 2, none⟩ = some (.string M.r) := row_at r_h011.out 2
  have c_h011_3 : W11.cell? ⟨W8.heap.size, 3, none⟩ = some (.slice ao_hp L_hp cap_hp) := row_at r_h011.out 3
  have c_h011_4 : W11.cell? ⟨W8.heap.size, 4, none⟩ = some (.int .i64 0) := row_at r_h011.out 4
  clear r_w010 c_w010_0 c_w010_1 c_w010_2 c_w010_3 c_w010_4 r_g010 c_g010_0 c_g010_1 c_g010_2 c_g010_3 c_g010_4 r_h010 c_h010_0 c_h010_1 c_h010_2 c_h010_3 c_h010_4 o_g10 o_gp10 o_h10 o_hp10
  go_wp2
  go_ret
  exact ⟨rfl, B11.out⟩

set_option maxRecDepth 1000000 in
set_option maxHeartbeats 16000000 in
theorem exact_storeok (w : World) (v vb : Value) (l : List ByteArray) (h : Hd) (b : List Int) (s : Int) (hs : Sl w v (ss l)) (hb : Sl w vb (bs b)) (hby : Byt b) (hz : ∀ s ∈ l, s.size ≤ maxLen) (hm : l.length ≤ maxLen) (hmb : b.length ≤ maxLen) (hh : h.r.size ≤ maxLen)
    (iF : ∀ W v' vb', Below w.heap.size w W → Sl W v' (ss l) → Sl W vb' (bs b) → l.length ≤ 1048576 → b.length ≤ 1048576 → (∀ s ∈ l, s.size ≤ 1048576) → h.r.size ≤ 1048576 → Calls Tryd.prog 13 #[.agg #[v', .int .i64 h.n, .string h.r, vb', .int .i64 s]] W fun e w' => e = .returned (.bool (storeOk ⟨l, h, b, s⟩)) ∧ Below W.heap.size W w') :
    Calls Tryd.prog 4 #[.agg #[v, .int .i64 h.n, .string h.r, vb, .int .i64 s]] w fun e w' => e = .returned (.bool true) ∧ Below w.heap.size w w' := by
  have HS : Hid (Sl w v (ss l)) := hs
  have HSB : Hid (Sl w vb (bs b)) := hb
  have HBY : Hid (Byt b) := hby
  unfold maxLen at *
  obtain ⟨ao0, cap0, rfl, hc0⟩ := hs.form
  obtain ⟨ao1, cap1, rfl, hc1⟩ := hb.form
  simp only [ss_len, bs_len] at *
  clear hs hb hby
  have B0 : Hid (Below w.heap.size w w) := Below.refl _ _
  obtain ⟨W1, HW1, b1, y1, hS1, r_a1⟩ : ∃ X, Hid ((w.alloc (.cells #[.slice ao0 l.length cap0, .int .i64 h.n, .string h.r, .slice ao1 b.length cap1, .int .i64 s] 38)) = X) ∧ Below w.heap.size w X ∧ w.heap.size + 1 ≤ X.heap.size ∧ Hid (X.heap.size = w.heap.size + 1) ∧ Hid (X.heap[w.heap.size]? = some (.cells #[.slice ao0 l.length cap0, .int .i64 h.n, .string h.r, .slice ao1 b.length cap1, .int .i64 s] 38 (0, 0))) := ⟨_, rfl, ((Below.refl _ _).alloc (Nat.le_refl _) _), by simp, by show _ = _; simp, (by show _ = _; exact alloc_nth1_0 w _)⟩
  have z1 : w.heap.size ≤ W1.heap.size := b1.size
  have B1 : Hid (Below w.heap.size w W1) := B0.out.trans (b1.mono B0.out.size)
  have c_a1_0 : W1.cell? ⟨w.heap.size, 0, none⟩ = some (.slice ao0 l.length cap0) := row_at r_a1.out 0
  have c_a1_1 : W1.cell? ⟨w.heap.size, 1, none⟩ = some (.int .i64 h.n) := row_at r_a1.out 1
  have c_a1_2 : W1.cell? ⟨w.heap.size, 2, none⟩ = some (.string h.r) := row_at r_a1.out 2
  have c_a1_3 : W1.cell? ⟨w.heap.size, 3, none⟩ = some (.slice ao1 b.length cap1) := row_at r_a1.out 3
  have c_a1_4 : W1.cell? ⟨w.heap.size, 4, none⟩ = some (.int .i64 s) := row_at r_a1.out 4
  go_enter Tryd.func4, Tryd.ntmps4
  go_wp2_with fail
  rw [HW1.out]
  refine (sz_store W1 _ _ l h b s (HS.out.later B1.out) (HSB.out.later B1.out) (fun s h => by have := hz s h; omega) (by omega) (by omega) (by omega)).mono ?_
  rintro e W2 ⟨⟨r0, rfl, hr0⟩, b2⟩
  have z2 : W1.heap.size ≤ W2.heap.size := b2.size
  have B2 : Hid (Below w.heap.size w W2) := B1.out.trans (b2.mono B1.out.size)
  have r_a2 : Hid (W2.heap[w.heap.size]? = some (.cells #[.slice ao0 l.length cap0, .int .i64 h.n, .string h.r, .slice ao1 b.length cap1, .int .i64 s] 38 (0, 0))) := rowKeep r_a1.out b2
  have c_a2_0 : W2.cell? ⟨w.heap.size, 0, none⟩ = some (.slice ao0 l.length cap0) := row_at r_a2.out 0
  have c_a2_1 : W2.cell? ⟨w.heap.size, 1, none⟩ = some (.int .i64 h.n) := row_at r_a2.out 1
  have c_a2_2 : W2.cell? ⟨w.heap.size, 2, none⟩ = some (.string h.r) := row_at r_a2.out 2
  have c_a2_3 : W2.cell? ⟨w.heap.size, 3, none⟩ = some (.slice ao1 b.length cap1) := row_at r_a2.out 3
  have c_a2_4 : W2.cell? ⟨w.heap.size, 4, none⟩ = some (.int .i64 s) := row_at r_a2.out 4
  clear r_a1 c_a1_0 c_a1_1 c_a1_2 c_a1_3 c_a1_4
  by_cases hr : r0 < 0
  · go_wp2
    go_ret
    exact ⟨rfl, B2.out⟩
  have hr1 : l.length + Puts.tot l ≤ 1048576 ∧ h.r.size ≤ 1048576 ∧ b.length ≤ 1048576 ∧ 0 ≤ r0 ∧ r0 ≤ 1048576 := by rcases hr0 with h0 | h0; exact absurd h0 hr; exact h0
  obtain ⟨hr1, hzh, hbl, hr2, hr3⟩ := hr1
  have hl : l.length ≤ 1048576 := by omega
  have hzz : ∀ s ∈ l, s.size ≤ 1048576 := fun s h => Nat.le_trans (tot_mem l s h) (by omega)
  have HZ : Hid (∀ s ∈ l, s.size ≤ 1048576) := hzz
  clear hz hr0 hm hmb hh hzz
  obtain ⟨M, hM⟩ : ∃ M, storeOk ⟨l, h, b, s⟩ = M := ⟨_, rfl⟩
  have q1 : ∀ W v1 v2, Sl W v1 (ss l) → Sl W v2 (bs b) → _ := fun W v1 v2 h1 h2 => storeok_spec W v1 v2 ⟨l, h, b, s⟩ h1 h2 HBY.out (by simp only; omega) (by simp only; omega) (fun s hs => Nat.le_trans (HZ.out s hs) (by omega))
  have q2 : ∀ W v1 v2, Below w.heap.size w W → Sl W v1 (ss l) → Sl W v2 (bs b) → _ := fun W v1 v2 hB h1 h2 => iF W v1 v2 hB h1 h2 hl hbl HZ.out hzh
  simp only [hM] at q1 q2
  clear hM iF
  go_wp2_with fail
  refine (to_store W2 _ _ l h b s (HS.out.later B2.out) (HSB.out.later B2.out) (by omega) (by omega)).mono ?_
  rintro e W3 ⟨v_t, v_tp, rfl, o_t3, o_tp3, b3⟩
  obtain ⟨lo_t, hi_t, lo_tp, hi_tp, d1_t, d2_t, d3_t, d4_t, d5_t, d6_t, d7_t, oo_t, oo_tp⟩ := Sr.pairN o_t3 o_tp3 b3.size
  clear o_t3 o_tp3
  obtain ⟨ao_t, L_t, cap_t, rfl, _, _⟩ := oo_t.form
  obtain ⟨ao_tp, L_tp, cap_tp, rfl, _, _⟩ := oo_tp.form
  have o_t3 : Hid (Own W3 lo_t hi_t 9 (.slice ao_t L_t cap_t) (ss l)) := oo_t
  have o_tp3 : Hid (Own W3 lo_tp hi_tp 5 (.slice ao_tp L_tp cap_tp) (bs b)) := oo_tp
  clear oo_t oo_tp
  have z3 : W2.heap.size ≤ W3.heap.size := b3.size
  have B3 : Hid (Below w.heap.size w W3) := B2.out.trans (b3.mono B2.out.size)
  have r_a3 : Hid (W3.heap[w.heap.size]? = some (.cells #[.slice ao0 l.length cap0, .int .i64 h.n, .string h.r, .slice ao1 b.length cap1, .int .i64 s] 38 (0, 0))) := rowKeep r_a2.out b3
  have c_a3_0 : W3.cell? ⟨w.heap.size, 0, none⟩ = some (.slice ao0 l.length cap0) := row_at r_a3.out 0
  have c_a3_1 : W3.cell? ⟨w.heap.size, 1, none⟩ = some (.int .i64 h.n) := row_at r_a3.out 1
  have c_a3_2 : W3.cell? ⟨w.heap.size, 2, none⟩ = some (.string h.r) := row_at r_a3.out 2
  have c_a3_3 : W3.cell? ⟨w.heap.size, 3, none⟩ = some (.slice ao1 b.length cap1) := row_at r_a3.out 3
  have c_a3_4 : W3.cell? ⟨w.heap.size, 4, none⟩ = some (.int .i64 s) := row_at r_a3.out 4
  clear r_a2 c_a2_0 c_a2_1 c_a2_2 c_a2_3 c_a2_4
  go_wp2_with fail
  refine (q1 W3 _ _ o_t3.out.sl o_tp3.out.sl).mono ?_
  rintro e W4 ⟨rfl, b4⟩
  have z4 : W3.heap.size ≤ W4.heap.size := b4.size
  have B4 : Hid (Below w.heap.size w W4) := B3.out.trans (b4.mono B3.out.size)
  have r_a4 : Hid (W4.heap[w.heap.size]? = some (.cells #[.slice ao0 l.length cap0, .int .i64 h.n, .string h.r, .slice ao1 b.length cap1, .int .i64 s] 38 (0, 0))) := rowKeep r_a3.out b4
  have o_t4 : Hid (Own W4 (lo_t) (hi_t) 9 (.slice ao_t L_t cap_t) (ss l)) := Own.later o_t3.out b4 (by omega)
  have o_tp4 : Hid (Own W4 (lo_tp) (hi_tp) 5 (.slice ao_tp L_tp cap_tp) (bs b)) := Own.later o_tp3.out b4 (by omega)
  have c_a4_0 : W4.cell? ⟨w.heap.size, 0, none⟩ = some (.slice ao0 l.length cap0) := row_at r_a4.out 0
  have c_a4_1 : W4.cell? ⟨w.heap.size, 1, none⟩ = some (.int .i64 h.n) := row_at r_a4.out 1
  have c_a4_2 : W4.cell? ⟨w.heap.size, 2, none⟩ = some (.string h.r) := row_at r_a4.out 2
  have c_a4_3 : W4.cell? ⟨w.heap.size, 3, none⟩ = some (.slice ao1 b.length cap1) := row_at r_a4.out 3
  have c_a4_4 : W4.cell? ⟨w.heap.size, 4, none⟩ = some (.int .i64 s) := row_at r_a4.out 4
  clear r_a3 c_a3_0 c_a3_1 c_a3_2 c_a3_3 c_a3_4 o_t3 o_tp3
  clear o_t4
  clear o_tp4
  go_wp2_with fail
  refine (to_store W4 _ _ l h b s (HS.out.later B4.out) (HSB.out.later B4.out) (by omega) (by omega)).mono ?_
  rintro e W5 ⟨v_x, v_xp, rfl, o_x5, o_xp5, b5⟩
  obtain ⟨lo_x, hi_x, lo_xp, hi_xp, d1_x, d2_x, d3_x, d4_x, d5_x, d6_x, d7_x, oo_x, oo_xp⟩ := Sr.pairN o_x5 o_xp5 b5.size
  clear o_x5 o_xp5
  obtain ⟨ao_x, L_x, cap_x, rfl, _, _⟩ := oo_x.form
  obtain ⟨ao_xp, L_xp, cap_xp, rfl, _, _⟩ := oo_xp.form
  have o_x5 : Hid (Own W5 lo_x hi_x 9 (.slice ao_x L_x cap_x) (ss l)) := oo_x
  have o_xp5 : Hid (Own W5 lo_xp hi_xp 5 (.slice ao_xp L_xp cap_xp) (bs b)) := oo_xp
  clear oo_x oo_xp
  have z5 : W4.heap.size ≤ W5.heap.size := b5.size
  have B5 : Hid (Below w.heap.size w W5) := B4.out.trans (b5.mono B4.out.size)
  have r_a5 : Hid (W5.heap[w.heap.size]? = some (.cells #[.slice ao0 l.length cap0, .int .i64 h.n, .string h.r, .slice ao1 b.length cap1, .int .i64 s] 38 (0, 0))) := rowKeep r_a4.out b5
  have c_a5_0 : W5.cell? ⟨w.heap.size, 0, none⟩ = some (.slice ao0 l.length cap0) := row_at r_a5.out 0
  have c_a5_1 : W5.cell? ⟨w.heap.size, 1, none⟩ = some (.int .i64 h.n) := row_at r_a5.out 1
  have c_a5_2 : W5.cell? ⟨w.heap.size, 2, none⟩ = some (.string h.r) := row_at r_a5.out 2
  have c_a5_3 : W5.cell? ⟨w.heap.size, 3, none⟩ = some (.slice ao1 b.length cap1) := row_at r_a5.out 3
  have c_a5_4 : W5.cell? ⟨w.heap.size, 4, none⟩ = some (.int .i64 s) := row_at r_a5.out 4
  clear r_a4 c_a4_0 c_a4_1 c_a4_2 c_a4_3 c_a4_4
  have a_a5_0 : ∀ o, (W5.alloc o).cell? ⟨w.heap.size, 0, none⟩ = some (.slice ao0 l.length cap0) := fun o => keepR c_a5_0 ((Below.refl _ _).alloc (Nat.le_refl _) o)
  have a_a5_1 : ∀ o, (W5.alloc o).cell? ⟨w.heap.size, 1, none⟩ = some (.int .i64 h.n) := fun o => keepR c_a5_1 ((Below.refl _ _).alloc (Nat.le_refl _) o)
  have a_a5_2 : ∀ o, (W5.alloc o).cell? ⟨w.heap.size, 2, none⟩ = some (.string h.r) := fun o => keepR c_a5_2 ((Below.refl _ _).alloc (Nat.le_refl _) o)
  have a_a5_3 : ∀ o, (W5.alloc o).cell? ⟨w.heap.size, 3, none⟩ = some (.slice ao1 b.length cap1) := fun o => keepR c_a5_3 ((Below.refl _ _).alloc (Nat.le_refl _) o)
  have a_a5_4 : ∀ o, (W5.alloc o).cell? ⟨w.heap.size, 4, none⟩ = some (.int .i64 s) := fun o => keepR c_a5_4 ((Below.refl _ _).alloc (Nat.le_refl _) o)
  obtain ⟨W6, HW6, b6, y6, hS6, r_x06⟩ : ∃ X, Hid ((W5.alloc (.cells #[.slice ao_x L_x cap_x, .int .i64 h.n, .string h.r, .slice ao_xp L_xp cap_xp, .int .i64 s] 29)) = X) ∧ Below W5.heap.size W5 X ∧ W5.heap.size + 1 ≤ X.heap.size ∧ Hid (X.heap.size = W5.heap.size + 1) ∧ Hid (X.heap[W5.heap.size]? = some (.cells #[.slice ao_x L_x cap_x, .int .i64 h.n, .string h.r, .slice ao_xp L_xp cap_xp, .int .i64 s] 29 (0, 0))) := ⟨_, rfl, ((Below.refl _ _).alloc (Nat.le_refl _) _), by simp, by show _ = _; simp, (by show _ = _; exact alloc_nth1_0 W5 _)⟩
  have z6 : W5.heap.size ≤ W6.heap.size := b6.size
  have B6 : Hid (Below w.heap.size w W6) := B5.out.trans (b6.mono B5.out.size)
  have r_a6 : Hid (W6.heap[w.heap.size]? = some (.cells #[.slice ao0 l.length cap0, .int .i64 h.n, .string h.r, .slice ao1 b.length cap1, .int .i64 s] 38 (0, 0))) := rowKeep r_a5.out b6
  have o_x6 : Hid (Own W6 (lo_x) (hi_x) 9 (.slice ao_x L_x cap_x) (ss l)) := Own.later o_x5.out b6 (by omega)
  have o_xp6 : Hid (Own W6 (lo_xp) (hi_xp) 5 (.slice ao_xp L_xp cap_xp) (bs b)) := Own.later o_xp5.out b6 (by omega)
  have c_a6_0 : W6.cell? ⟨w.heap.size, 0, none⟩ = some (.slice ao0 l.length cap0) := row_at r_a6.out 0
  have c_a6_1 : W6.cell? ⟨w.heap.size, 1, none⟩ = some (.int .i64 h.n) := row_at r_a6.out 1
  have c_a6_2 : W6.cell? ⟨w.heap.size, 2, none⟩ = some (.string h.r) := row_at r_a6.out 2
  have c_a6_3 : W6.cell? ⟨w.heap.size, 3, none⟩ = some (.slice ao1 b.length cap1) := row_at r_a6.out 3
  have c_a6_4 : W6.cell? ⟨w.heap.size, 4, none⟩ = some (.int .i64 s) := row_at r_a6.out 4
  have c_x06_0 : W6.cell? ⟨W5.heap.size, 0, none⟩ = some (.slice ao_x L_x cap_x) := row_at r_x06.out 0
  have c_x06_1 : W6.cell? ⟨W5.heap.size, 1, none⟩ = some (.int .i64 h.n) := row_at r_x06.out 1
  have c_x06_2 : W6.cell? ⟨W5.heap.size, 2, none⟩ = some (.string h.r) := row_at r_x06.out 2
  have c_x06_3 : W6.cell? ⟨W5.heap.size, 3, none⟩ = some (.slice ao_xp L_xp cap_xp) := row_at r_x06.out 3
  have c_x06_4 : W6.cell? ⟨W5.heap.size, 4, none⟩ = some (.int .i64 s) := row_at r_x06.out 4
  clear r_a5 c_a5_0 c_a5_1 c_a5_2 c_a5_3 c_a5_4 o_x5 o_xp5
  go_wp2_with fail
  rw [HW6.out]
  clear a_a5_0 a_a5_1 a_a5_2 a_a5_3 a_a5_4
  refine (q2 W6 _ _ B6.out o_x6.out.sl o_xp6.out.sl).mono ?_
  rintro e W7 ⟨rfl, b7⟩
  have z7 : W6.heap.size ≤ W7.heap.size := b7.size
  have B7 : Hid (Below w.heap.size w W7) := B6.out.trans (b7.mono B6.out.size)
  have r_a7 : Hid (W7.heap[w.heap.size]? = some (.cells #[.slice ao0 l.length cap0, .int .i64 h.n, .string h.r, .slice ao1 b.length cap1, .int .i64 s] 38 (0, 0))) := rowKeep r_a6.out b7
  have r_x07 : Hid (W7.heap[W5.heap.size]? = some (.cells #[.slice ao_x L_x cap_x, .int .i64 h.n, .string h.r, .slice ao_xp L_xp cap_xp, .int .i64 s] 29 (0, 0))) := rowKeep r_x06.out b7
  have o_x7 : Hid (Own W7 (lo_x) (hi_x) 9 (.slice ao_x L_x cap_x) (ss l)) := Own.later o_x6.out b7 (by omega)
  have o_xp7 : Hid (Own W7 (lo_xp) (hi_xp) 5 (.slice ao_xp L_xp cap_xp) (bs b)) := Own.later o_xp6.out b7 (by omega)
  have c_a7_0 : W7.cell? ⟨w.heap.size, 0, none⟩ = some (.slice ao0 l.length cap0) := row_at r_a7.out 0
  have c_a7_1 : W7.cell? ⟨w.heap.size, 1, none⟩ = some (.int .i64 h.n) := row_at r_a7.out 1
  have c_a7_2 : W7.cell? ⟨w.heap.size, 2, none⟩ = some (.string h.r) := row_at r_a7.out 2
  have c_a7_3 : W7.cell? ⟨w.heap.size, 3, none⟩ = some (.slice ao1 b.length cap1) := row_at r_a7.out 3
  have c_a7_4 : W7.cell? ⟨w.heap.size, 4, none⟩ = some (.int .i64 s) := row_at r_a7.out 4
  have c_x07_0 : W7.cell? ⟨W5.heap.size, 0, none⟩ = some (.slice ao_x L_x cap_x) := row_at r_x07.out 0
  have c_x07_1 : W7.cell? ⟨W5.heap.size, 1, none⟩ = some (.int .i64 h.n) := row_at r_x07.out 1
  have c_x07_2 : W7.cell? ⟨W5.heap.size, 2, none⟩ = some (.string h.r) := row_at r_x07.out 2
  have c_x07_3 : W7.cell? ⟨W5.heap.size, 3, none⟩ = some (.slice ao_xp L_xp cap_xp) := row_at r_x07.out 3
  have c_x07_4 : W7.cell? ⟨W5.heap.size, 4, none⟩ = some (.int .i64 s) := row_at r_x07.out 4
  clear r_a6 c_a6_0 c_a6_1 c_a6_2 c_a6_3 c_a6_4 r_x06 c_x06_0 c_x06_1 c_x06_2 c_x06_3 c_x06_4 o_x6 o_xp6
  have nM : (M != M) = false := by simp
  have nE : (M == M) = true := by simp
  go_wp2_with fail
  refine wp_region_held_drew (S := fun w' => w'.cell? ⟨W5.heap.size, 0, none⟩ = some (.slice ao_x L_x cap_x) ∧ w'.cell? ⟨W5.heap.size, 1, none⟩ = some (.int .i64 h.n) ∧ w'.cell? ⟨W5.heap.size, 2, none⟩ = some (.string h.r) ∧ w'.cell? ⟨W5.heap.size, 3, none⟩ = some (.slice ao_xp L_xp cap_xp) ∧ w'.cell? ⟨W5.heap.size, 4, none⟩ = some (.int .i64 s) ∧ w'.cell? ⟨w.heap.size, 0, none⟩ = some (.slice ao0 l.length cap0) ∧ w'.cell? ⟨w.heap.size, 1, none⟩ = some (.int .i64 h.n) ∧ w'.cell? ⟨w.heap.size, 2, none⟩ = some (.string h.r) ∧ w'.cell? ⟨w.heap.size, 3, none⟩ = some (.slice ao1 b.length cap1) ∧ w'.cell? ⟨w.heap.size, 4, none⟩ = some (.int .i64 s)) (by kernel_rfl) ⟨c_x07_0, c_x07_1, c_x07_2, c_x07_3, c_x07_4, c_a7_0, c_a7_1, c_a7_2, c_a7_3, c_a7_4⟩ (fun hHeld => ?_)
  (refine wpAnyH_take (i := 0) (v := ?v0x1) rfl (by kernel_rfl) (by kernel_rfl) (by kernel_rfl) (fun _ _ _ h => h) (Or.inl ⟨by rfl, ?hy0x1⟩) (by assumption) ?rest0x1; case hy0x1 => (intro w hSw; (try dsimp only at hSw); go_split_ands; go_simp; (try with_reducible rfl)))
  try simp only [Act.put, List.setIfInBounds_toArray, List.set_cons_zero, List.set_cons_succ, List.getElem_toArray, List.getElem_cons_zero, List.getElem_cons_succ]
  (refine wpAnyH_take (i := 1) (v := ?v1x2) rfl (by kernel_rfl) (by kernel_rfl) (by kernel_rfl) (fun _ _ _ h => h) (Or.inl ⟨by rfl, ?hy1x2⟩) (by assumption) ?rest1x2; case hy1x2 => (intro w hSw; (try dsimp only at hSw); go_split_ands; go_simp; (try with_reducible rfl)))
  try simp only [Act.put, List.setIfInBounds_toArray, List.set_cons_zero, List.set_cons_succ, List.getElem_toArray, List.getElem_cons_zero, List.getElem_cons_succ]
  refine wpAnyH_ready (rs := [2]) (by kernel_rfl) (by simp) ?_
  refine AllReadyH.cons rfl (fun K hK => ?_) AllReadyH.nil
  go_simp
  refine (to_store W7.drew _ _ l h b s (Sl.later (w := W7) (HS.out.later B7.out) (Below.drew (Below.refl _ _))) (Sl.later (w := W7) (HSB.out.later B7.out) (Below.drew (Below.refl _ _))) (by omega) (by omega)).mono ?_
  rintro e W8 ⟨v_u, v_up, rfl, o_u8, o_up8, b8⟩
  have b8 : Below W7.heap.size W7 W8 := (Below.drew (Below.refl _ _)).trans b8
  have o_u8 : Own W8 W7.heap.size W8.heap.size 9 _ _ := o_u8
  have o_up8 : Own W8 W7.heap.size W8.heap.size 5 _ _ := o_up8
  refine hK.out _ _ ⟨(keepR (W := W7) hHeld.1 b8), (keepR (W := W7) hHeld.2.1 b8), (keepR (W := W7) hHeld.2.2.1 b8), (keepR (W := W7) hHeld.2.2.2.1 b8), (keepR (W := W7) hHeld.2.2.2.2.1 b8), (keepR (W := W7) hHeld.2.2.2.2.2.1 b8), (keepR (W := W7) hHeld.2.2.2.2.2.2.1 b8), (keepR (W := W7) hHeld.2.2.2.2.2.2.2.1 b8), (keepR (W := W7) hHeld.2.2.2.2.2.2.2.2.1 b8), (keepR (W := W7) hHeld.2.2.2.2.2.2.2.2.2 b8)⟩ (fun hHeld => ?_)
  clear hK K
  try simp only [Act.put, List.setIfInBounds_toArray, List.set_cons_zero, List.set_cons_succ, List.getElem_toArray, List.getElem_cons_zero, List.getElem_cons_succ]
  obtain ⟨lo_u, hi_u, lo_up, hi_up, d1_u, d2_u, d3_u, d4_u, d5_u, d6_u, d7_u, oo_u, oo_up⟩ := Sr.pairN o_u8 o_up8 b8.size
  clear o_u8 o_up8
  obtain ⟨ao_u, L_u, cap_u, rfl, _, _⟩ := oo_u.form
  obtain ⟨ao_up, L_up, cap_up, rfl, _, _⟩ := oo_up.form
  have o_u8 : Hid (Own W8 lo_u hi_u 9 (.slice ao_u L_u cap_u) (ss l)) := oo_u
  have o_up8 : Hid (Own W8 lo_up hi_up 5 (.slice ao_up L_up cap_up) (bs b)) := oo_up
  clear oo_u oo_up
  have z8 : W7.heap.size ≤ W8.heap.size := b8.size
  have B8 : Hid (Below w.heap.size w W8) := B7.out.trans (b8.mono B7.out.size)
  have r_a8 : Hid (W8.heap[w.heap.size]? = some (.cells #[.slice ao0 l.length cap0, .int .i64 h.n, .string h.r, .slice ao1 b.length cap1, .int .i64 s] 38 (0, 0))) := rowKeep r_a7.out b8
  have r_x08 : Hid (W8.heap[W5.heap.size]? = some (.cells #[.slice ao_x L_x cap_x, .int .i64 h.n, .string h.r, .slice ao_xp L_xp cap_xp, .int .i64 s] 29 (0, 0))) := rowKeep r_x07.out b8
  have o_x8 : Hid (Own W8 (lo_x) (hi_x) 9 (.slice ao_x L_x cap_x) (ss l)) := Own.later o_x7.out b8 (by omega)
  have o_xp8 : Hid (Own W8 (lo_xp) (hi_xp) 5 (.slice ao_xp L_xp cap_xp) (bs b)) := Own.later o_xp7.out b8 (by omega)
  have c_a8_0 : W8.cell? ⟨w.heap.size, 0, none⟩ = some (.slice ao0 l.length cap0) := row_at r_a8.out 0
  have c_a8_1 : W8.cell? ⟨w.heap.size, 1, none⟩ = some (.int .i64 h.n) := row_at r_a8.out 1
  have c_a8_2 : W8.cell? ⟨w.heap.size, 2, none⟩ = some (.string h.r) := row_at r_a8.out 2
  have c_a8_3 : W8.cell? ⟨w.heap.size, 3, none⟩ = some (.slice ao1 b.length cap1) := row_at r_a8.out 3
  have c_a8_4 : W8.cell? ⟨w.heap.size, 4, none⟩ = some (.int .i64 s) := row_at r_a8.out 4
  have c_x08_0 : W8.cell? ⟨W5.heap.size, 0, none⟩ = some (.slice ao_x L_x cap_x) := row_at r_x08.out 0
  have c_x08_1 : W8.cell? ⟨W5.heap.size, 1, none⟩ = some (.int .i64 h.n) := row_at r_x08.out 1
  have c_x08_2 : W8.cell? ⟨W5.heap.size, 2, none⟩ = some (.string h.r) := row_at r_x08.out 2
  have c_x08_3 : W8.cell? ⟨W5.heap.size, 3, none⟩ = some (.slice ao_xp L_xp cap_xp) := row_at r_x08.out 3
  have c_x08_4 : W8.cell? ⟨W5.heap.size, 4, none⟩ = some (.int .i64 s) := row_at r_x08.out 4
  clear r_a7 c_a7_0 c_a7_1 c_a7_2 c_a7_3 c_a7_4 r_x07 c_x07_0 c_x07_1 c_x07_2 c_x07_3 c_x07_4 o_x7 o_xp7
  refine wpAnyH_ready (rs := [3]) (by kernel_rfl) (by simp) ?_
  refine AllReadyH.cons rfl (fun K hK => ?_) AllReadyH.nil
  go_simp
  refine (eq_store W8 _ _ _ _ l h b s o_x8.out.sl o_u8.out.sl o_xp8.out.sl o_up8.out.sl (by omega) (by omega)).mono ?_
  rintro e W9 ⟨rfl, b9⟩
  refine hK.out _ _ ⟨(keepR (W := W8) hHeld.1 b9), (keepR (W := W8) hHeld.2.1 b9), (keepR (W := W8) hHeld.2.2.1 b9), (keepR (W := W8) hHeld.2.2.2.1 b9), (keepR (W := W8) hHeld.2.2.2.2.1 b9), (keepR (W := W8) hHeld.2.2.2.2.2.1 b9), (keepR (W := W8) hHeld.2.2.2.2.2.2.1 b9), (keepR (W := W8) hHeld.2.2.2.2.2.2.2.1 b9), (keepR (W := W8) hHeld.2.2.2.2.2.2.2.2.1 b9), (keepR (W := W8) hHeld.2.2.2.2.2.2.2.2.2 b9)⟩ (fun hHeld => ?_)
  clear hK K
  try simp only [Act.put, List.setIfInBounds_toArray, List.set_cons_zero, List.set_cons_succ, List.getElem_toArray, List.getElem_cons_zero, List.getElem_cons_succ]
  have z9 : W8.heap.size ≤ W9.heap.size := b9.size
  have B9 : Hid (Below w.heap.size w W9) := B8.out.trans (b9.mono B8.out.size)
  have r_a9 : Hid (W9.heap[w.heap.size]? = some (.cells #[.slice ao0 l.length cap0, .int .i64 h.n, .string h.r, .slice ao1 b.length cap1, .int .i64 s] 38 (0, 0))) := rowKeep r_a8.out b9
  have r_x09 : Hid (W9.heap[W5.heap.size]? = some (.cells #[.slice ao_x L_x cap_x, .int .i64 h.n, .string h.r, .slice ao_xp L_xp cap_xp, .int .i64 s] 29 (0, 0))) := rowKeep r_x08.out b9
  have o_x9 : Hid (Own W9 (lo_x) (hi_x) 9 (.slice ao_x L_x cap_x) (ss l)) := Own.later o_x8.out b9 (by omega)
  have o_xp9 : Hid (Own W9 (lo_xp) (hi_xp) 5 (.slice ao_xp L_xp cap_xp) (bs b)) := Own.later o_xp8.out b9 (by omega)
  have o_u9 : Hid (Own W9 (lo_u) (hi_u) 9 (.slice ao_u L_u cap_u) (ss l)) := Own.later o_u8.out b9 (by omega)
  have o_up9 : Hid (Own W9 (lo_up) (hi_up) 5 (.slice ao_up L_up cap_up) (bs b)) := Own.later o_up8.out b9 (by omega)
  have c_a9_0 : W9.cell? ⟨w.heap.size, 0, none⟩ = some (.slice ao0 l.length cap0) := row_at r_a9.out 0
  have c_a9_1 : W9.cell? ⟨w.heap.size, 1, none⟩ = some (.int .i64 h.n) := row_at r_a9.out 1
  have c_a9_2 : W9.cell? ⟨w.heap.size, 2, none⟩ = some (.string h.r) := row_at r_a9.out 2
  have c_a9_3 : W9.cell? ⟨w.heap.size, 3, none⟩ = some (.slice ao1 b.length cap1) := row_at r_a9.out 3
  have c_a9_4 : W9.cell? ⟨w.heap.size, 4, none⟩ = some (.int .i64 s) := row_at r_a9.out 4
  have c_x09_0 : W9.cell? ⟨W5.heap.size, 0, none⟩ = some (.slice ao_x L_x cap_x) := row_at r_x09.out 0
  have c_x09_1 : W9.cell? ⟨W5.heap.size, 1, none⟩ = some (.int .i64 h.n) := row_at r_x09.out 1
  have c_x09_2 : W9.cell? ⟨W5.heap.size, 2, none⟩ = some (.string h.r) := row_at r_x09.out 2
  have c_x09_3 : W9.cell? ⟨W5.heap.size, 3, none⟩ = some (.slice ao_xp L_xp cap_xp) := row_at r_x09.out 3
  have c_x09_4 : W9.cell? ⟨W5.heap.size, 4, none⟩ = some (.int .i64 s) := row_at r_x09.out 4
  clear r_a8 c_a8_0 c_a8_1 c_a8_2 c_a8_3 c_a8_4 r_x08 c_x08_0 c_x08_1 c_x08_2 c_x08_3 c_x08_4 o_x8 o_xp8 o_u8 o_up8
  (refine wpAnyH_take (i := 4) (v := ?v4x3) rfl (by kernel_rfl) (by kernel_rfl) (by kernel_rfl) (fun _ _ _ h => h) (Or.inl ⟨by rfl, ?hy4x3⟩) (by assumption) ?rest4x3; case hy4x3 => (intro w hSw; (try dsimp only at hSw); go_split_ands; go_simp; (try with_reducible rfl)))
  try simp only [Act.put, List.setIfInBounds_toArray, List.set_cons_zero, List.set_cons_succ, List.getElem_toArray, List.getElem_cons_zero, List.getElem_cons_succ]
  refine wpAnyH_done (by kernel_rfl) ?_ _
  clear hHeld
  clear o_u9
  clear o_up9
  go_wp2
  go_ret
  exact ⟨rfl, B9.out⟩

end Go.Proofs.YtfpaichdkddglabDoor.Sr

/- Chapter 7: edges, plain facts alone. -/
namespace Go.Proofs.YtfpaichdkddglabDoor.Ed
open Go.RowKit Go.Proofs.YtfpaichdkddglabDoor.Mem Go.Proofs.YtfpaichdkddglabDoor.Laws Go.Proofs.YtfpaichdkddglabDoor.Sha Go.Proofs.YtfpaichdkddglabDoor.Tr
set_option linter.unusedVariables false
set_option linter.unusedSimpArgs false

/-- the greatest power of 2 that is no more than n (of 1 or more) -/
def top (n : Nat) : Nat := half (n + 1)
theorem top_ok {n : Nat} (h : 1 ≤ n) : Pow (top n) ∧ top n ≤ n ∧ n < 2 * top n := by
  obtain ⟨a, b, c⟩ := half_ok (n := n + 1) (by omega)
  exact ⟨a, by unfold top; omega, by unfold top; omega⟩
theorem top_pos {n : Nat} (h : 1 ≤ n) : 1 ≤ top n := by have := (top_ok h).2.2; omega

/-- the edge of texts: the root of each part, as many texts each as a bit 1 of how many there are, the highest first -/
def edgeF : Nat → List ByteArray → List ByteArray
  | 0, _ => []
  | f + 1, l => if 1 ≤ l.length then root (l.take (top l.length)) :: edgeF f (l.drop (top l.length)) else []
theorem dropT_lt {l : List ByteArray} (h : 1 ≤ l.length) : (l.drop (top l.length)).length < l.length := by
  rw [List.length_drop]; have := top_pos h; omega
theorem edgeF_any : ∀ (f g : Nat) (l : List ByteArray), l.length < f → l.length < g → edgeF f l = edgeF g l := by
  intro f
  induction f with
  | zero => intro g l hf; omega
  | succ f ih =>
    intro g l hf hg
    cases g with
    | zero => omega
    | succ g =>
      by_cases h : 1 ≤ l.length
      · have h1 := dropT_lt h
        rw [edgeF, edgeF, if_pos h, if_pos h, ih g (l.drop (top l.length)) (by omega) (by omega)]
      · rw [edgeF, edgeF, if_neg h, if_neg h]
def edge (l : List ByteArray) : List ByteArray := edgeF (l.length + 1) l
theorem edge_nil : edge [] = [] := by unfold edge; rw [edgeF]; simp
theorem edge_some {l : List ByteArray} (h : 1 ≤ l.length) : edge l = root (l.take (top l.length)) :: edge (l.drop (top l.length)) := by
  have h1 := dropT_lt h
  unfold edge
  rw [edgeF, if_pos h, edgeF_any l.length ((l.drop (top l.length)).length + 1) (l.drop (top l.length)) (by omega) (by omega)]

/-- the root of an edge -/
def eroot : List ByteArray → ByteArray
  | [] => Plain.txt (digest [])
  | [h] => h
  | h :: g :: r => nodeH h (eroot (g :: r))
theorem eroot_cons {h : ByteArray} {r : List ByteArray} (hr : r ≠ []) : eroot (h :: r) = nodeH h (eroot r) := by
  cases r with
  | nil => exact absurd rfl hr
  | cons g r => rfl
theorem edge_ne {l : List ByteArray} (h : 1 ≤ l.length) : edge l ≠ [] := by rw [edge_some h]; simp
theorem eroot_edge (l : List ByteArray) : eroot (edge l) = root l := by
  refine lenRec (P := fun l => eroot (edge l) = root l) ?_ l
  intro l ih
  by_cases h : 1 ≤ l.length
  · obtain ⟨hp, h1, h2⟩ := top_ok h
    have hpos := top_pos h
    rw [edge_some h]
    by_cases he : top l.length = l.length
    · rw [he, List.take_length, List.drop_length, edge_nil]
      rfl
    · have hd : 1 ≤ (l.drop (top l.length)).length := by rw [List.length_drop]; omega
      have h3 : 2 ≤ l.length := by omega
      rw [eroot_cons (edge_ne hd), ih (l.drop (top l.length)) (dropT_lt h), root_more h3]
      obtain ⟨a, b, c⟩ := half_ok h3
      rw [pow_one a hp b c (by omega) (by omega)]
  · obtain rfl : l = [] := List.eq_nil_of_length_eq_zero (by omega)
    rw [edge_nil, root_nil]
    rfl

/-- one more behind an edge of n: where n is odd the last one and it are a node -/
def carryF : Nat → Nat → List ByteArray → ByteArray → List ByteArray
  | 0, _, _, _ => []
  | f + 1, n, hs, h => if n % 2 = 1 then carryF f (n / 2) hs.dropLast (nodeH (hs.getLastD ⟨#[]⟩) h) else hs ++ [h]
theorem carryF_any : ∀ (f g n : Nat) (hs : List ByteArray) (h : ByteArray), n < f → n < g → carryF f n hs h = carryF g n hs h := by
  intro f
  induction f with
  | zero => intro g n hs h hf; omega
  | succ f ih =>
    intro g n hs h hf hg
    cases g with
    | zero => omega
    | succ g =>
      by_cases h0 : n % 2 = 1
      · rw [carryF, carryF, if_pos h0, if_pos h0, ih g (n / 2) _ _ (by omega) (by omega)]
      · rw [carryF, carryF, if_neg h0, if_neg h0]
def carry (n : Nat) (hs : List ByteArray) (h : ByteArray) : List ByteArray := carryF (n + 1) n hs h
theorem carry_if (n : Nat) (hs : List ByteArray) (h : ByteArray) : carry n hs h = if n % 2 = 1 then carry (n / 2) hs.dropLast (nodeH (hs.getLastD ⟨#[]⟩) h) else hs ++ [h] := by
  unfold carry
  by_cases h0 : n % 2 = 1
  · rw [carryF, if_pos h0, if_pos h0, carryF_any n (n / 2 + 1) (n / 2) _ _ (by omega) (by omega)]
  · rw [carryF, if_neg h0, if_neg h0]
theorem carry_even {n : Nat} (h0 : ¬ n % 2 = 1) (hs : List ByteArray) (h : ByteArray) : carry n hs h = hs ++ [h] := by rw [carry_if, if_neg h0]
theorem carry_odd {n : Nat} (h0 : n % 2 = 1) (hs : List ByteArray) (g h : ByteArray) : carry n (hs ++ [g]) h = carry (n / 2) hs (nodeH g h) := by
  rw [carry_if, if_pos h0]; simp

theorem pow_half (j : Nat) : half (2 ^ (j + 1)) = 2 ^ j := by
  have h1 : 1 ≤ 2 ^ j := Nat.one_le_two_pow
  have e : 2 ^ (j + 1) = 2 * 2 ^ j := by rw [Nat.pow_succ]; omega
  obtain ⟨a, b, c⟩ := half_ok (n := 2 ^ (j + 1)) (by omega)
  exact pow_one a ⟨j, rfl⟩ b c (by omega) (by omega)
theorem root_two {u t : List ByteArray} {j : Nat} (hu : u.length = 2 ^ j) (ht : t.length = 2 ^ j) : root (u ++ t) = nodeH (root u) (root t) := by
  have h1 : 1 ≤ 2 ^ j := Nat.one_le_two_pow
  have e : 2 ^ (j + 1) = 2 * 2 ^ j := by rw [Nat.pow_succ]; omega
  have hl : (u ++ t).length = 2 ^ (j + 1) := by rw [List.length_append]; omega
  rw [root_more (by omega), hl, pow_half, ← hu, List.take_left, List.drop_left]
theorem top_pow (j : Nat) : top (2 ^ j) = 2 ^ j := by
  have h1 : 1 ≤ 2 ^ j := Nat.one_le_two_pow
  obtain ⟨a, b, c⟩ := top_ok h1
  exact pow_one (n := 2 ^ j + 1) a ⟨j, rfl⟩ (by omega) (by omega) (by omega) (by omega)
theorem edge_pow {t : List ByteArray} {j : Nat} (ht : t.length = 2 ^ j) : edge t = [root t] := by
  have h1 : 1 ≤ 2 ^ j := Nat.one_le_two_pow
  rw [edge_some (by omega), ht, top_pow, ← ht, List.take_length, List.drop_length, edge_nil]
theorem edge_snoc {j : Nat} {t : List ByteArray} (ht : t.length = 2 ^ j) (l : List ByteArray) : ∀ (hl : 2 ^ (j + 1) ∣ l.length), edge (l ++ t) = edge l ++ [root t] := by
  refine lenRec (P := fun l => ∀ (hl : 2 ^ (j + 1) ∣ l.length), edge (l ++ t) = edge l ++ [root t]) ?_ l
  intro l ihl hl
  have h1 : 1 ≤ 2 ^ j := Nat.one_le_two_pow
  have e : 2 ^ (j + 1) = 2 * 2 ^ j := by rw [Nat.pow_succ]; omega
  by_cases h : 1 ≤ l.length
  · obtain ⟨⟨d, hp⟩, a, b⟩ := top_ok h
    have hpos := top_pos h
    have hle : 2 ^ (j + 1) ≤ l.length := Nat.le_of_dvd (by omega) hl
    have hjd : j + 1 ≤ d := by
      have h4 : 2 ^ (j + 1) < 2 ^ (d + 1) := by rw [Nat.pow_succ 2 d]; omega
      have := (Nat.pow_lt_pow_iff_right (by omega : 1 < 2)).1 h4
      omega
    have hdvd : 2 ^ (j + 1) ∣ top l.length := by rw [hp]; exact Nat.pow_dvd_pow 2 hjd
    have hdrop : 2 ^ (j + 1) ∣ (l.drop (top l.length)).length := by rw [List.length_drop]; exact Nat.dvd_sub hl hdvd
    have hlt : l.length + 2 ^ j < 2 * top l.length := by
      have h5 : 2 ^ (j + 1) ∣ 2 * top l.length - l.length := Nat.dvd_sub (Nat.dvd_trans hdvd (Nat.dvd_mul_left _ _)) hl
      have h6 := Nat.le_of_dvd (by omega) h5
      omega
    have hlen : (l ++ t).length = l.length + 2 ^ j := by rw [List.length_append, ht]
    have htop : top (l ++ t).length = top l.length := by
      obtain ⟨a', b', c'⟩ := top_ok (n := (l ++ t).length) (by omega)
      exact pow_one (n := (l ++ t).length + 1) a' ⟨d, hp⟩ (by omega) (by omega) (by omega) (by omega)
    have ih := ihl (l.drop (top l.length)) (dropT_lt h) hdrop
    rw [edge_some (l := l ++ t) (by omega), htop, List.take_append_of_le_length a, List.drop_append_of_le_length a, ih, edge_some h]
    rfl
  · obtain rfl : l = [] := List.eq_nil_of_length_eq_zero (by omega)
    rw [List.nil_append, edge_pow ht, edge_nil]
    rfl
theorem carry_edge (n : Nat) : ∀ (j : Nat) (l t : List ByteArray), l.length = n * 2 ^ j → t.length = 2 ^ j → carry n (edge l) (root t) = edge (l ++ t) := by
  refine natRec (P := fun n => ∀ (j : Nat) (l t : List ByteArray), l.length = n * 2 ^ j → t.length = 2 ^ j → carry n (edge l) (root t) = edge (l ++ t)) ?_ n
  intro n ihn j l t hl ht
  have h1 : 1 ≤ 2 ^ j := Nat.one_le_two_pow
  have e : 2 ^ (j + 1) = 2 * 2 ^ j := by rw [Nat.pow_succ]; omega
  by_cases hn : n % 2 = 1
  · have hm : n * 2 ^ j = (n / 2) * 2 ^ (j + 1) + 2 ^ j := by
      have : n = 2 * (n / 2) + 1 := by omega
      generalize n / 2 = m at this
      rw [this, e, Nat.add_mul, Nat.one_mul, Nat.mul_comm 2 m, Nat.mul_assoc]
    have h2 : (l.take ((n / 2) * 2 ^ (j + 1))).length = (n / 2) * 2 ^ (j + 1) := by rw [List.length_take]; omega
    have h3 : (l.drop ((n / 2) * 2 ^ (j + 1))).length = 2 ^ j := by rw [List.length_drop]; omega
    have h4 : edge l = edge (l.take ((n / 2) * 2 ^ (j + 1))) ++ [root (l.drop ((n / 2) * 2 ^ (j + 1)))] := by
      have := edge_snoc h3 (l.take ((n / 2) * 2 ^ (j + 1))) (by rw [h2]; exact Nat.dvd_mul_left _ _)
      rwa [List.take_append_drop] at this
    rw [h4, carry_odd hn, ← root_two h3 ht, ihn (n / 2) (by omega) (j + 1) _ (l.drop ((n / 2) * 2 ^ (j + 1)) ++ t) h2 (by rw [List.length_append]; omega), ← List.append_assoc, List.take_append_drop]
  · have hm : l.length = (n / 2) * 2 ^ (j + 1) := by
      have : n = 2 * (n / 2) := by omega
      generalize n / 2 = m at this
      rw [hl, this, e, Nat.mul_comm 2 m, Nat.mul_assoc]
    rw [carry_even hn, edge_snoc ht l (by rw [hm]; exact Nat.dvd_mul_left _ _)]
/-- one text more behind the edge of texts is the edge of all -/
theorem carry_one (l : List ByteArray) (s : ByteArray) : carry l.length (edge l) (leafH s) = edge (l ++ [s]) := by
  rw [← root_one]
  exact carry_edge l.length 0 l [s] (by simp) (by simp)

/-- how many bits of n are 1 -/
def popcF : Nat → Nat → Nat
  | 0, _ => 0
  | f + 1, n => if n = 0 then 0 else n % 2 + popcF f (n / 2)
theorem popcF_any : ∀ (f g n : Nat), n < f → n < g → popcF f n = popcF g n := by
  intro f
  induction f with
  | zero => intro g n hf; omega
  | succ f ih =>
    intro g n hf hg
    cases g with
    | zero => omega
    | succ g =>
      by_cases h0 : n = 0
      · rw [popcF, popcF, if_pos h0, if_pos h0]
      · rw [popcF, popcF, if_neg h0, if_neg h0, ih g (n / 2) (by omega) (by omega)]
def popc (n : Nat) : Nat := popcF (n + 1) n
theorem popc_zero : popc 0 = 0 := rfl
theorem popc_step {n : Nat} (h : n ≠ 0) : popc n = n % 2 + popc (n / 2) := by
  unfold popc
  rw [popcF, if_neg h, popcF_any n (n / 2 + 1) (n / 2) (by omega) (by omega)]
theorem carry_len (n : Nat) : ∀ (hs : List ByteArray) (h : ByteArray), hs.length = popc n → (carry n hs h).length = popc (n + 1) := by
  refine natRec (P := fun n => ∀ (hs : List ByteArray) (h : ByteArray), hs.length = popc n → (carry n hs h).length = popc (n + 1)) ?_ n
  intro n ih hs h hl
  by_cases hn : n % 2 = 1
  · rw [popc_step (by omega), hn] at hl
    rcases List.eq_nil_or_concat hs with rfl | ⟨q, g, rfl⟩
    · simp at hl
      omega
    · rw [List.concat_eq_append] at *
      have hq : q.length = popc (n / 2) := by simp at hl; omega
      rw [carry_odd hn, ih (n / 2) (by omega) q _ hq, popc_step (n := n + 1) (by omega), show (n + 1) % 2 = 0 by omega, show (n + 1) / 2 = n / 2 + 1 by omega]
      omega
  · rw [carry_even hn, List.length_append, hl, popc_step (n := n + 1) (by omega), show (n + 1) % 2 = 1 by omega, show (n + 1) / 2 = n / 2 by omega]
    by_cases h0 : n = 0
    · subst h0; simp [popc_zero]
    · rw [popc_step h0, show n % 2 = 0 by omega]; simp; omega
theorem carry_sizes (n : Nat) : ∀ (hs : List ByteArray) (h : ByteArray), (∀ s ∈ hs, s.size = 32) → h.size = 32 → ∀ s ∈ carry n hs h, s.size = 32 := by
  refine natRec (P := fun n => ∀ (hs : List ByteArray) (h : ByteArray), (∀ s ∈ hs, s.size = 32) → h.size = 32 → ∀ s ∈ carry n hs h, s.size = 32) ?_ n
  intro n ih hs h hl h32
  by_cases hn : n % 2 = 1
  · rw [carry_if, if_pos hn]
    exact ih (n / 2) (by omega) _ _ (fun s hs' => hl s (List.dropLast_subset _ hs')) (nodeH_size _ _)
  · rw [carry_even hn]
    intro s hs'
    rcases List.mem_append.1 hs' with h1 | h1
    · exact hl s h1
    · simp at h1; rw [h1]; exact h32
theorem edge_sizes (l : List ByteArray) : ∀ s ∈ edge l, s.size = 32 := by
  refine lenRec (P := fun l => ∀ s ∈ edge l, s.size = 32) ?_ l
  intro l ih
  by_cases h : 1 ≤ l.length
  · have hp := top_pos h
    rw [edge_some h]
    intro s hs
    rcases List.mem_cons.1 hs with rfl | hs
    · exact root_size _
    · exact ih _ (dropT_lt h) s hs
  · obtain rfl : l = [] := List.eq_nil_of_length_eq_zero (by omega)
    rw [edge_nil]; intro s hs; cases hs
theorem edge_lenN : ∀ (N : Nat) (l : List ByteArray), l.length = N → (edge l).length = popc N := by
  intro N
  induction N with
  | zero =>
    intro l h
    obtain rfl : l = [] := List.eq_nil_of_length_eq_zero h
    rw [edge_nil, popc_zero]; rfl
  | succ n ih =>
    intro l h
    rcases List.eq_nil_or_concat l with rfl | ⟨q, s, rfl⟩
    · cases h
    · rw [List.concat_eq_append] at *
      have hq : q.length = n := by simp at h; exact h
      rw [← carry_one, hq, carry_len _ _ _ (ih q hq)]
theorem edge_len (l : List ByteArray) : (edge l).length = popc l.length := edge_lenN _ l rfl
theorem popc_le : ∀ n : Fin 256, popc n.val ≤ 8 := by decide +kernel
theorem eroot_size {hs : List ByteArray} (h : ∀ s ∈ hs, s.size = 32) : (eroot hs).size = 32 := by
  match hs, h with
  | [], _ => show (Plain.txt (digest [])).size = 32; rw [txt_size, digest_len]
  | [a], h => exact h a (by simp)
  | a :: b :: r, _ => exact nodeH_size _ _

/-- what is right -/
def okE (n : Int) (hs : List ByteArray) : Bool := decide (0 ≤ n ∧ n ≤ 200) && decide (hs.length = popc n.toNat) && hs.all (fun s => decide (s.size = 32))
/-- one more behind what is right -/
def addE (n : Int) (hs : List ByteArray) (s : ByteArray) : Int × List ByteArray × Bool :=
  if okE n hs = true ∧ n ≠ 200 then (n + 1, carry n.toNat hs (leafH s), true) else (n, hs, false)
def edgeOf (l : List ByteArray) : Nat × List ByteArray := if l.length ≤ 200 then (l.length, edge l) else (0, [])
def rootE (n : Int) (hs : List ByteArray) : ByteArray := if okE n hs = true then eroot hs else ⟨#[]⟩
/-- several more -/
def goE (n : Int) (hs : List ByteArray) : List ByteArray → Option (Int × List ByteArray)
  | [] => some (n, hs)
  | s :: r => if (addE n hs s).2.2 = true then goE (addE n hs s).1 (addE n hs s).2.1 r else none
def allE (n : Int) (hs l : List ByteArray) : Int × List ByteArray × Bool := match goE n hs l with
  | some (m, r) => (m, r, true)
  | none => (n, hs, false)
theorem okE_iff {n : Int} {hs : List ByteArray} : okE n hs = true ↔ (0 ≤ n ∧ n ≤ 200) ∧ hs.length = popc n.toNat ∧ ∀ s ∈ hs, s.size = 32 := by
  unfold okE
  simp [and_assoc]
theorem okE_edge {l : List ByteArray} (h : l.length ≤ 200) : okE (l.length : Int) (edge l) = true :=
  okE_iff.2 ⟨by omega, by rw [edge_len, Int.toNat_natCast], edge_sizes l⟩
theorem addE_yes {n : Int} {hs : List ByteArray} (h : okE n hs = true) (h2 : n ≠ 200) (s : ByteArray) : addE n hs s = (n + 1, carry n.toNat hs (leafH s), true) := by
  unfold addE; rw [if_pos ⟨h, h2⟩]
theorem addE_no {n : Int} {hs : List ByteArray} (h : ¬ (okE n hs = true ∧ n ≠ 200)) (s : ByteArray) : addE n hs s = (n, hs, false) := by
  unfold addE; rw [if_neg h]
theorem addE_ok {n : Int} {hs : List ByteArray} (h : okE n hs = true) (h2 : n ≠ 200) (s : ByteArray) : okE (n + 1) (carry n.toNat hs (leafH s)) = true := by
  obtain ⟨a, b, c⟩ := okE_iff.1 h
  refine okE_iff.2 ⟨by omega, ?_, carry_sizes _ _ _ c (leafH_size s)⟩
  rw [carry_len _ _ _ b, show (n + 1).toNat = n.toNat + 1 by omega]
theorem addE_edge {l : List ByteArray} (h : l.length < 200) (s : ByteArray) : addE (l.length : Int) (edge l) s = (((l ++ [s]).length : Int), edge (l ++ [s]), true) := by
  rw [addE_yes (okE_edge (by omega)) (by omega), Int.toNat_natCast, carry_one, List.length_append]
  rfl
theorem goE_edge : ∀ (r l : List ByteArray), l.length + r.length ≤ 200 → goE (l.length : Int) (edge l) r = some (((l ++ r).length : Int), edge (l ++ r))
  | [], l, _ => by rw [List.append_nil]; rfl
  | s :: r, l, h => by
    have hl : l.length < 200 := by simp at h; omega
    rw [goE, addE_edge hl, if_pos rfl]
    have := goE_edge r (l ++ [s]) (by simp at h ⊢; omega)
    rw [this, List.append_assoc]
    rfl
theorem allE_edge {l r : List ByteArray} (h : l.length + r.length ≤ 200) : allE (l.length : Int) (edge l) r = (((l ++ r).length : Int), edge (l ++ r), true) := by
  unfold allE; rw [goE_edge r l h]
theorem rootE_edge {l : List ByteArray} (h : l.length ≤ 200) : rootE (l.length : Int) (edge l) = root l := by
  unfold rootE; rw [if_pos (okE_edge h), eroot_edge]

end Go.Proofs.YtfpaichdkddglabDoor.Ed
