/- Chapter 11: the exact laws, over contracts of the landed functions. -/
import Derived.Test.YtccnhhdcdamgmaaDoorLg3
import Derived.Test.YtccnhhdcdamgmaaDoorLgH
import Derived.Test.YtccnhhdcdamgmaaDoorHe3
import Derived.Test.YtccnhhdcdamgmaaDoorTrX
import Derived.Test.YtccnhhdcdamgmaaDoorNth
import Derived.Deep.DeepCutAuto
namespace Go.Proofs.YtccnhhdcdamgmaaDoor.Lg
open Go.RowKit Go.Proofs.YtccnhhdcdamgmaaDoor.Mem Go.Proofs.YtccnhhdcdamgmaaDoor.Laws Go.Proofs.YtccnhhdcdamgmaaDoor.Bytes Go.Proofs.YtccnhhdcdamgmaaDoor.Sha Go.Proofs.YtccnhhdcdamgmaaDoor.Tr Go.Proofs.YtccnhhdcdamgmaaDoor.He
set_option linter.unusedVariables false
set_option linter.unusedSimpArgs false

theorem slNil (w : World) : Sl w (.slice none 0 0) (ss []) := ⟨none, 0, rfl, Nat.le_refl _, fun _ => rfl, fun h => by simp [ss] at h⟩
/-- heads that are owned, in blocks that are there -/
def Ohx (w : World) (lo hi : Nat) (v : Value) (t : List Hd) : Prop := Oh w lo hi v t ∧ hi ≤ w.heap.size
theorem Ohx.later {w w' : World} {lo hi : Nat} {v : Value} {t : List Hd} (h : Ohx w lo hi v t) (b : Below w.heap.size w w') : Ohx w' lo hi v t := ⟨h.1.later b h.2, Nat.le_trans h.2 b.size⟩
theorem Ohx.apart {w w' : World} {lo hi lo' hi' : Nat} {v : Value} {t : List Hd} (h : Ohx w lo hi v t) (a : Apart lo' hi' w w') (hd : hi ≤ lo' ∨ hi' ≤ lo) : Ohx w' lo hi v t := ⟨On.apart h.1 a (by omega) h.2, Nat.le_trans h.2 a.size⟩
theorem ext_len (l : List ByteArray) (hd : Hd) (t : List Hd) (h : Hd) (x : List ByteArray) : (extend l hd t h x).1.length ≤ l.length + x.length := by
  unfold extend
  repeat' split
  all_goals simp

set_option maxRecDepth 1000000 in
set_option maxHeartbeats 16000000 in
theorem exact_lognew (w : World)
    (iF : ∀ W, Below w.heap.size w W → Calls Tryd.prog 27 #[] W fun e w' => ∃ v', e = .returned (.agg #[v', .int .i64 (headOf []).n, .string (headOf []).r]) ∧ Own w' W.heap.size w'.heap.size 9 v' (ss []) ∧ Below W.heap.size W w') :
    Calls Tryd.prog 5 #[] w fun e w' => e = .returned (.bool true) ∧ Below w.heap.size w w' := by
  have B0 : Hid (Below w.heap.size w w) := Below.refl _ _
  have q1 : ∀ W, _ := fun W => lognew_spec W
  have q2 : ∀ W, Below w.heap.size w W → _ := fun W hB => iF W hB
  obtain ⟨M, hM⟩ : ∃ M, headOf [] = M := ⟨_, rfl⟩
  simp only [hM] at q1 q2
  clear hM iF
  go_enter Tryd.func5, Tryd.ntmps5
  go_wp2_with fail
  refine (q1 w).mono ?_
  rintro e W1 ⟨rfl, b1⟩
  have z1 : w.heap.size ≤ W1.heap.size := b1.size
  have B1 : Hid (Below w.heap.size w W1) := B0.out.trans (b1.mono B0.out.size)
  obtain ⟨W2, HW2, b2, y2, hS2, r_w02⟩ : ∃ X, Hid ((W1.alloc (.cells #[.slice none 0 0, .int .i64 M.n, .string M.r] 28)) = X) ∧ Below W1.heap.size W1 X ∧ W1.heap.size + 1 ≤ X.heap.size ∧ Hid (X.heap.size = W1.heap.size + 1) ∧ Hid (X.heap[W1.heap.size]? = some (.cells #[.slice none 0 0, .int .i64 M.n, .string M.r] 28 (0, 0))) := ⟨_, rfl, ((Below.refl _ _).alloc (Nat.le_refl _) _), by simp, by show _ = _; simp, (by show _ = _; exact alloc_nth1_0 W1 _)⟩
  have z2 : W1.heap.size ≤ W2.heap.size := b2.size
  have B2 : Hid (Below w.heap.size w W2) := B1.out.trans (b2.mono B1.out.size)
  have c_w02_0 : W2.cell? ⟨W1.heap.size, 0, none⟩ = some (.slice none 0 0) := row_at r_w02.out 0
  have c_w02_1 : W2.cell? ⟨W1.heap.size, 1, none⟩ = some (.int .i64 M.n) := row_at r_w02.out 1
  have c_w02_2 : W2.cell? ⟨W1.heap.size, 2, none⟩ = some (.string M.r) := row_at r_w02.out 2
  go_wp2_with fail
  rw [HW2.out]
  refine (q2 W2 B2.out).mono ?_
  rintro e W3 ⟨v_gv, rfl, o_gv3, b3⟩
  obtain ⟨ao_gv, L_gv, cap_gv, rfl, hL_gv, hM_gv⟩ := o_gv3.form
  have o_gv3 : Hid (Own W3 W2.heap.size W3.heap.size 9 (.slice ao_gv L_gv cap_gv) (ss [])) := o_gv3
  clear hL_gv hM_gv
  have z3 : W2.heap.size ≤ W3.heap.size := b3.size
  have B3 : Hid (Below w.heap.size w W3) := B2.out.trans (b3.mono B2.out.size)
  have r_w03 : Hid (W3.heap[W1.heap.size]? = some (.cells #[.slice none 0 0, .int .i64 M.n, .string M.r] 28 (0, 0))) := rowKeep r_w02.out b3
  have c_w03_0 : W3.cell? ⟨W1.heap.size, 0, none⟩ = some (.slice none 0 0) := row_at r_w03.out 0
  have c_w03_1 : W3.cell? ⟨W1.heap.size, 1, none⟩ = some (.int .i64 M.n) := row_at r_w03.out 1
  have c_w03_2 : W3.cell? ⟨W1.heap.size, 2, none⟩ = some (.string M.r) := row_at r_w03.out 2
  clear r_w02 c_w02_0 c_w02_1 c_w02_2
  have a_w03_0 : ∀ o, (W3.alloc o).cell? ⟨W1.heap.size, 0, none⟩ = some (.slice none 0 0) := fun o => keepR c_w03_0 ((Below.refl _ _).alloc (Nat.le_refl _) o)
  have a_w03_1 : ∀ o, (W3.alloc o).cell? ⟨W1.heap.size, 1, none⟩ = some (.int .i64 M.n) := fun o => keepR c_w03_1 ((Below.refl _ _).alloc (Nat.le_refl _) o)
  have a_w03_2 : ∀ o, (W3.alloc o).cell? ⟨W1.heap.size, 2, none⟩ = some (.string M.r) := fun o => keepR c_w03_2 ((Below.refl _ _).alloc (Nat.le_refl _) o)
  obtain ⟨W4, HW4, b4, y4, hS4, r_g04⟩ : ∃ X, Hid ((W3.alloc (.cells #[.slice ao_gv L_gv cap_gv, .int .i64 M.n, .string M.r] 28)) = X) ∧ Below W3.heap.size W3 X ∧ W3.heap.size + 1 ≤ X.heap.size ∧ Hid (X.heap.size = W3.heap.size + 1) ∧ Hid (X.heap[W3.heap.size]? = some (.cells #[.slice ao_gv L_gv cap_gv, .int .i64 M.n, .string M.r] 28 (0, 0))) := ⟨_, rfl, ((Below.refl _ _).alloc (Nat.le_refl _) _), by simp, by show _ = _; simp, (by show _ = _; exact alloc_nth1_0 W3 _)⟩
  have z4 : W3.heap.size ≤ W4.heap.size := b4.size
  have B4 : Hid (Below w.heap.size w W4) := B3.out.trans (b4.mono B3.out.size)
  have r_w04 : Hid (W4.heap[W1.heap.size]? = some (.cells #[.slice none 0 0, .int .i64 M.n, .string M.r] 28 (0, 0))) := rowKeep r_w03.out b4
  have o_gv4 : Hid (Own W4 (W2.heap.size) (W3.heap.size) 9 (.slice ao_gv L_gv cap_gv) (ss [])) := Own.later o_gv3.out b4 (by omega)
  have c_w04_0 : W4.cell? ⟨W1.heap.size, 0, none⟩ = some (.slice none 0 0) := row_at r_w04.out 0
  have c_w04_1 : W4.cell? ⟨W1.heap.size, 1, none⟩ = some (.int .i64 M.n) := row_at r_w04.out 1
  have c_w04_2 : W4.cell? ⟨W1.heap.size, 2, none⟩ = some (.string M.r) := row_at r_w04.out 2
  have c_g04_0 : W4.cell? ⟨W3.heap.size, 0, none⟩ = some (.slice ao_gv L_gv cap_gv) := row_at r_g04.out 0
  have c_g04_1 : W4.cell? ⟨W3.heap.size, 1, none⟩ = some (.int .i64 M.n) := row_at r_g04.out 1
  have c_g04_2 : W4.cell? ⟨W3.heap.size, 2, none⟩ = some (.string M.r) := row_at r_g04.out 2
  clear r_w03 c_w03_0 c_w03_1 c_w03_2 o_gv3
  go_wp2_with fail
  rw [HW4.out]
  clear a_w03_0 a_w03_1 a_w03_2
  refine (eq_log W4 M _ _ [] o_gv4.out.sl (slNil _) (by simp)).mono ?_
  rintro e W5 ⟨rfl, b5⟩
  have z5 : W4.heap.size ≤ W5.heap.size := b5.size
  have B5 : Hid (Below w.heap.size w W5) := B4.out.trans (b5.mono B4.out.size)
  have r_w05 : Hid (W5.heap[W1.heap.size]? = some (.cells #[.slice none 0 0, .int .i64 M.n, .string M.r] 28 (0, 0))) := rowKeep r_w04.out b5
  have r_g05 : Hid (W5.heap[W3.heap.size]? = some (.cells #[.slice ao_gv L_gv cap_gv, .int .i64 M.n, .string M.r] 28 (0, 0))) := rowKeep r_g04.out b5
  have o_gv5 : Hid (Own W5 (W2.heap.size) (W3.heap.size) 9 (.slice ao_gv L_gv cap_gv) (ss [])) := Own.later o_gv4.out b5 (by omega)
  have c_w05_0 : W5.cell? ⟨W1.heap.size, 0, none⟩ = some (.slice none 0 0) := row_at r_w05.out 0
  have c_w05_1 : W5.cell? ⟨W1.heap.size, 1, none⟩ = some (.int .i64 M.n) := row_at r_w05.out 1
  have c_w05_2 : W5.cell? ⟨W1.heap.size, 2, none⟩ = some (.string M.r) := row_at r_w05.out 2
  have c_g05_0 : W5.cell? ⟨W3.heap.size, 0, none⟩ = some (.slice ao_gv L_gv cap_gv) := row_at r_g05.out 0
  have c_g05_1 : W5.cell? ⟨W3.heap.size, 1, none⟩ = some (.int .i64 M.n) := row_at r_g05.out 1
  have c_g05_2 : W5.cell? ⟨W3.heap.size, 2, none⟩ = some (.string M.r) := row_at r_g05.out 2
  clear r_w04 c_w04_0 c_w04_1 c_w04_2 r_g04 c_g04_0 c_g04_1 c_g04_2 o_gv4
  go_wp2_with fail
  refine (mark_log W5 M _ (W2.heap.size) (W3.heap.size) [] 1 o_gv5.out (by omega) (by simp) (by omega) (by omega)).mono ?_
  rintro e W6 ⟨rfl, o_gv6, p6⟩
  have o_gv6 : Hid (Own W6 (W2.heap.size) (W3.heap.size) 9 (.slice ao_gv L_gv cap_gv) (ss (Strs.mts 1 ([] : List ByteArray).length))) := o_gv6
  have z6 : W5.heap.size ≤ W6.heap.size := p6.size
  have B6 : Hid (Below w.heap.size w W6) := B5.out.trans (p6.below (by have := B5.out.size; omega) B5.out.size)
  have r_w06 : Hid (W6.heap[W1.heap.size]? = some (.cells #[.slice none 0 0, .int .i64 M.n, .string M.r] 28 (0, 0))) := (p6.block (W1.heap.size) (by omega) (by omega)).trans r_w05.out
  have r_g06 : Hid (W6.heap[W3.heap.size]? = some (.cells #[.slice ao_gv L_gv cap_gv, .int .i64 M.n, .string M.r] 28 (0, 0))) := (p6.block (W3.heap.size) (by omega) (by omega)).trans r_g05.out
  have c_w06_0 : W6.cell? ⟨W1.heap.size, 0, none⟩ = some (.slice none 0 0) := row_at r_w06.out 0
  have c_w06_1 : W6.cell? ⟨W1.heap.size, 1, none⟩ = some (.int .i64 M.n) := row_at r_w06.out 1
  have c_w06_2 : W6.cell? ⟨W1.heap.size, 2, none⟩ = some (.string M.r) := row_at r_w06.out 2
  have c_g06_0 : W6.cell? ⟨W3.heap.size, 0, none⟩ = some (.slice ao_gv L_gv cap_gv) := row_at r_g06.out 0
  have c_g06_1 : W6.cell? ⟨W3.heap.size, 1, none⟩ = some (.int .i64 M.n) := row_at r_g06.out 1
  have c_g06_2 : W6.cell? ⟨W3.heap.size, 2, none⟩ = some (.string M.r) := row_at r_g06.out 2
  clear r_w05 c_w05_0 c_w05_1 c_w05_2 r_g05 c_g05_0 c_g05_1 c_g05_2 o_gv5
  go_wp2_with fail
  refine (held_log W6 M _ ([] : List ByteArray).length 1 o_gv6.out.sl (by simp) (by omega) (by omega)).mono ?_
  rintro e W7 ⟨rfl, b7⟩
  have z7 : W6.heap.size ≤ W7.heap.size := b7.size
  have B7 : Hid (Below w.heap.size w W7) := B6.out.trans (b7.mono B6.out.size)
  have r_w07 : Hid (W7.heap[W1.heap.size]? = some (.cells #[.slice none 0 0, .int .i64 M.n, .string M.r] 28 (0, 0))) := rowKeep r_w06.out b7
  have r_g07 : Hid (W7.heap[W3.heap.size]? = some (.cells #[.slice ao_gv L_gv cap_gv, .int .i64 M.n, .string M.r] 28 (0, 0))) := rowKeep r_g06.out b7
  have o_gv7 : Hid (Own W7 (W2.heap.size) (W3.heap.size) 9 (.slice ao_gv L_gv cap_gv) (ss (Strs.mts 1 ([] : List ByteArray).length))) := Own.later o_gv6.out b7 (by omega)
  have c_w07_0 : W7.cell? ⟨W1.heap.size, 0, none⟩ = some (.slice none 0 0) := row_at r_w07.out 0
  have c_w07_1 : W7.cell? ⟨W1.heap.size, 1, none⟩ = some (.int .i64 M.n) := row_at r_w07.out 1
  have c_w07_2 : W7.cell? ⟨W1.heap.size, 2, none⟩ = some (.string M.r) := row_at r_w07.out 2
  have c_g07_0 : W7.cell? ⟨W3.heap.size, 0, none⟩ = some (.slice ao_gv L_gv cap_gv) := row_at r_g07.out 0
  have c_g07_1 : W7.cell? ⟨W3.heap.size, 1, none⟩ = some (.int .i64 M.n) := row_at r_g07.out 1
  have c_g07_2 : W7.cell? ⟨W3.heap.size, 2, none⟩ = some (.string M.r) := row_at r_g07.out 2
  clear r_w06 c_w06_0 c_w06_1 c_w06_2 r_g06 c_g06_0 c_g06_1 c_g06_2 o_gv6
  go_wp2_with fail
  refine (q2 W7 B7.out).mono ?_
  rintro e W8 ⟨v_hv, rfl, o_hv8, b8⟩
  obtain ⟨ao_hv, L_hv, cap_hv, rfl, hL_hv, hM_hv⟩ := o_hv8.form
  have o_hv8 : Hid (Own W8 W7.heap.size W8.heap.size 9 (.slice ao_hv L_hv cap_hv) (ss [])) := o_hv8
  clear hL_hv hM_hv
  have z8 : W7.heap.size ≤ W8.heap.size := b8.size
  have B8 : Hid (Below w.heap.size w W8) := B7.out.trans (b8.mono B7.out.size)
  have r_w08 : Hid (W8.heap[W1.heap.size]? = some (.cells #[.slice none 0 0, .int .i64 M.n, .string M.r] 28 (0, 0))) := rowKeep r_w07.out b8
  have r_g08 : Hid (W8.heap[W3.heap.size]? = some (.cells #[.slice ao_gv L_gv cap_gv, .int .i64 M.n, .string M.r] 28 (0, 0))) := rowKeep r_g07.out b8
  have o_gv8 : Hid (Own W8 (W2.heap.size) (W3.heap.size) 9 (.slice ao_gv L_gv cap_gv) (ss (Strs.mts 1 ([] : List ByteArray).length))) := Own.later o_gv7.out b8 (by omega)
  have c_w08_0 : W8.cell? ⟨W1.heap.size, 0, none⟩ = some (.slice none 0 0) := row_at r_w08.out 0
  have c_w08_1 : W8.cell? ⟨W1.heap.size, 1, none⟩ = some (.int .i64 M.n) := row_at r_w08.out 1
  have c_w08_2 : W8.cell? ⟨W1.heap.size, 2, none⟩ = some (.string M.r) := row_at r_w08.out 2
  have c_g08_0 : W8.cell? ⟨W3.heap.size, 0, none⟩ = some (.slice ao_gv L_gv cap_gv) := row_at r_g08.out 0
  have c_g08_1 : W8.cell? ⟨W3.heap.size, 1, none⟩ = some (.int .i64 M.n) := row_at r_g08.out 1
  have c_g08_2 : W8.cell? ⟨W3.heap.size, 2, none⟩ = some (.string M.r) := row_at r_g08.out 2
  clear r_w07 c_w07_0 c_w07_1 c_w07_2 r_g07 c_g07_0 c_g07_1 c_g07_2 o_gv7
  have a_w08_0 : ∀ o, (W8.alloc o).cell? ⟨W1.heap.size, 0, none⟩ = some (.slice none 0 0) := fun o => keepR c_w08_0 ((Below.refl _ _).alloc (Nat.le_refl _) o)
  have a_w08_1 : ∀ o, (W8.alloc o).cell? ⟨W1.heap.size, 1, none⟩ = some (.int .i64 M.n) := fun o => keepR c_w08_1 ((Below.refl _ _).alloc (Nat.le_refl _) o)
  have a_w08_2 : ∀ o, (W8.alloc o).cell? ⟨W1.heap.size, 2, none⟩ = some (.string M.r) := fun o => keepR c_w08_2 ((Below.refl _ _).alloc (Nat.le_refl _) o)
  have a_g08_0 : ∀ o, (W8.alloc o).cell? ⟨W3.heap.size, 0, none⟩ = some (.slice ao_gv L_gv cap_gv) := fun o => keepR c_g08_0 ((Below.refl _ _).alloc (Nat.le_refl _) o)
  have a_g08_1 : ∀ o, (W8.alloc o).cell? ⟨W3.heap.size, 1, none⟩ = some (.int .i64 M.n) := fun o => keepR c_g08_1 ((Below.refl _ _).alloc (Nat.le_refl _) o)
  have a_g08_2 : ∀ o, (W8.alloc o).cell? ⟨W3.heap.size, 2, none⟩ = some (.string M.r) := fun o => keepR c_g08_2 ((Below.refl _ _).alloc (Nat.le_refl _) o)
  obtain ⟨W9, HW9, b9, y9, hS9, r_h09⟩ : ∃ X, Hid ((W8.alloc (.cells #[.slice ao_hv L_hv cap_hv, .int .i64 M.n, .string M.r] 28)) = X) ∧ Below W8.heap.size W8 X ∧ W8.heap.size + 1 ≤ X.heap.size ∧ Hid (X.heap.size = W8.heap.size + 1) ∧ Hid (X.heap[W8.heap.size]? = some (.cells #[.slice ao_hv L_hv cap_hv, .int .i64 M.n, .string M.r] 28 (0, 0))) := ⟨_, rfl, ((Below.refl _ _).alloc (Nat.le_refl _) _), by simp, by show _ = _; simp, (by show _ = _; exact alloc_nth1_0 W8 _)⟩
  have z9 : W8.heap.size ≤ W9.heap.size := b9.size
  have B9 : Hid (Below w.heap.size w W9) := B8.out.trans (b9.mono B8.out.size)
  have r_w09 : Hid (W9.heap[W1.heap.size]? = some (.cells #[.slice none 0 0, .int .i64 M.n, .string M.r] 28 (0, 0))) := rowKeep r_w08.out b9
  have r_g09 : Hid (W9.heap[W3.heap.size]? = some (.cells #[.slice ao_gv L_gv cap_gv, .int .i64 M.n, .string M.r] 28 (0, 0))) := rowKeep r_g08.out b9
  have o_gv9 : Hid (Own W9 (W2.heap.size) (W3.heap.size) 9 (.slice ao_gv L_gv cap_gv) (ss (Strs.mts 1 ([] : List ByteArray).length))) := Own.later o_gv8.out b9 (by omega)
  have o_hv9 : Hid (Own W9 (W7.heap.size) (W8.heap.size) 9 (.slice ao_hv L_hv cap_hv) (ss [])) := Own.later o_hv8.out b9 (by omega)
  have c_w09_0 : W9.cell? ⟨W1.heap.size, 0, none⟩ = some (.slice none 0 0) := row_at r_w09.out 0
  have c_w09_1 : W9.cell? ⟨W1.heap.size, 1, none⟩ = some (.int .i64 M.n) := row_at r_w09.out 1
  have c_w09_2 : W9.cell? ⟨W1.heap.size, 2, none⟩ = some (.string M.r) := row_at r_w09.out 2
  have c_g09_0 : W9.cell? ⟨W3.heap.size, 0, none⟩ = some (.slice ao_gv L_gv cap_gv) := row_at r_g09.out 0
  have c_g09_1 : W9.cell? ⟨W3.heap.size, 1, none⟩ = some (.int .i64 M.n) := row_at r_g09.out 1
  have c_g09_2 : W9.cell? ⟨W3.heap.size, 2, none⟩ = some (.string M.r) := row_at r_g09.out 2
  have c_h09_0 : W9.cell? ⟨W8.heap.size, 0, none⟩ = some (.slice ao_hv L_hv cap_hv) := row_at r_h09.out 0
  have c_h09_1 : W9.cell? ⟨W8.heap.size, 1, none⟩ = some (.int .i64 M.n) := row_at r_h09.out 1
  have c_h09_2 : W9.cell? ⟨W8.heap.size, 2, none⟩ = some (.string M.r) := row_at r_h09.out 2
  clear r_w08 c_w08_0 c_w08_1 c_w08_2 r_g08 c_g08_0 c_g08_1 c_g08_2 o_gv8 o_hv8
  go_wp2_with fail
  rw [HW9.out]
  clear a_w08_0 a_w08_1 a_w08_2 a_g08_0 a_g08_1 a_g08_2
  refine (eq_log W9 M _ _ [] o_hv9.out.sl (slNil _) (by simp)).mono ?_
  rintro e W10 ⟨rfl, b10⟩
  have z10 : W9.heap.size ≤ W10.heap.size := b10.size
  have B10 : Hid (Below w.heap.size w W10) := B9.out.trans (b10.mono B9.out.size)
  have r_w010 : Hid (W10.heap[W1.heap.size]? = some (.cells #[.slice none 0 0, .int .i64 M.n, .string M.r] 28 (0, 0))) := rowKeep r_w09.out b10
  have r_g010 : Hid (W10.heap[W3.heap.size]? = some (.cells #[.slice ao_gv L_gv cap_gv, .int .i64 M.n, .string M.r] 28 (0, 0))) := rowKeep r_g09.out b10
  have r_h010 : Hid (W10.heap[W8.heap.size]? = some (.cells #[.slice ao_hv L_hv cap_hv, .int .i64 M.n, .string M.r] 28 (0, 0))) := rowKeep r_h09.out b10
  have o_gv10 : Hid (Own W10 (W2.heap.size) (W3.heap.size) 9 (.slice ao_gv L_gv cap_gv) (ss (Strs.mts 1 ([] : List ByteArray).length))) := Own.later o_gv9.out b10 (by omega)
  have o_hv10 : Hid (Own W10 (W7.heap.size) (W8.heap.size) 9 (.slice ao_hv L_hv cap_hv) (ss [])) := Own.later o_hv9.out b10 (by omega)
  have c_w010_0 : W10.cell? ⟨W1.heap.size, 0, none⟩ = some (.slice none 0 0) := row_at r_w010.out 0
  have c_w010_1 : W10.cell? ⟨W1.heap.size, 1, none⟩ = some (.int .i64 M.n) := row_at r_w010.out 1
  have c_w010_2 : W10.cell? ⟨W1.heap.size, 2, none⟩ = some (.string M.r) := row_at r_w010.out 2
  have c_g010_0 : W10.cell? ⟨W3.heap.size, 0, none⟩ = some (.slice ao_gv L_gv cap_gv) := row_at r_g010.out 0
  have c_g010_1 : W10.cell? ⟨W3.heap.size, 1, none⟩ = some (.int .i64 M.n) := row_at r_g010.out 1
  have c_g010_2 : W10.cell? ⟨W3.heap.size, 2, none⟩ = some (.string M.r) := row_at r_g010.out 2
  have c_h010_0 : W10.cell? ⟨W8.heap.size, 0, none⟩ = some (.slice ao_hv L_hv cap_hv) := row_at r_h010.out 0
  have c_h010_1 : W10.cell? ⟨W8.heap.size, 1, none⟩ = some (.int .i64 M.n) := row_at r_h010.out 1
  have c_h010_2 : W10.cell? ⟨W8.heap.size, 2, none⟩ = some (.string M.r) := row_at r_h010.out 2
  clear r_w09 c_w09_0 c_w09_1 c_w09_2 r_g09 c_g09_0 c_g09_1 c_g09_2 r_h09 c_h09_0 c_h09_1 c_h09_2 o_gv9 o_hv9
  go_wp2_with fail
  refine (held_log W10 M _ ([] : List ByteArray).length 1 o_gv10.out.sl (by simp) (by omega) (by omega)).mono ?_
  rintro e W11 ⟨rfl, b11⟩
  have z11 : W10.heap.size ≤ W11.heap.size := b11.size
  have B11 : Hid (Below w.heap.size w W11) := B10.out.trans (b11.mono B10.out.size)
  have r_w011 : Hid (W11.heap[W1.heap.size]? = some (.cells #[.slice none 0 0, .int .i64 M.n, .string M.r] 28 (0, 0))) := rowKeep r_w010.out b11
  have r_g011 : Hid (W11.heap[W3.heap.size]? = some (.cells #[.slice ao_gv L_gv cap_gv, .int .i64 M.n, .string M.r] 28 (0, 0))) := rowKeep r_g010.out b11
  have r_h011 : Hid (W11.heap[W8.heap.size]? = some (.cells #[.slice ao_hv L_hv cap_hv, .int .i64 M.n, .string M.r] 28 (0, 0))) := rowKeep r_h010.out b11
  have o_gv11 : Hid (Own W11 (W2.heap.size) (W3.heap.size) 9 (.slice ao_gv L_gv cap_gv) (ss (Strs.mts 1 ([] : List ByteArray).length))) := Own.later o_gv10.out b11 (by omega)
  have o_hv11 : Hid (Own W11 (W7.heap.size) (W8.heap.size) 9 (.slice ao_hv L_hv cap_hv) (ss [])) := Own.later o_hv10.out b11 (by omega)
  have c_w011_0 : W11.cell? ⟨W1.heap.size, 0, none⟩ = some (.slice none 0 0) := row_at r_w011.out 0
  have c_w011_1 : W11.cell? ⟨W1.heap.size, 1, none⟩ = some (.int .i64 M.n) := row_at r_w011.out 1
  have c_w011_2 : W11.cell? ⟨W1.heap.size, 2, none⟩ = some (.string M.r) := row_at r_w011.out 2
  have c_g011_0 : W11.cell? ⟨W3.heap.size, 0, none⟩ = some (.slice ao_gv L_gv cap_gv) := row_at r_g011.out 0
  have c_g011_1 : W11.cell? ⟨W3.heap.size, 1, none⟩ = some (.int .i64 M.n) := row_at r_g011.out 1
  have c_g011_2 : W11.cell? ⟨W3.heap.size, 2, none⟩ = some (.string M.r) := row_at r_g011.out 2
  have c_h011_0 : W11.cell? ⟨W8.heap.size, 0, none⟩ = some (.slice ao_hv L_hv cap_hv) := row_at r_h011.out 0
  have c_h011_1 : W11.cell? ⟨W8.heap.size, 1, none⟩ = some (.int .i64 M.n) := row_at r_h011.out 1
  have c_h011_2 : W11.cell? ⟨W8.heap.size, 2, none⟩ = some (.string M.r) := row_at r_h011.out 2
  clear r_w010 c_w010_0 c_w010_1 c_w010_2 r_g010 c_g010_0 c_g010_1 c_g010_2 r_h010 c_h010_0 c_h010_1 c_h010_2 o_gv10 o_hv10
  go_wp2
  go_ret
  exact ⟨rfl, B11.out⟩

set_option maxRecDepth 1000000 in
set_option maxHeartbeats 16000000 in
theorem exact_logok (w : World) (v : Value) (l : List ByteArray) (h : Hd) (hs : Sl w v (ss l)) (hz : ∀ s ∈ l, s.size ≤ maxLen) (hm : l.length ≤ maxLen) (hh : h.r.size ≤ maxLen)
    (iF : ∀ W v', Below w.heap.size w W → Sl W v' (ss l) → l.length ≤ 1048576 → (∀ s ∈ l, s.size ≤ 1048576) → h.r.size ≤ 1048576 → Calls Tryd.prog 14 #[.agg #[v', .int .i64 h.n, .string h.r]] W fun e w' => e = .returned (.bool (logOk l h)) ∧ Below W.heap.size W w') :
    Calls Tryd.prog 6 #[.agg #[v, .int .i64 h.n, .string h.r]] w fun e w' => e = .returned (.bool true) ∧ Below w.heap.size w w' := by
  have HS : Hid (Sl w v (ss l)) := hs
  unfold maxLen at *
  obtain ⟨ao0, cap0, rfl, hc0⟩ := hs.form
  simp only [ss_len] at *
  clear hs
  have B0 : Hid (Below w.heap.size w w) := Below.refl _ _
  obtain ⟨W1, HW1, b1, y1, hS1, r_a1⟩ : ∃ X, Hid ((w.alloc (.cells #[.slice ao0 l.length cap0, .int .i64 h.n, .string h.r] 50)) = X) ∧ Below w.heap.size w X ∧ w.heap.size + 1 ≤ X.heap.size ∧ Hid (X.heap.size = w.heap.size + 1) ∧ Hid (X.heap[w.heap.size]? = some (.cells #[.slice ao0 l.length cap0, .int .i64 h.n, .string h.r] 50 (0, 0))) := ⟨_, rfl, ((Below.refl _ _).alloc (Nat.le_refl _) _), by simp, by show _ = _; simp, (by show _ = _; exact alloc_nth1_0 w _)⟩
  have z1 : w.heap.size ≤ W1.heap.size := b1.size
  have B1 : Hid (Below w.heap.size w W1) := B0.out.trans (b1.mono B0.out.size)
  have c_a1_0 : W1.cell? ⟨w.heap.size, 0, none⟩ = some (.slice ao0 l.length cap0) := row_at r_a1.out 0
  have c_a1_1 : W1.cell? ⟨w.heap.size, 1, none⟩ = some (.int .i64 h.n) := row_at r_a1.out 1
  have c_a1_2 : W1.cell? ⟨w.heap.size, 2, none⟩ = some (.string h.r) := row_at r_a1.out 2
  go_enter Tryd.func6, Tryd.ntmps6
  go_wp2_with fail
  rw [HW1.out]
  refine (sz_log W1 _ l h 1048576 (HS.out.later B1.out) (fun s h => by have := hz s h; omega) (by omega) (by omega) (Nat.le_refl _)).mono ?_
  rintro e W2 ⟨⟨r0, rfl, hr0⟩, b2⟩
  have z2 : W1.heap.size ≤ W2.heap.size := b2.size
  have B2 : Hid (Below w.heap.size w W2) := B1.out.trans (b2.mono B1.out.size)
  have r_a2 : Hid (W2.heap[w.heap.size]? = some (.cells #[.slice ao0 l.length cap0, .int .i64 h.n, .string h.r] 50 (0, 0))) := rowKeep r_a1.out b2
  have c_a2_0 : W2.cell? ⟨w.heap.size, 0, none⟩ = some (.slice ao0 l.length cap0) := row_at r_a2.out 0
  have c_a2_1 : W2.cell? ⟨w.heap.size, 1, none⟩ = some (.int .i64 h.n) := row_at r_a2.out 1
  have c_a2_2 : W2.cell? ⟨w.heap.size, 2, none⟩ = some (.string h.r) := row_at r_a2.out 2
  clear r_a1 c_a1_0 c_a1_1 c_a1_2
  by_cases hr : r0 < 0
  · go_wp2
    go_ret
    exact ⟨rfl, B2.out⟩
  have hr1 : l.length + Puts.tot l ≤ 1048576 ∧ h.r.size ≤ 1048576 ∧ 0 ≤ r0 ∧ r0 ≤ 1048576 := by rcases hr0 with h0 | h0; exact absurd h0 hr; exact h0
  obtain ⟨hr1, hzh, hr2, hr3⟩ := hr1
  have hl : l.length ≤ 1048576 := by omega
  have hzz : ∀ s ∈ l, s.size ≤ 1048576 := fun s h => Nat.le_trans (mem_tot h) (by omega)
  clear hr0 hz
  obtain ⟨M, hM⟩ : ∃ M, logOk l h = M := ⟨_, rfl⟩
  have q1 : ∀ W v1, Sl W v1 (ss l) → _ := fun W v1 h1 => logok_spec W v1 l h h1 (by omega) (fun s hs => Nat.le_trans (hzz s hs) (by omega))
  have q2 : ∀ W v1, Below w.heap.size w W → Sl W v1 (ss l) → _ := fun W v1 hB h1 => iF W v1 hB h1 hl hzz hzh
  simp only [hM] at q1 q2
  clear hM iF
  have nM : (M != M) = false := by simp
  go_wp2_with fail
  refine (to_log W2 _ l h (HS.out.later B2.out) (by omega)).mono ?_
  rintro e W3 ⟨v_t, rfl, o_t3, b3⟩
  obtain ⟨ao_t, L_t, cap_t, rfl, hL_t, hM_t⟩ := o_t3.form
  have o_t3 : Hid (Own W3 W2.heap.size W3.heap.size 9 (.slice ao_t L_t cap_t) (ss l)) := o_t3
  clear hL_t hM_t
  have z3 : W2.heap.size ≤ W3.heap.size := b3.size
  have B3 : Hid (Below w.heap.size w W3) := B2.out.trans (b3.mono B2.out.size)
  have r_a3 : Hid (W3.heap[w.heap.size]? = some (.cells #[.slice ao0 l.length cap0, .int .i64 h.n, .string h.r] 50 (0, 0))) := rowKeep r_a2.out b3
  have c_a3_0 : W3.cell? ⟨w.heap.size, 0, none⟩ = some (.slice ao0 l.length cap0) := row_at r_a3.out 0
  have c_a3_1 : W3.cell? ⟨w.heap.size, 1, none⟩ = some (.int .i64 h.n) := row_at r_a3.out 1
  have c_a3_2 : W3.cell? ⟨w.heap.size, 2, none⟩ = some (.string h.r) := row_at r_a3.out 2
  clear r_a2 c_a2_0 c_a2_1 c_a2_2
  go_wp2_with fail
  refine (q1 W3 _ o_t3.out.sl).mono ?_
  rintro e W4 ⟨rfl, b4⟩
  have z4 : W3.heap.size ≤ W4.heap.size := b4.size
  have B4 : Hid (Below w.heap.size w W4) := B3.out.trans (b4.mono B3.out.size)
  have r_a4 : Hid (W4.heap[w.heap.size]? = some (.cells #[.slice ao0 l.length cap0, .int .i64 h.n, .string h.r] 50 (0, 0))) := rowKeep r_a3.out b4
  have o_t4 : Hid (Own W4 (W2.heap.size) (W3.heap.size) 9 (.slice ao_t L_t cap_t) (ss l)) := Own.later o_t3.out b4 (by omega)
  have c_a4_0 : W4.cell? ⟨w.heap.size, 0, none⟩ = some (.slice ao0 l.length cap0) := row_at r_a4.out 0
  have c_a4_1 : W4.cell? ⟨w.heap.size, 1, none⟩ = some (.int .i64 h.n) := row_at r_a4.out 1
  have c_a4_2 : W4.cell? ⟨w.heap.size, 2, none⟩ = some (.string h.r) := row_at r_a4.out 2
  clear r_a3 c_a3_0 c_a3_1 c_a3_2 o_t3
  clear o_t4
  go_wp2_with fail
  refine (to_log W4 _ l h (HS.out.later B4.out) (by omega)).mono ?_
  rintro e W5 ⟨v_x, rfl, o_x5, b5⟩
  obtain ⟨ao_x, L_x, cap_x, rfl, hL_x, hM_x⟩ := o_x5.form
  have o_x5 : Hid (Own W5 W4.heap.size W5.heap.size 9 (.slice ao_x L_x cap_x) (ss l)) := o_x5
  clear hL_x hM_x
  have z5 : W4.heap.size ≤ W5.heap.size := b5.size
  have B5 : Hid (Below w.heap.size w W5) := B4.out.trans (b5.mono B4.out.size)
  have r_a5 : Hid (W5.heap[w.heap.size]? = some (.cells #[.slice ao0 l.length cap0, .int .i64 h.n, .string h.r] 50 (0, 0))) := rowKeep r_a4.out b5
  have c_a5_0 : W5.cell? ⟨w.heap.size, 0, none⟩ = some (.slice ao0 l.length cap0) := row_at r_a5.out 0
  have c_a5_1 : W5.cell? ⟨w.heap.size, 1, none⟩ = some (.int .i64 h.n) := row_at r_a5.out 1
  have c_a5_2 : W5.cell? ⟨w.heap.size, 2, none⟩ = some (.string h.r) := row_at r_a5.out 2
  clear r_a4 c_a4_0 c_a4_1 c_a4_2
  have a_a5_0 : ∀ o, (W5.alloc o).cell? ⟨w.heap.size, 0, none⟩ = some (.slice ao0 l.length cap0) := fun o => keepR c_a5_0 ((Below.refl _ _).alloc (Nat.le_refl _) o)
  have a_a5_1 : ∀ o, (W5.alloc o).cell? ⟨w.heap.size, 1, none⟩ = some (.int .i64 h.n) := fun o => keepR c_a5_1 ((Below.refl _ _).alloc (Nat.le_refl _) o)
  have a_a5_2 : ∀ o, (W5.alloc o).cell? ⟨w.heap.size, 2, none⟩ = some (.string h.r) := fun o => keepR c_a5_2 ((Below.refl _ _).alloc (Nat.le_refl _) o)
  obtain ⟨W6, HW6, b6, y6, hS6, r_x06⟩ : ∃ X, Hid ((W5.alloc (.cells #[.slice ao_x L_x cap_x, .int .i64 h.n, .string h.r] 28)) = X) ∧ Below W5.heap.size W5 X ∧ W5.heap.size + 1 ≤ X.heap.size ∧ Hid (X.heap.size = W5.heap.size + 1) ∧ Hid (X.heap[W5.heap.size]? = some (.cells #[.slice ao_x L_x cap_x, .int .i64 h.n, .string h.r] 28 (0, 0))) := ⟨_, rfl, ((Below.refl _ _).alloc (Nat.le_refl _) _), by simp, by show _ = _; simp, (by show _ = _; exact alloc_nth1_0 W5 _)⟩
  have z6 : W5.heap.size ≤ W6.heap.size := b6.size
  have B6 : Hid (Below w.heap.size w W6) := B5.out.trans (b6.mono B5.out.size)
  have r_a6 : Hid (W6.heap[w.heap.size]? = some (.cells #[.slice ao0 l.length cap0, .int .i64 h.n, .string h.r] 50 (0, 0))) := rowKeep r_a5.out b6
  have o_x6 : Hid (Own W6 (W4.heap.size) (W5.heap.size) 9 (.slice ao_x L_x cap_x) (ss l)) := Own.later o_x5.out b6 (by omega)
  have c_a6_0 : W6.cell? ⟨w.heap.size, 0, none⟩ = some (.slice ao0 l.length cap0) := row_at r_a6.out 0
  have c_a6_1 : W6.cell? ⟨w.heap.size, 1, none⟩ = some (.int .i64 h.n) := row_at r_a6.out 1
  have c_a6_2 : W6.cell? ⟨w.heap.size, 2, none⟩ = some (.string h.r) := row_at r_a6.out 2
  have c_x06_0 : W6.cell? ⟨W5.heap.size, 0, none⟩ = some (.slice ao_x L_x cap_x) := row_at r_x06.out 0
  have c_x06_1 : W6.cell? ⟨W5.heap.size, 1, none⟩ = some (.int .i64 h.n) := row_at r_x06.out 1
  have c_x06_2 : W6.cell? ⟨W5.heap.size, 2, none⟩ = some (.string h.r) := row_at r_x06.out 2
  clear r_a5 c_a5_0 c_a5_1 c_a5_2 o_x5
  go_wp2_with fail
  rw [HW6.out]
  clear a_a5_0 a_a5_1 a_a5_2
  refine (q2 W6 _ B6.out o_x6.out.sl).mono ?_
  rintro e W7 ⟨rfl, b7⟩
  have z7 : W6.heap.size ≤ W7.heap.size := b7.size
  have B7 : Hid (Below w.heap.size w W7) := B6.out.trans (b7.mono B6.out.size)
  have r_a7 : Hid (W7.heap[w.heap.size]? = some (.cells #[.slice ao0 l.length cap0, .int .i64 h.n, .string h.r] 50 (0, 0))) := rowKeep r_a6.out b7
  have r_x07 : Hid (W7.heap[W5.heap.size]? = some (.cells #[.slice ao_x L_x cap_x, .int .i64 h.n, .string h.r] 28 (0, 0))) := rowKeep r_x06.out b7
  have o_x7 : Hid (Own W7 (W4.heap.size) (W5.heap.size) 9 (.slice ao_x L_x cap_x) (ss l)) := Own.later o_x6.out b7 (by omega)
  have c_a7_0 : W7.cell? ⟨w.heap.size, 0, none⟩ = some (.slice ao0 l.length cap0) := row_at r_a7.out 0
  have c_a7_1 : W7.cell? ⟨w.heap.size, 1, none⟩ = some (.int .i64 h.n) := row_at r_a7.out 1
  have c_a7_2 : W7.cell? ⟨w.heap.size, 2, none⟩ = some (.string h.r) := row_at r_a7.out 2
  have c_x07_0 : W7.cell? ⟨W5.heap.size, 0, none⟩ = some (.slice ao_x L_x cap_x) := row_at r_x07.out 0
  have c_x07_1 : W7.cell? ⟨W5.heap.size, 1, none⟩ = some (.int .i64 h.n) := row_at r_x07.out 1
  have c_x07_2 : W7.cell? ⟨W5.heap.size, 2, none⟩ = some (.string h.r) := row_at r_x07.out 2
  clear r_a6 c_a6_0 c_a6_1 c_a6_2 r_x06 c_x06_0 c_x06_1 c_x06_2 o_x6
  go_wp2_with fail
  refine wp_region_held_drew (S := fun w' => w'.cell? ⟨W5.heap.size, 0, none⟩ = some (.slice ao_x L_x cap_x) ∧ w'.cell? ⟨W5.heap.size, 1, none⟩ = some (.int .i64 h.n) ∧ w'.cell? ⟨W5.heap.size, 2, none⟩ = some (.string h.r) ∧ w'.cell? ⟨w.heap.size, 0, none⟩ = some (.slice ao0 l.length cap0) ∧ w'.cell? ⟨w.heap.size, 1, none⟩ = some (.int .i64 h.n) ∧ w'.cell? ⟨w.heap.size, 2, none⟩ = some (.string h.r)) (by kernel_rfl) ⟨c_x07_0, c_x07_1, c_x07_2, c_a7_0, c_a7_1, c_a7_2⟩ (fun hHeld => ?_)
  (refine wpAnyH_take (i := 0) (v := ?v0x1) rfl (by kernel_rfl) (by kernel_rfl) (by kernel_rfl) (fun _ _ _ h => h) (Or.inl ⟨by rfl, ?hy0x1⟩) (by assumption) ?rest0x1; case hy0x1 => (intro w hSw; (try dsimp only at hSw); go_split_ands; go_simp; (try with_reducible rfl)))
  try simp only [Act.put, List.setIfInBounds_toArray, List.set_cons_zero, List.set_cons_succ, List.getElem_toArray, List.getElem_cons_zero, List.getElem_cons_succ]
  (refine wpAnyH_take (i := 1) (v := ?v1x2) rfl (by kernel_rfl) (by kernel_rfl) (by kernel_rfl) (fun _ _ _ h => h) (Or.inl ⟨by rfl, ?hy1x2⟩) (by assumption) ?rest1x2; case hy1x2 => (intro w hSw; (try dsimp only at hSw); go_split_ands; go_simp; (try with_reducible rfl)))
  try simp only [Act.put, List.setIfInBounds_toArray, List.set_cons_zero, List.set_cons_succ, List.getElem_toArray, List.getElem_cons_zero, List.getElem_cons_succ]
  refine wpAnyH_ready (rs := [2]) (by kernel_rfl) (by simp) ?_
  refine AllReadyH.cons rfl (fun K hK => ?_) AllReadyH.nil
  go_simp
  refine (to_log W7.drew _ l h (HS.out.later (Below.drew B7.out)) (by omega)).mono ?_
  rintro e W8 ⟨v_u, rfl, o_u8, b8⟩
  have b8 : Below W7.heap.size W7 W8 := (Below.drew (Below.refl _ _)).trans b8
  refine hK.out _ _ ⟨keepR (W := W7) hHeld.1 b8, keepR (W := W7) hHeld.2.1 b8, keepR (W := W7) hHeld.2.2.1 b8, keepR (W := W7) hHeld.2.2.2.1 b8, keepR (W := W7) hHeld.2.2.2.2.1 b8, keepR (W := W7) hHeld.2.2.2.2.2 b8⟩ (fun hHeld => ?_)
  clear hK K
  try simp only [Act.put, List.setIfInBounds_toArray, List.set_cons_zero, List.set_cons_succ, List.getElem_toArray, List.getElem_cons_zero, List.getElem_cons_succ]
  have o_u8 : Own W8 W7.heap.size W8.heap.size 9 _ _ := o_u8
  obtain ⟨ao_u, L_u, cap_u, rfl, hL_u, hM_u⟩ := o_u8.form
  have o_u8 : Hid (Own W8 W7.heap.size W8.heap.size 9 (.slice ao_u L_u cap_u) (ss l)) := o_u8
  clear hL_u hM_u
  have z8 : W7.heap.size ≤ W8.heap.size := b8.size
  have B8 : Hid (Below w.heap.size w W8) := B7.out.trans (b8.mono B7.out.size)
  have r_a8 : Hid (W8.heap[w.heap.size]? = some (.cells #[.slice ao0 l.length cap0, .int .i64 h.n, .string h.r] 50 (0, 0))) := rowKeep r_a7.out b8
  have r_x08 : Hid (W8.heap[W5.heap.size]? = some (.cells #[.slice ao_x L_x cap_x, .int .i64 h.n, .string h.r] 28 (0, 0))) := rowKeep r_x07.out b8
  have o_x8 : Hid (Own W8 (W4.heap.size) (W5.heap.size) 9 (.slice ao_x L_x cap_x) (ss l)) := Own.later o_x7.out b8 (by omega)
  have c_a8_0 : W8.cell? ⟨w.heap.size, 0, none⟩ = some (.slice ao0 l.length cap0) := row_at r_a8.out 0
  have c_a8_1 : W8.cell? ⟨w.heap.size, 1, none⟩ = some (.int .i64 h.n) := row_at r_a8.out 1
  have c_a8_2 : W8.cell? ⟨w.heap.size, 2, none⟩ = some (.string h.r) := row_at r_a8.out 2
  have c_x08_0 : W8.cell? ⟨W5.heap.size, 0, none⟩ = some (.slice ao_x L_x cap_x) := row_at r_x08.out 0
  have c_x08_1 : W8.cell? ⟨W5.heap.size, 1, none⟩ = some (.int .i64 h.n) := row_at r_x08.out 1
  have c_x08_2 : W8.cell? ⟨W5.heap.size, 2, none⟩ = some (.string h.r) := row_at r_x08.out 2
  clear r_a7 c_a7_0 c_a7_1 c_a7_2 r_x07 c_x07_0 c_x07_1 c_x07_2 o_x7
  refine wpAnyH_ready (rs := [3]) (by kernel_rfl) (by simp) ?_
  refine AllReadyH.cons rfl (fun K hK => ?_) AllReadyH.nil
  go_simp
  refine (eq_log W8 h _ _ l o_x8.out.sl o_u8.out.sl (by omega)).mono ?_
  rintro e W9 ⟨rfl, b9⟩
  refine hK.out _ _ ⟨keepR (W := W8) hHeld.1 b9, keepR (W := W8) hHeld.2.1 b9, keepR (W := W8) hHeld.2.2.1 b9, keepR (W := W8) hHeld.2.2.2.1 b9, keepR (W := W8) hHeld.2.2.2.2.1 b9, keepR (W := W8) hHeld.2.2.2.2.2 b9⟩ (fun hHeld => ?_)
  clear hK K
  try simp only [Act.put, List.setIfInBounds_toArray, List.set_cons_zero, List.set_cons_succ, List.getElem_toArray, List.getElem_cons_zero, List.getElem_cons_succ]
  have z9 : W8.heap.size ≤ W9.heap.size := b9.size
  have B9 : Hid (Below w.heap.size w W9) := B8.out.trans (b9.mono B8.out.size)
  have r_a9 : Hid (W9.heap[w.heap.size]? = some (.cells #[.slice ao0 l.length cap0, .int .i64 h.n, .string h.r] 50 (0, 0))) := rowKeep r_a8.out b9
  have r_x09 : Hid (W9.heap[W5.heap.size]? = some (.cells #[.slice ao_x L_x cap_x, .int .i64 h.n, .string h.r] 28 (0, 0))) := rowKeep r_x08.out b9
  have o_x9 : Hid (Own W9 (W4.heap.size) (W5.heap.size) 9 (.slice ao_x L_x cap_x) (ss l)) := Own.later o_x8.out b9 (by omega)
  have o_u9 : Hid (Own W9 (W7.heap.size) (W8.heap.size) 9 (.slice ao_u L_u cap_u) (ss l)) := Own.later o_u8.out b9 (by omega)
  have c_a9_0 : W9.cell? ⟨w.heap.size, 0, none⟩ = some (.slice ao0 l.length cap0) := row_at r_a9.out 0
  have c_a9_1 : W9.cell? ⟨w.heap.size, 1, none⟩ = some (.int .i64 h.n) := row_at r_a9.out 1
  have c_a9_2 : W9.cell? ⟨w.heap.size, 2, none⟩ = some (.string h.r) := row_at r_a9.out 2
  have c_x09_0 : W9.cell? ⟨W5.heap.size, 0, none⟩ = some (.slice ao_x L_x cap_x) := row_at r_x09.out 0
  have c_x09_1 : W9.cell? ⟨W5.heap.size, 1, none⟩ = some (.int .i64 h.n) := row_at r_x09.out 1
  have c_x09_2 : W9.cell? ⟨W5.heap.size, 2, none⟩ = some (.string h.r) := row_at r_x09.out 2
  clear r_a8 c_a8_0 c_a8_1 c_a8_2 r_x08 c_x08_0 c_x08_1 c_x08_2 o_x8 o_u8
  (refine wpAnyH_take (i := 4) (v := ?v4x3) rfl (by kernel_rfl) (by kernel_rfl) (by kernel_rfl) (fun _ _ _ h => h) (Or.inl ⟨by rfl, ?hy4x3⟩) (by assumption) ?rest4x3; case hy4x3 => (intro w hSw; (try dsimp only at hSw); go_split_ands; go_simp; (try with_reducible rfl)))
  try simp only [Act.put, List.setIfInBounds_toArray, List.set_cons_zero, List.set_cons_succ, List.getElem_toArray, List.getElem_cons_zero, List.getElem_cons_succ]
  refine wpAnyH_done (by kernel_rfl) ?_ _
  clear hHeld
  clear o_u9
  go_wp2
  go_ret
  exact ⟨rfl, B9.out⟩

theorem proveIn_len (l : List ByteArray) (h : Hd) (i : Int) : (proveIn l h i).1.length ≤ 1000 := by
  unfold proveIn
  split
  · rename_i hk
    have h1 := inPath_len l i
    unfold inPath at h1
    rw [if_pos ⟨(logOk_yes hk.1).1, hk.2⟩] at h1
    exact h1
  · simp
theorem proveGrown_len (l : List ByteArray) (h : Hd) (i : Int) : (proveGrown l h i).1.length ≤ 1000 := by
  unfold proveGrown
  split
  · rename_i hk
    have h1 := growPath_len l i
    unfold growPath at h1
    rw [if_pos ⟨(logOk_yes hk.1).1, hk.2⟩] at h1
    exact h1
  · simp

set_option maxRecDepth 1000000 in
set_option maxHeartbeats 16000000 in
theorem exact_provein (w : World) (v : Value) (l : List ByteArray) (h : Hd) (hs : Sl w v (ss l)) (hz : ∀ s ∈ l, s.size ≤ maxLen) (hm : l.length ≤ maxLen) (hh : h.r.size ≤ maxLen) (i : Int)
    (iF : ∀ W v', Below w.heap.size w W → Sl W v' (ss l) → l.length ≤ 1048576 → (∀ s ∈ l, s.size ≤ 1048576) → h.r.size ≤ 1048576 → Calls Tryd.prog 18 #[.agg #[v', .int .i64 h.n, .string h.r], .int .i64 i] W fun e w' => ∃ v'', e = .returned (.tuple #[v'', .bool (proveIn l h i).2]) ∧ Own w' W.heap.size w'.heap.size 9 v'' (ss (proveIn l h i).1) ∧ Below W.heap.size W w') :
    Calls Tryd.prog 8 #[.agg #[v, .int .i64 h.n, .string h.r], .int .i64 i] w fun e w' => e = .returned (.bool true) ∧ Below w.heap.size w w' := by
  have HS : Hid (Sl w v (ss l)) := hs
  unfold maxLen at *
  obtain ⟨ao0, cap0, rfl, hc0⟩ := hs.form
  simp only [ss_len] at *
  clear hs
  have B0 : Hid (Below w.heap.size w w) := Below.refl _ _
  obtain ⟨W1, HW1, b1, y1, hS1, r_a1⟩ : ∃ X, Hid ((w.alloc (.cells #[.slice ao0 l.length cap0, .int .i64 h.n, .string h.r] 50)) = X) ∧ Below w.heap.size w X ∧ w.heap.size + 1 ≤ X.heap.size ∧ Hid (X.heap.size = w.heap.size + 1) ∧ Hid (X.heap[w.heap.size]? = some (.cells #[.slice ao0 l.length cap0, .int .i64 h.n, .string h.r] 50 (0, 0))) := ⟨_, rfl, ((Below.refl _ _).alloc (Nat.le_refl _) _), by simp, by show _ = _; simp, (by show _ = _; exact alloc_nth1_0 w _)⟩
  have z1 : w.heap.size ≤ W1.heap.size := b1.size
  have B1 : Hid (Below w.heap.size w W1) := B0.out.trans (b1.mono B0.out.size)
  have c_a1_0 : W1.cell? ⟨w.heap.size, 0, none⟩ = some (.slice ao0 l.length cap0) := row_at r_a1.out 0
  have c_a1_1 : W1.cell? ⟨w.heap.size, 1, none⟩ = some (.int .i64 h.n) := row_at r_a1.out 1
  have c_a1_2 : W1.cell? ⟨w.heap.size, 2, none⟩ = some (.string h.r) := row_at r_a1.out 2
  go_enter Tryd.func8, Tryd.ntmps8
  go_wp2_with fail
  rw [HW1.out]
  refine (sz_log W1 _ l h 1048576 (HS.out.later B1.out) (fun s h => by have := hz s h; omega) (by omega) (by omega) (Nat.le_refl _)).mono ?_
  rintro e W2 ⟨⟨r0, rfl, hr0⟩, b2⟩
  have z2 : W1.heap.size ≤ W2.heap.size := b2.size
  have B2 : Hid (Below w.heap.size w W2) := B1.out.trans (b2.mono B1.out.size)
  have r_a2 : Hid (W2.heap[w.heap.size]? = some (.cells #[.slice ao0 l.length cap0, .int .i64 h.n, .string h.r] 50 (0, 0))) := rowKeep r_a1.out b2
  have c_a2_0 : W2.cell? ⟨w.heap.size, 0, none⟩ = some (.slice ao0 l.length cap0) := row_at r_a2.out 0
  have c_a2_1 : W2.cell? ⟨w.heap.size, 1, none⟩ = some (.int .i64 h.n) := row_at r_a2.out 1
  have c_a2_2 : W2.cell? ⟨w.heap.size, 2, none⟩ = some (.string h.r) := row_at r_a2.out 2
  clear r_a1 c_a1_0 c_a1_1 c_a1_2
  by_cases hr : r0 < 0
  · go_wp2
    go_ret
    exact ⟨rfl, B2.out⟩
  have hr1 : l.length + Puts.tot l ≤ 1048576 ∧ h.r.size ≤ 1048576 ∧ 0 ≤ r0 ∧ r0 ≤ 1048576 := by rcases hr0 with h0 | h0; exact absurd h0 hr; exact h0
  obtain ⟨hr1, hzh, hr2, hr3⟩ := hr1
  have hl : l.length ≤ 1048576 := by omega
  have hzz : ∀ s ∈ l, s.size ≤ 1048576 := fun s h => Nat.le_trans (mem_tot h) (by omega)
  clear hr0 hz
  have q1 : ∀ W v1, Sl W v1 (ss l) → _ := fun W v1 h1 => provein_spec W v1 l h i h1 (by omega) (fun s hs => Nat.le_trans (hzz s hs) (by omega))
  have q2 : ∀ W v1, Below w.heap.size w W → Sl W v1 (ss l) → _ := fun W v1 hB h1 => iF W v1 hB h1 hl hzz hzh
  have hR := proveIn_len l h i
  obtain ⟨R, ok, hM⟩ : ∃ R ok, proveIn l h i = (R, ok) := ⟨_, _, rfl⟩
  simp only [hM] at q1 q2 hR
  clear hM iF
  have nok : (ok != ok) = false := by simp
  go_wp2_with fail
  refine (to_log W2 _ l h (HS.out.later B2.out) (by omega)).mono ?_
  rintro e W3 ⟨v_t, rfl, o_t3, b3⟩
  obtain ⟨ao_t, L_t, cap_t, rfl, hL_t, hM_t⟩ := o_t3.form
  have o_t3 : Hid (Own W3 W2.heap.size W3.heap.size 9 (.slice ao_t L_t cap_t) (ss l)) := o_t3
  clear hL_t hM_t
  have z3 : W2.heap.size ≤ W3.heap.size := b3.size
  have B3 : Hid (Below w.heap.size w W3) := B2.out.trans (b3.mono B2.out.size)
  have r_a3 : Hid (W3.heap[w.heap.size]? = some (.cells #[.slice ao0 l.length cap0, .int .i64 h.n, .string h.r] 50 (0, 0))) := rowKeep r_a2.out b3
  have c_a3_0 : W3.cell? ⟨w.heap.size, 0, none⟩ = some (.slice ao0 l.length cap0) := row_at r_a3.out 0
  have c_a3_1 : W3.cell? ⟨w.heap.size, 1, none⟩ = some (.int .i64 h.n) := row_at r_a3.out 1
  have c_a3_2 : W3.cell? ⟨w.heap.size, 2, none⟩ = some (.string h.r) := row_at r_a3.out 2
  clear r_a2 c_a2_0 c_a2_1 c_a2_2
  go_wp2_with fail
  refine (q1 W3 _ o_t3.out.sl).mono ?_
  rintro e W4 ⟨v_wv, rfl, o_wv4, b4⟩
  obtain ⟨ao_wv, L_wv, cap_wv, rfl, hL_wv, hM_wv⟩ := o_wv4.form
  have o_wv4 : Hid (Own W4 W3.heap.size W4.heap.size 9 (.slice ao_wv L_wv cap_wv) (ss R)) := o_wv4
  clear hL_wv hM_wv
  have z4 : W3.heap.size ≤ W4.heap.size := b4.size
  have B4 : Hid (Below w.heap.size w W4) := B3.out.trans (b4.mono B3.out.size)
  have r_a4 : Hid (W4.heap[w.heap.size]? = some (.cells #[.slice ao0 l.length cap0, .int .i64 h.n, .string h.r] 50 (0, 0))) := rowKeep r_a3.out b4
  have o_t4 : Hid (Own W4 (W2.heap.size) (W3.heap.size) 9 (.slice ao_t L_t cap_t) (ss l)) := Own.later o_t3.out b4 (by omega)
  have c_a4_0 : W4.cell? ⟨w.heap.size, 0, none⟩ = some (.slice ao0 l.length cap0) := row_at r_a4.out 0
  have c_a4_1 : W4.cell? ⟨w.heap.size, 1, none⟩ = some (.int .i64 h.n) := row_at r_a4.out 1
  have c_a4_2 : W4.cell? ⟨w.heap.size, 2, none⟩ = some (.string h.r) := row_at r_a4.out 2
  clear r_a3 c_a3_0 c_a3_1 c_a3_2 o_t3
  clear o_t4
  go_wp2_with fail
  refine (to_log W4 _ l h (HS.out.later B4.out) (by omega)).mono ?_
  rintro e W5 ⟨v_x, rfl, o_x5, b5⟩
  obtain ⟨ao_x, L_x, cap_x, rfl, hL_x, hM_x⟩ := o_x5.form
  have o_x5 : Hid (Own W5 W4.heap.size W5.heap.size 9 (.slice ao_x L_x cap_x) (ss l)) := o_x5
  clear hL_x hM_x
  have z5 : W4.heap.size ≤ W5.heap.size := b5.size
  have B5 : Hid (Below w.heap.size w W5) := B4.out.trans (b5.mono B4.out.size)
  have r_a5 : Hid (W5.heap[w.heap.size]? = some (.cells #[.slice ao0 l.length cap0, .int .i64 h.n, .string h.r] 50 (0, 0))) := rowKeep r_a4.out b5
  have o_wv5 : Hid (Own W5 (W3.heap.size) (W4.heap.size) 9 (.slice ao_wv L_wv cap_wv) (ss R)) := Own.later o_wv4.out b5 (by omega)
  have c_a5_0 : W5.cell? ⟨w.heap.size, 0, none⟩ = some (.slice ao0 l.length cap0) := row_at r_a5.out 0
  have c_a5_1 : W5.cell? ⟨w.heap.size, 1, none⟩ = some (.int .i64 h.n) := row_at r_a5.out 1
  have c_a5_2 : W5.cell? ⟨w.heap.size, 2, none⟩ = some (.string h.r) := row_at r_a5.out 2
  clear r_a4 c_a4_0 c_a4_1 c_a4_2 o_wv4
  have a_a5_0 : ∀ o, (W5.alloc o).cell? ⟨w.heap.size, 0, none⟩ = some (.slice ao0 l.length cap0) := fun o => keepR c_a5_0 ((Below.refl _ _).alloc (Nat.le_refl _) o)
  have a_a5_1 : ∀ o, (W5.alloc o).cell? ⟨w.heap.size, 1, none⟩ = some (.int .i64 h.n) := fun o => keepR c_a5_1 ((Below.refl _ _).alloc (Nat.le_refl _) o)
  have a_a5_2 : ∀ o, (W5.alloc o).cell? ⟨w.heap.size, 2, none⟩ = some (.string h.r) := fun o => keepR c_a5_2 ((Below.refl _ _).alloc (Nat.le_refl _) o)
  obtain ⟨W6, HW6, b6, y6, hS6, r_x06⟩ : ∃ X, Hid ((W5.alloc (.cells #[.slice ao_x L_x cap_x, .int .i64 h.n, .string h.r] 28)) = X) ∧ Below W5.heap.size W5 X ∧ W5.heap.size + 1 ≤ X.heap.size ∧ Hid (X.heap.size = W5.heap.size + 1) ∧ Hid (X.heap[W5.heap.size]? = some (.cells #[.slice ao_x L_x cap_x, .int .i64 h.n, .string h.r] 28 (0, 0))) := ⟨_, rfl, ((Below.refl _ _).alloc (Nat.le_refl _) _), by simp, by show _ = _; simp, (by show _ = _; exact alloc_nth1_0 W5 _)⟩
  have z6 : W5.heap.size ≤ W6.heap.size := b6.size
  have B6 : Hid (Below w.heap.size w W6) := B5.out.trans (b6.mono B5.out.size)
  have r_a6 : Hid (W6.heap[w.heap.size]? = some (.cells #[.slice ao0 l.length cap0, .int .i64 h.n, .string h.r] 50 (0, 0))) := rowKeep r_a5.out b6
  have o_wv6 : Hid (Own W6 (W3.heap.size) (W4.heap.size) 9 (.slice ao_wv L_wv cap_wv) (ss R)) := Own.later o_wv5.out b6 (by omega)
  have o_x6 : Hid (Own W6 (W4.heap.size) (W5.heap.size) 9 (.slice ao_x L_x cap_x) (ss l)) := Own.later o_x5.out b6 (by omega)
  have c_a6_0 : W6.cell? ⟨w.heap.size, 0, none⟩ = some (.slice ao0 l.length cap0) := row_at r_a6.out 0
  have c_a6_1 : W6.cell? ⟨w.heap.size, 1, none⟩ = some (.int .i64 h.n) := row_at r_a6.out 1
  have c_a6_2 : W6.cell? ⟨w.heap.size, 2, none⟩ = some (.string h.r) := row_at r_a6.out 2
  have c_x06_0 : W6.cell? ⟨W5.heap.size, 0, none⟩ = some (.slice ao_x L_x cap_x) := row_at r_x06.out 0
  have c_x06_1 : W6.cell? ⟨W5.heap.size, 1, none⟩ = some (.int .i64 h.n) := row_at r_x06.out 1
  have c_x06_2 : W6.cell? ⟨W5.heap.size, 2, none⟩ = some (.string h.r) := row_at r_x06.out 2
  clear r_a5 c_a5_0 c_a5_1 c_a5_2 o_wv5 o_x5
  go_wp2_with fail
  rw [HW6.out]
  clear a_a5_0 a_a5_1 a_a5_2
  refine (q2 W6 _ B6.out o_x6.out.sl).mono ?_
  rintro e W7 ⟨v_gv, rfl, o_gv7, b7⟩
  obtain ⟨ao_gv, L_gv, cap_gv, rfl, hL_gv, hM_gv⟩ := o_gv7.form
  have o_gv7 : Hid (Own W7 W6.heap.size W7.heap.size 9 (.slice ao_gv L_gv cap_gv) (ss R)) := o_gv7
  clear hL_gv hM_gv
  have z7 : W6.heap.size ≤ W7.heap.size := b7.size
  have B7 : Hid (Below w.heap.size w W7) := B6.out.trans (b7.mono B6.out.size)
  have r_a7 : Hid (W7.heap[w.heap.size]? = some (.cells #[.slice ao0 l.length cap0, .int .i64 h.n, .string h.r] 50 (0, 0))) := rowKeep r_a6.out b7
  have r_x07 : Hid (W7.heap[W5.heap.size]? = some (.cells #[.slice ao_x L_x cap_x, .int .i64 h.n, .string h.r] 28 (0, 0))) := rowKeep r_x06.out b7
  have o_wv7 : Hid (Own W7 (W3.heap.size) (W4.heap.size) 9 (.slice ao_wv L_wv cap_wv) (ss R)) := Own.later o_wv6.out b7 (by omega)
  have o_x7 : Hid (Own W7 (W4.heap.size) (W5.heap.size) 9 (.slice ao_x L_x cap_x) (ss l)) := Own.later o_x6.out b7 (by omega)
  have c_a7_0 : W7.cell? ⟨w.heap.size, 0, none⟩ = some (.slice ao0 l.length cap0) := row_at r_a7.out 0
  have c_a7_1 : W7.cell? ⟨w.heap.size, 1, none⟩ = some (.int .i64 h.n) := row_at r_a7.out 1
  have c_a7_2 : W7.cell? ⟨w.heap.size, 2, none⟩ = some (.string h.r) := row_at r_a7.out 2
  have c_x07_0 : W7.cell? ⟨W5.heap.size, 0, none⟩ = some (.slice ao_x L_x cap_x) := row_at r_x07.out 0
  have c_x07_1 : W7.cell? ⟨W5.heap.size, 1, none⟩ = some (.int .i64 h.n) := row_at r_x07.out 1
  have c_x07_2 : W7.cell? ⟨W5.heap.size, 2, none⟩ = some (.string h.r) := row_at r_x07.out 2
  clear r_a6 c_a6_0 c_a6_1 c_a6_2 r_x06 c_x06_0 c_x06_1 c_x06_2 o_wv6 o_x6
  go_wp2_with fail
  refine (Strs.eqs_true W7 _ _ R o_gv7.out.sl o_wv7.out.sl (by omega)).mono ?_
  rintro e W8 ⟨rfl, h8, _⟩
  have b8 : Below W7.heap.size W7 W8 := h8 _
  clear h8
  have z8 : W7.heap.size ≤ W8.heap.size := b8.size
  have B8 : Hid (Below w.heap.size w W8) := B7.out.trans (b8.mono B7.out.size)
  have r_a8 : Hid (W8.heap[w.heap.size]? = some (.cells #[.slice ao0 l.length cap0, .int .i64 h.n, .string h.r] 50 (0, 0))) := rowKeep r_a7.out b8
  have r_x08 : Hid (W8.heap[W5.heap.size]? = some (.cells #[.slice ao_x L_x cap_x, .int .i64 h.n, .string h.r] 28 (0, 0))) := rowKeep r_x07.out b8
  have o_wv8 : Hid (Own W8 (W3.heap.size) (W4.heap.size) 9 (.slice ao_wv L_wv cap_wv) (ss R)) := Own.later o_wv7.out b8 (by omega)
  have o_x8 : Hid (Own W8 (W4.heap.size) (W5.heap.size) 9 (.slice ao_x L_x cap_x) (ss l)) := Own.later o_x7.out b8 (by omega)
  have o_gv8 : Hid (Own W8 (W6.heap.size) (W7.heap.size) 9 (.slice ao_gv L_gv cap_gv) (ss R)) := Own.later o_gv7.out b8 (by omega)
  have c_a8_0 : W8.cell? ⟨w.heap.size, 0, none⟩ = some (.slice ao0 l.length cap0) := row_at r_a8.out 0
  have c_a8_1 : W8.cell? ⟨w.heap.size, 1, none⟩ = some (.int .i64 h.n) := row_at r_a8.out 1
  have c_a8_2 : W8.cell? ⟨w.heap.size, 2, none⟩ = some (.string h.r) := row_at r_a8.out 2
  have c_x08_0 : W8.cell? ⟨W5.heap.size, 0, none⟩ = some (.slice ao_x L_x cap_x) := row_at r_x08.out 0
  have c_x08_1 : W8.cell? ⟨W5.heap.size, 1, none⟩ = some (.int .i64 h.n) := row_at r_x08.out 1
  have c_x08_2 : W8.cell? ⟨W5.heap.size, 2, none⟩ = some (.string h.r) := row_at r_x08.out 2
  clear r_a7 c_a7_0 c_a7_1 c_a7_2 r_x07 c_x07_0 c_x07_1 c_x07_2 o_wv7 o_x7 o_gv7
  go_wp2_with fail
  refine wp_region_held_drew (S := fun w' => w'.cell? ⟨W5.heap.size, 0, none⟩ = some (.slice ao_x L_x cap_x) ∧ w'.cell? ⟨W5.heap.size, 1, none⟩ = some (.int .i64 h.n) ∧ w'.cell? ⟨W5.heap.size, 2, none⟩ = some (.string h.r) ∧ w'.cell? ⟨w.heap.size, 0, none⟩ = some (.slice ao0 l.length cap0) ∧ w'.cell? ⟨w.heap.size, 1, none⟩ = some (.int .i64 h.n) ∧ w'.cell? ⟨w.heap.size, 2, none⟩ = some (.string h.r)) (by kernel_rfl) ⟨c_x08_0, c_x08_1, c_x08_2, c_a8_0, c_a8_1, c_a8_2⟩ (fun hHeld => ?_)
  (refine wpAnyH_take (i := 0) (v := ?v0x4) rfl (by kernel_rfl) (by kernel_rfl) (by kernel_rfl) (fun _ _ _ h => h) (Or.inl ⟨by rfl, ?hy0x4⟩) (by assumption) ?rest0x4; case hy0x4 => (intro w hSw; (try dsimp only at hSw); go_split_ands; go_simp; (try with_reducible rfl)))
  try simp only [Act.put, List.setIfInBounds_toArray, List.set_cons_zero, List.set_cons_succ, List.getElem_toArray, List.getElem_cons_zero, List.getElem_cons_succ]
  (refine wpAnyH_take (i := 1) (v := ?v1x5) rfl (by kernel_rfl) (by kernel_rfl) (by kernel_rfl) (fun _ _ _ h => h) (Or.inl ⟨by rfl, ?hy1x5⟩) (by assumption) ?rest1x5; case hy1x5 => (intro w hSw; (try dsimp only at hSw); go_split_ands; go_simp; (try with_reducible rfl)))
  try simp only [Act.put, List.setIfInBounds_toArray, List.set_cons_zero, List.set_cons_succ, List.getElem_toArray, List.getElem_cons_zero, List.getElem_cons_succ]
  refine wpAnyH_ready (rs := [2]) (by kernel_rfl) (by simp) ?_
  refine AllReadyH.cons rfl (fun K hK => ?_) AllReadyH.nil
  go_simp
  refine (to_log W8.drew _ l h (HS.out.later (Below.drew B8.out)) (by omega)).mono ?_
  rintro e W9 ⟨v_u, rfl, o_u9, b9⟩
  have b9 : Below W8.heap.size W8 W9 := (Below.drew (Below.refl _ _)).trans b9
  refine hK.out _ _ ⟨keepR (W := W8) hHeld.1 b9, keepR (W := W8) hHeld.2.1 b9, keepR (W := W8) hHeld.2.2.1 b9, keepR (W := W8) hHeld.2.2.2.1 b9, keepR (W := W8) hHeld.2.2.2.2.1 b9, keepR (W := W8) hHeld.2.2.2.2.2 b9⟩ (fun hHeld => ?_)
  clear hK K
  try simp only [Act.put, List.setIfInBounds_toArray, List.set_cons_zero, List.set_cons_succ, List.getElem_toArray, List.getElem_cons_zero, List.getElem_cons_succ]
  have o_u9 : Own W9 W8.heap.size W9.heap.size 9 _ _ := o_u9
  obtain ⟨ao_u, L_u, cap_u, rfl, hL_u, hM_u⟩ := o_u9.form
  have o_u9 : Hid (Own W9 W8.heap.size W9.heap.size 9 (.slice ao_u L_u cap_u) (ss l)) := o_u9
  clear hL_u hM_u
  have z9 : W8.heap.size ≤ W9.heap.size := b9.size
  have B9 : Hid (Below w.heap.size w W9) := B8.out.trans (b9.mono B8.out.size)
  have r_a9 : Hid (W9.heap[w.heap.size]? = some (.cells #[.slice ao0 l.length cap0, .int .i64 h.n, .string h.r] 50 (0, 0))) := rowKeep r_a8.out b9
  have r_x09 : Hid (W9.heap[W5.heap.size]? = some (.cells #[.slice ao_x L_x cap_x, .int .i64 h.n, .string h.r] 28 (0, 0))) := rowKeep r_x08.out b9
  have o_wv9 : Hid (Own W9 (W3.heap.size) (W4.heap.size) 9 (.slice ao_wv L_wv cap_wv) (ss R)) := Own.later o_wv8.out b9 (by omega)
  have o_x9 : Hid (Own W9 (W4.heap.size) (W5.heap.size) 9 (.slice ao_x L_x cap_x) (ss l)) := Own.later o_x8.out b9 (by omega)
  have o_gv9 : Hid (Own W9 (W6.heap.size) (W7.heap.size) 9 (.slice ao_gv L_gv cap_gv) (ss R)) := Own.later o_gv8.out b9 (by omega)
  have c_a9_0 : W9.cell? ⟨w.heap.size, 0, none⟩ = some (.slice ao0 l.length cap0) := row_at r_a9.out 0
  have c_a9_1 : W9.cell? ⟨w.heap.size, 1, none⟩ = some (.int .i64 h.n) := row_at r_a9.out 1
  have c_a9_2 : W9.cell? ⟨w.heap.size, 2, none⟩ = some (.string h.r) := row_at r_a9.out 2
  have c_x09_0 : W9.cell? ⟨W5.heap.size, 0, none⟩ = some (.slice ao_x L_x cap_x) := row_at r_x09.out 0
  have c_x09_1 : W9.cell? ⟨W5.heap.size, 1, none⟩ = some (.int .i64 h.n) := row_at r_x09.out 1
  have c_x09_2 : W9.cell? ⟨W5.heap.size, 2, none⟩ = some (.string h.r) := row_at r_x09.out 2
  clear r_a8 c_a8_0 c_a8_1 c_a8_2 r_x08 c_x08_0 c_x08_1 c_x08_2 o_wv8 o_x8 o_gv8
  refine wpAnyH_ready (rs := [3]) (by kernel_rfl) (by simp) ?_
  refine AllReadyH.cons rfl (fun K hK => ?_) AllReadyH.nil
  go_simp
  refine (eq_log W9 h _ _ l o_x9.out.sl o_u9.out.sl (by omega)).mono ?_
  rintro e W10 ⟨rfl, b10⟩
  refine hK.out _ _ ⟨keepR (W := W9) hHeld.1 b10, keepR (W := W9) hHeld.2.1 b10, keepR (W := W9) hHeld.2.2.1 b10, keepR (W := W9) hHeld.2.2.2.1 b10, keepR (W := W9) hHeld.2.2.2.2.1 b10, keepR (W := W9) hHeld.2.2.2.2.2 b10⟩ (fun hHeld => ?_)
  clear hK K
  try simp only [Act.put, List.setIfInBounds_toArray, List.set_cons_zero, List.set_cons_succ, List.getElem_toArray, List.getElem_cons_zero, List.getElem_cons_succ]
  have z10 : W9.heap.size ≤ W10.heap.size := b10.size
  have B10 : Hid (Below w.heap.size w W10) := B9.out.trans (b10.mono B9.out.size)
  have r_a10 : Hid (W10.heap[w.heap.size]? = some (.cells #[.slice ao0 l.length cap0, .int .i64 h.n, .string h.r] 50 (0, 0))) := rowKeep r_a9.out b10
  have r_x010 : Hid (W10.heap[W5.heap.size]? = some (.cells #[.slice ao_x L_x cap_x, .int .i64 h.n, .string h.r] 28 (0, 0))) := rowKeep r_x09.out b10
  have o_wv10 : Hid (Own W10 (W3.heap.size) (W4.heap.size) 9 (.slice ao_wv L_wv cap_wv) (ss R)) := Own.later o_wv9.out b10 (by omega)
  have o_x10 : Hid (Own W10 (W4.heap.size) (W5.heap.size) 9 (.slice ao_x L_x cap_x) (ss l)) := Own.later o_x9.out b10 (by omega)
  have o_gv10 : Hid (Own W10 (W6.heap.size) (W7.heap.size) 9 (.slice ao_gv L_gv cap_gv) (ss R)) := Own.later o_gv9.out b10 (by omega)
  have o_u10 : Hid (Own W10 (W8.heap.size) (W9.heap.size) 9 (.slice ao_u L_u cap_u) (ss l)) := Own.later o_u9.out b10 (by omega)
  have c_a10_0 : W10.cell? ⟨w.heap.size, 0, none⟩ = some (.slice ao0 l.length cap0) := row_at r_a10.out 0
  have c_a10_1 : W10.cell? ⟨w.heap.size, 1, none⟩ = some (.int .i64 h.n) := row_at r_a10.out 1
  have c_a10_2 : W10.cell? ⟨w.heap.size, 2, none⟩ = some (.string h.r) := row_at r_a10.out 2
  have c_x010_0 : W10.cell? ⟨W5.heap.size, 0, none⟩ = some (.slice ao_x L_x cap_x) := row_at r_x010.out 0
  have c_x010_1 : W10.cell? ⟨W5.heap.size, 1, none⟩ = some (.int .i64 h.n) := row_at r_x010.out 1
  have c_x010_2 : W10.cell? ⟨W5.heap.size, 2, none⟩ = some (.string h.r) := row_at r_x010.out 2
  clear r_a9 c_a9_0 c_a9_1 c_a9_2 r_x09 c_x09_0 c_x09_1 c_x09_2 o_wv9 o_x9 o_gv9 o_u9
  (refine wpAnyH_take (i := 4) (v := ?v4x6) rfl (by kernel_rfl) (by kernel_rfl) (by kernel_rfl) (fun _ _ _ h => h) (Or.inl ⟨by rfl, ?hy4x6⟩) (by assumption) ?rest4x6; case hy4x6 => (intro w hSw; (try dsimp only at hSw); go_split_ands; go_simp; (try with_reducible rfl)))
  try simp only [Act.put, List.setIfInBounds_toArray, List.set_cons_zero, List.set_cons_succ, List.getElem_toArray, List.getElem_cons_zero, List.getElem_cons_succ]
  refine wpAnyH_done (by kernel_rfl) ?_ _
  clear hHeld
  clear o_u10
  go_wp2_with fail
  refine (mark_log W10 h _ (W4.heap.size) (W5.heap.size) l 1 o_x10.out (by omega) (by omega) (by omega) (by omega)).mono ?_
  rintro e W11 ⟨rfl, o_x11, p11⟩
  have o_x11 : Hid (Own W11 (W4.heap.size) (W5.heap.size) 9 (.slice ao_x L_x cap_x) (ss (Strs.mts 1 l.length))) := o_x11
  have z11 : W10.heap.size ≤ W11.heap.size := p11.size
  have B11 : Hid (Below w.heap.size w W11) := B10.out.trans (p11.below (by have := B10.out.size; omega) B10.out.size)
  have r_a11 : Hid (W11.heap[w.heap.size]? = some (.cells #[.slice ao0 l.length cap0, .int .i64 h.n, .string h.r] 50 (0, 0))) := (p11.block (w.heap.size) (by omega) (by omega)).trans r_a10.out
  have r_x011 : Hid (W11.heap[W5.heap.size]? = some (.cells #[.slice ao_x L_x cap_x, .int .i64 h.n, .string h.r] 28 (0, 0))) := (p11.block (W5.heap.size) (by omega) (by omega)).trans r_x010.out
  have o_wv11 : Hid (Own W11 (W3.heap.size) (W4.heap.size) 9 (.slice ao_wv L_wv cap_wv) (ss R)) := Own.apart o_wv10.out p11 (by omega) (by omega)
  have o_gv11 : Hid (Own W11 (W6.heap.size) (W7.heap.size) 9 (.slice ao_gv L_gv cap_gv) (ss R)) := Own.apart o_gv10.out p11 (by omega) (by omega)
  have c_a11_0 : W11.cell? ⟨w.heap.size, 0, none⟩ = some (.slice ao0 l.length cap0) := row_at r_a11.out 0
  have c_a11_1 : W11.cell? ⟨w.heap.size, 1, none⟩ = some (.int .i64 h.n) := row_at r_a11.out 1
  have c_a11_2 : W11.cell? ⟨w.heap.size, 2, none⟩ = some (.string h.r) := row_at r_a11.out 2
  have c_x011_0 : W11.cell? ⟨W5.heap.size, 0, none⟩ = some (.slice ao_x L_x cap_x) := row_at r_x011.out 0
  have c_x011_1 : W11.cell? ⟨W5.heap.size, 1, none⟩ = some (.int .i64 h.n) := row_at r_x011.out 1
  have c_x011_2 : W11.cell? ⟨W5.heap.size, 2, none⟩ = some (.string h.r) := row_at r_x011.out 2
  clear r_a10 c_a10_0 c_a10_1 c_a10_2 r_x010 c_x010_0 c_x010_1 c_x010_2 o_wv10 o_x10 o_gv10
  clear o_x11
  clear r_x011 c_x011_0 c_x011_1 c_x011_2
  go_wp2_with fail
  refine (Strs.eqs_true W11 _ _ R o_gv11.out.sl o_wv11.out.sl (by omega)).mono ?_
  rintro e W12 ⟨rfl, h12, _⟩
  have b12 : Below W11.heap.size W11 W12 := h12 _
  clear h12
  have z12 : W11.heap.size ≤ W12.heap.size := b12.size
  have B12 : Hid (Below w.heap.size w W12) := B11.out.trans (b12.mono B11.out.size)
  have r_a12 : Hid (W12.heap[w.heap.size]? = some (.cells #[.slice ao0 l.length cap0, .int .i64 h.n, .string h.r] 50 (0, 0))) := rowKeep r_a11.out b12
  have o_wv12 : Hid (Own W12 (W3.heap.size) (W4.heap.size) 9 (.slice ao_wv L_wv cap_wv) (ss R)) := Own.later o_wv11.out b12 (by omega)
  have o_gv12 : Hid (Own W12 (W6.heap.size) (W7.heap.size) 9 (.slice ao_gv L_gv cap_gv) (ss R)) := Own.later o_gv11.out b12 (by omega)
  have c_a12_0 : W12.cell? ⟨w.heap.size, 0, none⟩ = some (.slice ao0 l.length cap0) := row_at r_a12.out 0
  have c_a12_1 : W12.cell? ⟨w.heap.size, 1, none⟩ = some (.int .i64 h.n) := row_at r_a12.out 1
  have c_a12_2 : W12.cell? ⟨w.heap.size, 2, none⟩ = some (.string h.r) := row_at r_a12.out 2
  clear r_a11 c_a11_0 c_a11_1 c_a11_2 o_wv11 o_gv11
  go_wp2_with fail
  refine (Strs.marks_any W12 _ (W6.heap.size) (W7.heap.size) R 1 o_gv12.out (by omega) (by omega) (by omega) (by omega)).mono ?_
  rintro e W13 ⟨rfl, o_gv13, p13⟩
  have o_gv13 : Hid (Own W13 (W6.heap.size) (W7.heap.size) 9 (.slice ao_gv L_gv cap_gv) (ss (Strs.mts 1 R.length))) := o_gv13
  have z13 : W12.heap.size ≤ W13.heap.size := p13.size
  have B13 : Hid (Below w.heap.size w W13) := B12.out.trans (p13.below (by have := B12.out.size; omega) B12.out.size)
  have r_a13 : Hid (W13.heap[w.heap.size]? = some (.cells #[.slice ao0 l.length cap0, .int .i64 h.n, .string h.r] 50 (0, 0))) := (p13.block (w.heap.size) (by omega) (by omega)).trans r_a12.out
  have o_wv13 : Hid (Own W13 (W3.heap.size) (W4.heap.size) 9 (.slice ao_wv L_wv cap_wv) (ss R)) := Own.apart o_wv12.out p13 (by omega) (by omega)
  have c_a13_0 : W13.cell? ⟨w.heap.size, 0, none⟩ = some (.slice ao0 l.length cap0) := row_at r_a13.out 0
  have c_a13_1 : W13.cell? ⟨w.heap.size, 1, none⟩ = some (.int .i64 h.n) := row_at r_a13.out 1
  have c_a13_2 : W13.cell? ⟨w.heap.size, 2, none⟩ = some (.string h.r) := row_at r_a13.out 2
  clear r_a12 c_a12_0 c_a12_1 c_a12_2 o_wv12 o_gv12
  go_wp2_with fail
  refine (Strs.helds_any W13 _ R.length 1 o_gv13.out.sl (by omega) (by omega) (by omega)).mono ?_
  rintro e W14 ⟨rfl, b14⟩
  have z14 : W13.heap.size ≤ W14.heap.size := b14.size
  have B14 : Hid (Below w.heap.size w W14) := B13.out.trans (b14.mono B13.out.size)
  have r_a14 : Hid (W14.heap[w.heap.size]? = some (.cells #[.slice ao0 l.length cap0, .int .i64 h.n, .string h.r] 50 (0, 0))) := rowKeep r_a13.out b14
  have o_wv14 : Hid (Own W14 (W3.heap.size) (W4.heap.size) 9 (.slice ao_wv L_wv cap_wv) (ss R)) := Own.later o_wv13.out b14 (by omega)
  have o_gv14 : Hid (Own W14 (W6.heap.size) (W7.heap.size) 9 (.slice ao_gv L_gv cap_gv) (ss (Strs.mts 1 R.length))) := Own.later o_gv13.out b14 (by omega)
  have c_a14_0 : W14.cell? ⟨w.heap.size, 0, none⟩ = some (.slice ao0 l.length cap0) := row_at r_a14.out 0
  have c_a14_1 : W14.cell? ⟨w.heap.size, 1, none⟩ = some (.int .i64 h.n) := row_at r_a14.out 1
  have c_a14_2 : W14.cell? ⟨w.heap.size, 2, none⟩ = some (.string h.r) := row_at r_a14.out 2
  clear r_a13 c_a13_0 c_a13_1 c_a13_2 o_wv13 o_gv13
  go_wp2_with fail
  refine (to_log W14 _ l h (HS.out.later B14.out) (by omega)).mono ?_
  rintro e W15 ⟨v_y, rfl, o_y15, b15⟩
  obtain ⟨ao_y, L_y, cap_y, rfl, hL_y, hM_y⟩ := o_y15.form
  have o_y15 : Hid (Own W15 W14.heap.size W15.heap.size 9 (.slice ao_y L_y cap_y) (ss l)) := o_y15
  clear hL_y hM_y
  have z15 : W14.heap.size ≤ W15.heap.size := b15.size
  have B15 : Hid (Below w.heap.size w W15) := B14.out.trans (b15.mono B14.out.size)
  have r_a15 : Hid (W15.heap[w.heap.size]? = some (.cells #[.slice ao0 l.length cap0, .int .i64 h.n, .string h.r] 50 (0, 0))) := rowKeep r_a14.out b15
  have o_wv15 : Hid (Own W15 (W3.heap.size) (W4.heap.size) 9 (.slice ao_wv L_wv cap_wv) (ss R)) := Own.later o_wv14.out b15 (by omega)
  have o_gv15 : Hid (Own W15 (W6.heap.size) (W7.heap.size) 9 (.slice ao_gv L_gv cap_gv) (ss (Strs.mts 1 R.length))) := Own.later o_gv14.out b15 (by omega)
  have c_a15_0 : W15.cell? ⟨w.heap.size, 0, none⟩ = some (.slice ao0 l.length cap0) := row_at r_a15.out 0
  have c_a15_1 : W15.cell? ⟨w.heap.size, 1, none⟩ = some (.int .i64 h.n) := row_at r_a15.out 1
  have c_a15_2 : W15.cell? ⟨w.heap.size, 2, none⟩ = some (.string h.r) := row_at r_a15.out 2
  clear r_a14 c_a14_0 c_a14_1 c_a14_2 o_wv14 o_gv14
  go_wp2_with fail
  refine (q2 W15 _ B15.out o_y15.out.sl).mono ?_
  rintro e W16 ⟨v_hv, rfl, o_hv16, b16⟩
  obtain ⟨ao_hv, L_hv, cap_hv, rfl, hL_hv, hM_hv⟩ := o_hv16.form
  have o_hv16 : Hid (Own W16 W15.heap.size W16.heap.size 9 (.slice ao_hv L_hv cap_hv) (ss R)) := o_hv16
  clear hL_hv hM_hv
  have z16 : W15.heap.size ≤ W16.heap.size := b16.size
  have B16 : Hid (Below w.heap.size w W16) := B15.out.trans (b16.mono B15.out.size)
  have r_a16 : Hid (W16.heap[w.heap.size]? = some (.cells #[.slice ao0 l.length cap0, .int .i64 h.n, .string h.r] 50 (0, 0))) := rowKeep r_a15.out b16
  have o_wv16 : Hid (Own W16 (W3.heap.size) (W4.heap.size) 9 (.slice ao_wv L_wv cap_wv) (ss R)) := Own.later o_wv15.out b16 (by omega)
  have o_gv16 : Hid (Own W16 (W6.heap.size) (W7.heap.size) 9 (.slice ao_gv L_gv cap_gv) (ss (Strs.mts 1 R.length))) := Own.later o_gv15.out b16 (by omega)
  have o_y16 : Hid (Own W16 (W14.heap.size) (W15.heap.size) 9 (.slice ao_y L_y cap_y) (ss l)) := Own.later o_y15.out b16 (by omega)
  have c_a16_0 : W16.cell? ⟨w.heap.size, 0, none⟩ = some (.slice ao0 l.length cap0) := row_at r_a16.out 0
  have c_a16_1 : W16.cell? ⟨w.heap.size, 1, none⟩ = some (.int .i64 h.n) := row_at r_a16.out 1
  have c_a16_2 : W16.cell? ⟨w.heap.size, 2, none⟩ = some (.string h.r) := row_at r_a16.out 2
  clear r_a15 c_a15_0 c_a15_1 c_a15_2 o_wv15 o_gv15 o_y15
  clear o_y16
  go_wp2_with fail
  refine (Strs.eqs_true W16 _ _ R o_hv16.out.sl o_wv16.out.sl (by omega)).mono ?_
  rintro e W17 ⟨rfl, h17, _⟩
  have b17 : Below W16.heap.size W16 W17 := h17 _
  clear h17
  have z17 : W16.heap.size ≤ W17.heap.size := b17.size
  have B17 : Hid (Below w.heap.size w W17) := B16.out.trans (b17.mono B16.out.size)
  have r_a17 : Hid (W17.heap[w.heap.size]? = some (.cells #[.slice ao0 l.length cap0, .int .i64 h.n, .string h.r] 50 (0, 0))) := rowKeep r_a16.out b17
  have o_wv17 : Hid (Own W17 (W3.heap.size) (W4.heap.size) 9 (.slice ao_wv L_wv cap_wv) (ss R)) := Own.later o_wv16.out b17 (by omega)
  have o_gv17 : Hid (Own W17 (W6.heap.size) (W7.heap.size) 9 (.slice ao_gv L_gv cap_gv) (ss (Strs.mts 1 R.length))) := Own.later o_gv16.out b17 (by omega)
  have o_hv17 : Hid (Own W17 (W15.heap.size) (W16.heap.size) 9 (.slice ao_hv L_hv cap_hv) (ss R)) := Own.later o_hv16.out b17 (by omega)
  have c_a17_0 : W17.cell? ⟨w.heap.size, 0, none⟩ = some (.slice ao0 l.length cap0) := row_at r_a17.out 0
  have c_a17_1 : W17.cell? ⟨w.heap.size, 1, none⟩ = some (.int .i64 h.n) := row_at r_a17.out 1
  have c_a17_2 : W17.cell? ⟨w.heap.size, 2, none⟩ = some (.string h.r) := row_at r_a17.out 2
  clear r_a16 c_a16_0 c_a16_1 c_a16_2 o_wv16 o_gv16 o_hv16
  go_wp2_with fail
  refine (Strs.helds_any W17 _ R.length 1 o_gv17.out.sl (by omega) (by omega) (by omega)).mono ?_
  rintro e W18 ⟨rfl, b18⟩
  have z18 : W17.heap.size ≤ W18.heap.size := b18.size
  have B18 : Hid (Below w.heap.size w W18) := B17.out.trans (b18.mono B17.out.size)
  have r_a18 : Hid (W18.heap[w.heap.size]? = some (.cells #[.slice ao0 l.length cap0, .int .i64 h.n, .string h.r] 50 (0, 0))) := rowKeep r_a17.out b18
  have o_wv18 : Hid (Own W18 (W3.heap.size) (W4.heap.size) 9 (.slice ao_wv L_wv cap_wv) (ss R)) := Own.later o_wv17.out b18 (by omega)
  have o_gv18 : Hid (Own W18 (W6.heap.size) (W7.heap.size) 9 (.slice ao_gv L_gv cap_gv) (ss (Strs.mts 1 R.length))) := Own.later o_gv17.out b18 (by omega)
  have o_hv18 : Hid (Own W18 (W15.heap.size) (W16.heap.size) 9 (.slice ao_hv L_hv cap_hv) (ss R)) := Own.later o_hv17.out b18 (by omega)
  have c_a18_0 : W18.cell? ⟨w.heap.size, 0, none⟩ = some (.slice ao0 l.length cap0) := row_at r_a18.out 0
  have c_a18_1 : W18.cell? ⟨w.heap.size, 1, none⟩ = some (.int .i64 h.n) := row_at r_a18.out 1
  have c_a18_2 : W18.cell? ⟨w.heap.size, 2, none⟩ = some (.string h.r) := row_at r_a18.out 2
  clear r_a17 c_a17_0 c_a17_1 c_a17_2 o_wv17 o_gv17 o_hv17
  go_wp2
  go_ret
  exact ⟨rfl, B18.out⟩

end Go.Proofs.YtccnhhdcdamgmaaDoor.Lg
