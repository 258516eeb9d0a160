/- Chapter 7: the exact law of EdgeAll, over a contract of the landed function. -/
import Derived.Test.YthbonifpdpknnacDoorEd7
import Derived.Test.YthbonifpdpknnacDoorEdH
import Derived.Test.YthbonifpdpknnacDoorTrX
namespace Go.Proofs.YthbonifpdpknnacDoor.Ed
open Go.RowKit Go.Proofs.YthbonifpdpknnacDoor.Mem Go.Proofs.YthbonifpdpknnacDoor.Laws Go.Proofs.YthbonifpdpknnacDoor.Bytes Go.Proofs.YthbonifpdpknnacDoor.Sha Go.Proofs.YthbonifpdpknnacDoor.Tr
set_option linter.unusedVariables false
set_option linter.unusedSimpArgs false

theorem goE_short : ∀ (l : List ByteArray) (n : Int) (hs : List ByteArray) (m : Int) (q : List ByteArray), goE n hs l = some (m, q) → q.length ≤ hs.length + l.length
  | [], n, hs, m, q, h => by
    simp only [goE, Option.some.injEq, Prod.mk.injEq] at h
    rw [h.2]; exact Nat.le_refl _
  | s :: r, n, hs, m, q, h => by
    rw [goE] at h
    split at h
    · have h1 := goE_short r _ _ m q h
      have h2 := addE_shortA n hs s
      rw [List.length_cons]
      omega
    · cases h
theorem allE_short (n : Int) (hs l : List ByteArray) : (allE n hs l).2.1.length ≤ hs.length + l.length := by
  unfold allE
  cases h : goE n hs l with
  | none => exact Nat.le_add_right _ _
  | some p => exact goE_short l n hs p.1 p.2 h

set_option maxRecDepth 1000000 in
set_option maxHeartbeats 8000000 in
theorem exact_all (w : World) (n : Int) (v vl : Value) (hs l : List ByteArray) (h : Sl w v (ss hs)) (hz : ∀ s ∈ hs, s.size ≤ maxLen) (hm : hs.length ≤ maxLen) (h2 : Sl w vl (ss l)) (hzl : ∀ s ∈ l, s.size ≤ maxLen) (hml : l.length ≤ maxLen)
    (iF : ∀ W v' vl', Below w.heap.size w W → Sl W v' (ss hs) → Sl W vl' (ss l) → hs.length ≤ 1048576 → (∀ s ∈ hs, s.size ≤ 1048576) → l.length ≤ 1048576 → (∀ s ∈ l, s.size ≤ 1048576) → Calls Tryd.prog 23 #[.agg #[.int .i64 n, v'], vl'] W fun e w' => ∃ v'', e = .returned (.tuple #[.agg #[.int .i64 (allE n hs l).1, v''], .bool (allE n hs l).2.2]) ∧ Own w' W.heap.size w'.heap.size 9 v'' (ss (allE n hs l).2.1) ∧ Below W.heap.size W w') :
    Calls Tryd.prog 6 #[.agg #[.int .i64 n, v], vl] w fun e w' => e = .returned (.bool true) ∧ Below w.heap.size w w' := by
  have HS : Hid (Sl w v (ss hs)) := h
  have HSL : Hid (Sl w vl (ss l)) := h2
  unfold maxLen at *
  obtain ⟨ao0, cap0, rfl, hc0⟩ := h.form
  obtain ⟨ao1, cap1, rfl, hc1⟩ := h2.form
  simp only [ss_len] at *
  clear h h2
  have B0 : Hid (Below w.heap.size w w) := Below.refl _ _
  obtain ⟨W1, HW1, b1, y1, r_a1⟩ : ∃ X, Hid ((w.alloc (.cells #[.int .i64 n, .slice ao0 hs.length cap0] 32)) = X) ∧ Below w.heap.size w X ∧ w.heap.size + 1 ≤ X.heap.size ∧ Hid (X.heap[w.heap.size]? = some (.cells #[.int .i64 n, .slice ao0 hs.length cap0] 32 (0, 0))) := ⟨_, rfl, (Below.refl _ _).alloc (Nat.le_refl _) _, by simp, heap_alloc_new _ _⟩
  have z1 : w.heap.size ≤ W1.heap.size := b1.size
  have B1 : Hid (Below w.heap.size w W1) := B0.out.trans (b1.mono B0.out.size)
  have c_a1_0 : W1.cell? ⟨w.heap.size, 0, none⟩ = some (.int .i64 n) := row_at r_a1.out 0
  have a_a1_0 : ∀ o, (W1.alloc o).cell? ⟨w.heap.size, 0, none⟩ = some (.int .i64 n) := fun o => keepR c_a1_0 ((Below.refl _ _).alloc (Nat.le_refl _) o)
  have c_a1_1 : W1.cell? ⟨w.heap.size, 1, none⟩ = some (.slice ao0 hs.length cap0) := row_at r_a1.out 1
  have a_a1_1 : ∀ o, (W1.alloc o).cell? ⟨w.heap.size, 1, none⟩ = some (.slice ao0 hs.length cap0) := fun o => keepR c_a1_1 ((Below.refl _ _).alloc (Nat.le_refl _) o)
  go_enter Tryd.func6, Tryd.ntmps6
  go_wp2_with fail
  rw [HW1.out]
  refine (sz_edge W1 n _ hs 1048576 (HS.out.later B1.out) (fun s h => by have := hz s h; omega) (by omega) (Nat.le_refl _)).mono ?_
  rintro e W2 ⟨⟨r0, rfl, hr0⟩, b2⟩
  have z2 : W1.heap.size ≤ W2.heap.size := b2.size
  have B2 : Hid (Below w.heap.size w W2) := B1.out.trans (b2.mono B1.out.size)
  have r_a2 : Hid (W2.heap[w.heap.size]? = some (.cells #[.int .i64 n, .slice ao0 hs.length cap0] 32 (0, 0))) := rowKeep r_a1.out b2
  have c_a2_0 : W2.cell? ⟨w.heap.size, 0, none⟩ = some (.int .i64 n) := row_at r_a2.out 0
  have a_a2_0 : ∀ o, (W2.alloc o).cell? ⟨w.heap.size, 0, none⟩ = some (.int .i64 n) := fun o => keepR c_a2_0 ((Below.refl _ _).alloc (Nat.le_refl _) o)
  have c_a2_1 : W2.cell? ⟨w.heap.size, 1, none⟩ = some (.slice ao0 hs.length cap0) := row_at r_a2.out 1
  have a_a2_1 : ∀ o, (W2.alloc o).cell? ⟨w.heap.size, 1, none⟩ = some (.slice ao0 hs.length cap0) := fun o => keepR c_a2_1 ((Below.refl _ _).alloc (Nat.le_refl _) o)
  clear r_a1 c_a1_0 c_a1_1 a_a1_0 a_a1_1
  by_cases hr : r0 < 0
  · go_wp2
    go_ret
    exact ⟨rfl, B2.out⟩
  have hr1 : hs.length + Puts.tot hs ≤ 1048576 ∧ 0 ≤ r0 ∧ r0 ≤ 1048576 := by rcases hr0 with h0 | h0; exact absurd h0 hr; exact h0
  obtain ⟨hr1, hr2, hr3⟩ := hr1
  obtain ⟨r1, rfl⟩ : ∃ r1 : Nat, r0 = (r1 : Int) := ⟨r0.toNat, by omega⟩
  have hl : hs.length ≤ 1048576 := by omega
  have hzz : ∀ s ∈ hs, s.size ≤ 1048576 := fun s h => Nat.le_trans (mem_tot h) (by omega)
  clear hr0 hz
  go_wp2_with fail
  refine (Strs.sz_any2 W2 _ l r1 (HSL.out.later B2.out) (fun s h => by have := hzl s h; omega) (by omega) (by omega)).mono ?_
  rintro e WX ⟨⟨r2, rfl, hr4⟩, hWX⟩
  subst hWX
  by_cases hrr : r2 < 0
  · go_wp2
    go_ret
    exact ⟨rfl, B2.out⟩
  have hr5 : l.length + Puts.tot l ≤ r1 := by rcases hr4 with h0 | h0; exact absurd h0 hrr; exact h0.1
  have hll : l.length ≤ 1048576 := by omega
  have hzzl : ∀ s ∈ l, s.size ≤ 1048576 := fun s h => Nat.le_trans (mem_tot h) (by omega)
  clear hr4 hzl
  have hsh := allE_short n hs l
  have q1 : ∀ W v1 v2, Sl W v1 (ss hs) → Sl W v2 (ss l) → _ := fun W v1 v2 h1 h2 => all_spec W n v1 v2 hs l h1 h2 (by omega) (by omega) (fun s h => Nat.le_trans (hzzl s h) (by omega))
  have q2 : ∀ W v1 v2, Below w.heap.size w W → Sl W v1 (ss hs) → Sl W v2 (ss l) → _ := fun W v1 v2 hB h1 h2 => iF W v1 v2 hB h1 h2 hl hzz hll hzzl
  obtain ⟨n', R, ok, hA⟩ : ∃ n' R ok, allE n hs l = (n', R, ok) := ⟨_, _, _, rfl⟩
  simp only [hA] at q1 q2 hsh
  clear hA iF
  have hRl : R.length ≤ 2097152 := by omega
  have nok : (ok != ok) = false := by simp
  clear hsh
  obtain ⟨K1, hK1⟩ : ∃ K1, 1 + hs.length = K1 := ⟨_, rfl⟩
  have hKa : 1 ≤ K1 := by omega
  have hKb : K1 ≤ 1048577 := by omega
  have HK : Hid (1 + hs.length = K1) := hK1
  clear hK1
  go_wp2_with fail
  refine (to_edge W2 n _ hs (HS.out.later B2.out) (by omega)).mono ?_
  rintro e W3 ⟨v_t, rfl, o_t3, b3⟩
  obtain ⟨ao_t, L_t, cap_t, rfl, hL_t, hM_t⟩ := o_t3.form
  have o_t3 : Hid (Own W3 W2.heap.size W3.heap.size 9 (.slice ao_t L_t cap_t) (ss hs)) := o_t3
  clear hL_t hM_t
  have z3 : W2.heap.size ≤ W3.heap.size := b3.size
  have B3 : Hid (Below w.heap.size w W3) := B2.out.trans (b3.mono B2.out.size)
  have r_a3 : Hid (W3.heap[w.heap.size]? = some (.cells #[.int .i64 n, .slice ao0 hs.length cap0] 32 (0, 0))) := rowKeep r_a2.out b3
  have c_a3_0 : W3.cell? ⟨w.heap.size, 0, none⟩ = some (.int .i64 n) := row_at r_a3.out 0
  have a_a3_0 : ∀ o, (W3.alloc o).cell? ⟨w.heap.size, 0, none⟩ = some (.int .i64 n) := fun o => keepR c_a3_0 ((Below.refl _ _).alloc (Nat.le_refl _) o)
  have c_a3_1 : W3.cell? ⟨w.heap.size, 1, none⟩ = some (.slice ao0 hs.length cap0) := row_at r_a3.out 1
  have a_a3_1 : ∀ o, (W3.alloc o).cell? ⟨w.heap.size, 1, none⟩ = some (.slice ao0 hs.length cap0) := fun o => keepR c_a3_1 ((Below.refl _ _).alloc (Nat.le_refl _) o)
  clear r_a2 c_a2_0 c_a2_1 a_a2_0 a_a2_1
  go_wp2_with fail
  refine (Strs.to_s W3 _ l (HSL.out.later B3.out) (by omega)).mono ?_
  rintro e W4 ⟨v_tl, rfl, o_tl4, b4⟩
  obtain ⟨ao_tl, L_tl, cap_tl, rfl, hL_tl, hM_tl⟩ := o_tl4.form
  have o_tl4 : Hid (Own W4 W3.heap.size W4.heap.size 9 (.slice ao_tl L_tl cap_tl) (ss l)) := o_tl4
  clear hL_tl hM_tl
  have z4 : W3.heap.size ≤ W4.heap.size := b4.size
  have B4 : Hid (Below w.heap.size w W4) := B3.out.trans (b4.mono B3.out.size)
  have r_a4 : Hid (W4.heap[w.heap.size]? = some (.cells #[.int .i64 n, .slice ao0 hs.length cap0] 32 (0, 0))) := rowKeep r_a3.out b4
  have o_t4 : Hid (Own W4 (W2.heap.size) (W3.heap.size) 9 (.slice ao_t L_t cap_t) (ss hs)) := Own.later o_t3.out b4 (by omega)
  have c_a4_0 : W4.cell? ⟨w.heap.size, 0, none⟩ = some (.int .i64 n) := row_at r_a4.out 0
  have a_a4_0 : ∀ o, (W4.alloc o).cell? ⟨w.heap.size, 0, none⟩ = some (.int .i64 n) := fun o => keepR c_a4_0 ((Below.refl _ _).alloc (Nat.le_refl _) o)
  have c_a4_1 : W4.cell? ⟨w.heap.size, 1, none⟩ = some (.slice ao0 hs.length cap0) := row_at r_a4.out 1
  have a_a4_1 : ∀ o, (W4.alloc o).cell? ⟨w.heap.size, 1, none⟩ = some (.slice ao0 hs.length cap0) := fun o => keepR c_a4_1 ((Below.refl _ _).alloc (Nat.le_refl _) o)
  clear r_a3 c_a3_0 c_a3_1 a_a3_0 a_a3_1 o_t3
  go_wp2_with fail
  refine (q1 W4 _ _ o_t4.out.sl o_tl4.out.sl).mono ?_
  rintro e W5 ⟨v_wv, rfl, o_wv5, b5⟩
  obtain ⟨ao_wv, L_wv, cap_wv, rfl, hL_wv, hM_wv⟩ := o_wv5.form
  have o_wv5 : Hid (Own W5 W4.heap.size W5.heap.size 9 (.slice ao_wv L_wv cap_wv) (ss R)) := o_wv5
  clear hL_wv hM_wv
  have z5 : W4.heap.size ≤ W5.heap.size := b5.size
  have B5 : Hid (Below w.heap.size w W5) := B4.out.trans (b5.mono B4.out.size)
  have r_a5 : Hid (W5.heap[w.heap.size]? = some (.cells #[.int .i64 n, .slice ao0 hs.length cap0] 32 (0, 0))) := rowKeep r_a4.out b5
  have o_t5 : Hid (Own W5 (W2.heap.size) (W3.heap.size) 9 (.slice ao_t L_t cap_t) (ss hs)) := Own.later o_t4.out b5 (by omega)
  have o_tl5 : Hid (Own W5 (W3.heap.size) (W4.heap.size) 9 (.slice ao_tl L_tl cap_tl) (ss l)) := Own.later o_tl4.out b5 (by omega)
  have c_a5_0 : W5.cell? ⟨w.heap.size, 0, none⟩ = some (.int .i64 n) := row_at r_a5.out 0
  have a_a5_0 : ∀ o, (W5.alloc o).cell? ⟨w.heap.size, 0, none⟩ = some (.int .i64 n) := fun o => keepR c_a5_0 ((Below.refl _ _).alloc (Nat.le_refl _) o)
  have c_a5_1 : W5.cell? ⟨w.heap.size, 1, none⟩ = some (.slice ao0 hs.length cap0) := row_at r_a5.out 1
  have a_a5_1 : ∀ o, (W5.alloc o).cell? ⟨w.heap.size, 1, none⟩ = some (.slice ao0 hs.length cap0) := fun o => keepR c_a5_1 ((Below.refl _ _).alloc (Nat.le_refl _) o)
  clear r_a4 c_a4_0 c_a4_1 a_a4_0 a_a4_1 o_t4 o_tl4
  clear o_t5
  clear o_tl5
  obtain ⟨W6, HW6, b6, y6, r_w06⟩ : ∃ X, Hid ((W5.alloc (.cells #[.int .i64 n', .slice ao_wv L_wv cap_wv] 25)) = X) ∧ Below W5.heap.size W5 X ∧ W5.heap.size + 1 ≤ X.heap.size ∧ Hid (X.heap[W5.heap.size]? = some (.cells #[.int .i64 n', .slice ao_wv L_wv cap_wv] 25 (0, 0))) := ⟨_, rfl, (Below.refl _ _).alloc (Nat.le_refl _) _, by simp, heap_alloc_new _ _⟩
  have z6 : W5.heap.size ≤ W6.heap.size := b6.size
  have B6 : Hid (Below w.heap.size w W6) := B5.out.trans (b6.mono B5.out.size)
  have r_a6 : Hid (W6.heap[w.heap.size]? = some (.cells #[.int .i64 n, .slice ao0 hs.length cap0] 32 (0, 0))) := rowKeep r_a5.out b6
  have o_wv6 : Hid (Own W6 (W4.heap.size) (W5.heap.size) 9 (.slice ao_wv L_wv cap_wv) (ss R)) := Own.later o_wv5.out b6 (by omega)
  have c_a6_0 : W6.cell? ⟨w.heap.size, 0, none⟩ = some (.int .i64 n) := row_at r_a6.out 0
  have a_a6_0 : ∀ o, (W6.alloc o).cell? ⟨w.heap.size, 0, none⟩ = some (.int .i64 n) := fun o => keepR c_a6_0 ((Below.refl _ _).alloc (Nat.le_refl _) o)
  have c_a6_1 : W6.cell? ⟨w.heap.size, 1, none⟩ = some (.slice ao0 hs.length cap0) := row_at r_a6.out 1
  have a_a6_1 : ∀ o, (W6.alloc o).cell? ⟨w.heap.size, 1, none⟩ = some (.slice ao0 hs.length cap0) := fun o => keepR c_a6_1 ((Below.refl _ _).alloc (Nat.le_refl _) o)
  have c_w06_0 : W6.cell? ⟨W5.heap.size, 0, none⟩ = some (.int .i64 n') := row_at r_w06.out 0
  have a_w06_0 : ∀ o, (W6.alloc o).cell? ⟨W5.heap.size, 0, none⟩ = some (.int .i64 n') := fun o => keepR c_w06_0 ((Below.refl _ _).alloc (Nat.le_refl _) o)
  have c_w06_1 : W6.cell? ⟨W5.heap.size, 1, none⟩ = some (.slice ao_wv L_wv cap_wv) := row_at r_w06.out 1
  have a_w06_1 : ∀ o, (W6.alloc o).cell? ⟨W5.heap.size, 1, none⟩ = some (.slice ao_wv L_wv cap_wv) := fun o => keepR c_w06_1 ((Below.refl _ _).alloc (Nat.le_refl _) o)
  clear r_a5 c_a5_0 c_a5_1 o_wv5
  go_wp2_with fail
  rw [HW6.out]
  clear a_a5_0 a_a5_1
  refine (to_edge W6 n _ hs (HS.out.later B6.out) (by omega)).mono ?_
  rintro e W7 ⟨v_x, rfl, o_x7, b7⟩
  obtain ⟨ao_x, L_x, cap_x, rfl, hL_x, hM_x⟩ := o_x7.form
  have o_x7 : Hid (Own W7 W6.heap.size W7.heap.size 9 (.slice ao_x L_x cap_x) (ss hs)) := o_x7
  clear hL_x hM_x
  have z7 : W6.heap.size ≤ W7.heap.size := b7.size
  have B7 : Hid (Below w.heap.size w W7) := B6.out.trans (b7.mono B6.out.size)
  have r_a7 : Hid (W7.heap[w.heap.size]? = some (.cells #[.int .i64 n, .slice ao0 hs.length cap0] 32 (0, 0))) := rowKeep r_a6.out b7
  have r_w07 : Hid (W7.heap[W5.heap.size]? = some (.cells #[.int .i64 n', .slice ao_wv L_wv cap_wv] 25 (0, 0))) := rowKeep r_w06.out b7
  have o_wv7 : Hid (Own W7 (W4.heap.size) (W5.heap.size) 9 (.slice ao_wv L_wv cap_wv) (ss R)) := Own.later o_wv6.out b7 (by omega)
  have c_a7_0 : W7.cell? ⟨w.heap.size, 0, none⟩ = some (.int .i64 n) := row_at r_a7.out 0
  have a_a7_0 : ∀ o, (W7.alloc o).cell? ⟨w.heap.size, 0, none⟩ = some (.int .i64 n) := fun o => keepR c_a7_0 ((Below.refl _ _).alloc (Nat.le_refl _) o)
  have c_a7_1 : W7.cell? ⟨w.heap.size, 1, none⟩ = some (.slice ao0 hs.length cap0) := row_at r_a7.out 1
  have a_a7_1 : ∀ o, (W7.alloc o).cell? ⟨w.heap.size, 1, none⟩ = some (.slice ao0 hs.length cap0) := fun o => keepR c_a7_1 ((Below.refl _ _).alloc (Nat.le_refl _) o)
  have c_w07_0 : W7.cell? ⟨W5.heap.size, 0, none⟩ = some (.int .i64 n') := row_at r_w07.out 0
  have a_w07_0 : ∀ o, (W7.alloc o).cell? ⟨W5.heap.size, 0, none⟩ = some (.int .i64 n') := fun o => keepR c_w07_0 ((Below.refl _ _).alloc (Nat.le_refl _) o)
  have c_w07_1 : W7.cell? ⟨W5.heap.size, 1, none⟩ = some (.slice ao_wv L_wv cap_wv) := row_at r_w07.out 1
  have a_w07_1 : ∀ o, (W7.alloc o).cell? ⟨W5.heap.size, 1, none⟩ = some (.slice ao_wv L_wv cap_wv) := fun o => keepR c_w07_1 ((Below.refl _ _).alloc (Nat.le_refl _) o)
  clear r_a6 c_a6_0 c_a6_1 a_a6_0 a_a6_1 r_w06 c_w06_0 c_w06_1 a_w06_0 a_w06_1 o_wv6
  obtain ⟨W8, HW8, b8, y8, r_x08⟩ : ∃ X, Hid ((W7.alloc (.cells #[.int .i64 n, .slice ao_x L_x cap_x] 25)) = X) ∧ Below W7.heap.size W7 X ∧ W7.heap.size + 1 ≤ X.heap.size ∧ Hid (X.heap[W7.heap.size]? = some (.cells #[.int .i64 n, .slice ao_x L_x cap_x] 25 (0, 0))) := ⟨_, rfl, (Below.refl _ _).alloc (Nat.le_refl _) _, by simp, heap_alloc_new _ _⟩
  have z8 : W7.heap.size ≤ W8.heap.size := b8.size
  have B8 : Hid (Below w.heap.size w W8) := B7.out.trans (b8.mono B7.out.size)
  have r_a8 : Hid (W8.heap[w.heap.size]? = some (.cells #[.int .i64 n, .slice ao0 hs.length cap0] 32 (0, 0))) := rowKeep r_a7.out b8
  have r_w08 : Hid (W8.heap[W5.heap.size]? = some (.cells #[.int .i64 n', .slice ao_wv L_wv cap_wv] 25 (0, 0))) := rowKeep r_w07.out b8
  have o_wv8 : Hid (Own W8 (W4.heap.size) (W5.heap.size) 9 (.slice ao_wv L_wv cap_wv) (ss R)) := Own.later o_wv7.out b8 (by omega)
  have o_x8 : Hid (Own W8 (W6.heap.size) (W7.heap.size) 9 (.slice ao_x L_x cap_x) (ss hs)) := Own.later o_x7.out b8 (by omega)
  have c_a8_0 : W8.cell? ⟨w.heap.size, 0, none⟩ = some (.int .i64 n) := row_at r_a8.out 0
  have a_a8_0 : ∀ o, (W8.alloc o).cell? ⟨w.heap.size, 0, none⟩ = some (.int .i64 n) := fun o => keepR c_a8_0 ((Below.refl _ _).alloc (Nat.le_refl _) o)
  have c_a8_1 : W8.cell? ⟨w.heap.size, 1, none⟩ = some (.slice ao0 hs.length cap0) := row_at r_a8.out 1
  have a_a8_1 : ∀ o, (W8.alloc o).cell? ⟨w.heap.size, 1, none⟩ = some (.slice ao0 hs.length cap0) := fun o => keepR c_a8_1 ((Below.refl _ _).alloc (Nat.le_refl _) o)
  have c_w08_0 : W8.cell? ⟨W5.heap.size, 0, none⟩ = some (.int .i64 n') := row_at r_w08.out 0
  have a_w08_0 : ∀ o, (W8.alloc o).cell? ⟨W5.heap.size, 0, none⟩ = some (.int .i64 n') := fun o => keepR c_w08_0 ((Below.refl _ _).alloc (Nat.le_refl _) o)
  have c_w08_1 : W8.cell? ⟨W5.heap.size, 1, none⟩ = some (.slice ao_wv L_wv cap_wv) := row_at r_w08.out 1
  have a_w08_1 : ∀ o, (W8.alloc o).cell? ⟨W5.heap.size, 1, none⟩ = some (.slice ao_wv L_wv cap_wv) := fun o => keepR c_w08_1 ((Below.refl _ _).alloc (Nat.le_refl _) o)
  have c_x08_0 : W8.cell? ⟨W7.heap.size, 0, none⟩ = some (.int .i64 n) := row_at r_x08.out 0
  have a_x08_0 : ∀ o, (W8.alloc o).cell? ⟨W7.heap.size, 0, none⟩ = some (.int .i64 n) := fun o => keepR c_x08_0 ((Below.refl _ _).alloc (Nat.le_refl _) o)
  have c_x08_1 : W8.cell? ⟨W7.heap.size, 1, none⟩ = some (.slice ao_x L_x cap_x) := row_at r_x08.out 1
  have a_x08_1 : ∀ o, (W8.alloc o).cell? ⟨W7.heap.size, 1, none⟩ = some (.slice ao_x L_x cap_x) := fun o => keepR c_x08_1 ((Below.refl _ _).alloc (Nat.le_refl _) o)
  clear r_a7 c_a7_0 c_a7_1 r_w07 c_w07_0 c_w07_1 o_wv7 o_x7
  go_wp2_with fail
  rw [HW8.out]
  clear a_a7_0 a_a7_1 a_w07_0 a_w07_1
  refine (Strs.to_s W8 _ l (HSL.out.later B8.out) (by omega)).mono ?_
  rintro e W9 ⟨v_xl, rfl, o_xl9, b9⟩
  obtain ⟨ao_xl, L_xl, cap_xl, rfl, hL_xl, hM_xl⟩ := o_xl9.form
  have o_xl9 : Hid (Own W9 W8.heap.size W9.heap.size 9 (.slice ao_xl L_xl cap_xl) (ss l)) := o_xl9
  clear hL_xl hM_xl
  have z9 : W8.heap.size ≤ W9.heap.size := b9.size
  have B9 : Hid (Below w.heap.size w W9) := B8.out.trans (b9.mono B8.out.size)
  have r_a9 : Hid (W9.heap[w.heap.size]? = some (.cells #[.int .i64 n, .slice ao0 hs.length cap0] 32 (0, 0))) := rowKeep r_a8.out b9
  have r_w09 : Hid (W9.heap[W5.heap.size]? = some (.cells #[.int .i64 n', .slice ao_wv L_wv cap_wv] 25 (0, 0))) := rowKeep r_w08.out b9
  have r_x09 : Hid (W9.heap[W7.heap.size]? = some (.cells #[.int .i64 n, .slice ao_x L_x cap_x] 25 (0, 0))) := rowKeep r_x08.out b9
  have o_wv9 : Hid (Own W9 (W4.heap.size) (W5.heap.size) 9 (.slice ao_wv L_wv cap_wv) (ss R)) := Own.later o_wv8.out b9 (by omega)
  have o_x9 : Hid (Own W9 (W6.heap.size) (W7.heap.size) 9 (.slice ao_x L_x cap_x) (ss hs)) := Own.later o_x8.out b9 (by omega)
  have c_a9_0 : W9.cell? ⟨w.heap.size, 0, none⟩ = some (.int .i64 n) := row_at r_a9.out 0
  have a_a9_0 : ∀ o, (W9.alloc o).cell? ⟨w.heap.size, 0, none⟩ = some (.int .i64 n) := fun o => keepR c_a9_0 ((Below.refl _ _).alloc (Nat.le_refl _) o)
  have c_a9_1 : W9.cell? ⟨w.heap.size, 1, none⟩ = some (.slice ao0 hs.length cap0) := row_at r_a9.out 1
  have a_a9_1 : ∀ o, (W9.alloc o).cell? ⟨w.heap.size, 1, none⟩ = some (.slice ao0 hs.length cap0) := fun o => keepR c_a9_1 ((Below.refl _ _).alloc (Nat.le_refl _) o)
  have c_w09_0 : W9.cell? ⟨W5.heap.size, 0, none⟩ = some (.int .i64 n') := row_at r_w09.out 0
  have a_w09_0 : ∀ o, (W9.alloc o).cell? ⟨W5.heap.size, 0, none⟩ = some (.int .i64 n') := fun o => keepR c_w09_0 ((Below.refl _ _).alloc (Nat.le_refl _) o)
  have c_w09_1 : W9.cell? ⟨W5.heap.size, 1, none⟩ = some (.slice ao_wv L_wv cap_wv) := row_at r_w09.out 1
  have a_w09_1 : ∀ o, (W9.alloc o).cell? ⟨W5.heap.size, 1, none⟩ = some (.slice ao_wv L_wv cap_wv) := fun o => keepR c_w09_1 ((Below.refl _ _).alloc (Nat.le_refl _) o)
  have c_x09_0 : W9.cell? ⟨W7.heap.size, 0, none⟩ = some (.int .i64 n) := row_at r_x09.out 0
  have a_x09_0 : ∀ o, (W9.alloc o).cell? ⟨W7.heap.size, 0, none⟩ = some (.int .i64 n) := fun o => keepR c_x09_0 ((Below.refl _ _).alloc (Nat.le_refl _) o)
  have c_x09_1 : W9.cell? ⟨W7.heap.size, 1, none⟩ = some (.slice ao_x L_x cap_x) := row_at r_x09.out 1
  have a_x09_1 : ∀ o, (W9.alloc o).cell? ⟨W7.heap.size, 1, none⟩ = some (.slice ao_x L_x cap_x) := fun o => keepR c_x09_1 ((Below.refl _ _).alloc (Nat.le_refl _) o)
  clear r_a8 c_a8_0 c_a8_1 a_a8_0 a_a8_1 r_w08 c_w08_0 c_w08_1 a_w08_0 a_w08_1 r_x08 c_x08_0 c_x08_1 a_x08_0 a_x08_1 o_wv8 o_x8
  go_wp2_with fail
  refine (q2 W9 _ _ B9.out o_x9.out.sl o_xl9.out.sl).mono ?_
  rintro e W10 ⟨v_gv, rfl, o_gv10, b10⟩
  obtain ⟨ao_gv, L_gv, cap_gv, rfl, hL_gv, hM_gv⟩ := o_gv10.form
  have o_gv10 : Hid (Own W10 W9.heap.size W10.heap.size 9 (.slice ao_gv L_gv cap_gv) (ss R)) := o_gv10
  clear hL_gv hM_gv
  have z10 : W9.heap.size ≤ W10.heap.size := b10.size
  have B10 : Hid (Below w.heap.size w W10) := B9.out.trans (b10.mono B9.out.size)
  have r_a10 : Hid (W10.heap[w.heap.size]? = some (.cells #[.int .i64 n, .slice ao0 hs.length cap0] 32 (0, 0))) := rowKeep r_a9.out b10
  have r_w010 : Hid (W10.heap[W5.heap.size]? = some (.cells #[.int .i64 n', .slice ao_wv L_wv cap_wv] 25 (0, 0))) := rowKeep r_w09.out b10
  have r_x010 : Hid (W10.heap[W7.heap.size]? = some (.cells #[.int .i64 n, .slice ao_x L_x cap_x] 25 (0, 0))) := rowKeep r_x09.out b10
  have o_wv10 : Hid (Own W10 (W4.heap.size) (W5.heap.size) 9 (.slice ao_wv L_wv cap_wv) (ss R)) := Own.later o_wv9.out b10 (by omega)
  have o_x10 : Hid (Own W10 (W6.heap.size) (W7.heap.size) 9 (.slice ao_x L_x cap_x) (ss hs)) := Own.later o_x9.out b10 (by omega)
  have o_xl10 : Hid (Own W10 (W8.heap.size) (W9.heap.size) 9 (.slice ao_xl L_xl cap_xl) (ss l)) := Own.later o_xl9.out b10 (by omega)
  have c_a10_0 : W10.cell? ⟨w.heap.size, 0, none⟩ = some (.int .i64 n) := row_at r_a10.out 0
  have a_a10_0 : ∀ o, (W10.alloc o).cell? ⟨w.heap.size, 0, none⟩ = some (.int .i64 n) := fun o => keepR c_a10_0 ((Below.refl _ _).alloc (Nat.le_refl _) o)
  have c_a10_1 : W10.cell? ⟨w.heap.size, 1, none⟩ = some (.slice ao0 hs.length cap0) := row_at r_a10.out 1
  have a_a10_1 : ∀ o, (W10.alloc o).cell? ⟨w.heap.size, 1, none⟩ = some (.slice ao0 hs.length cap0) := fun o => keepR c_a10_1 ((Below.refl _ _).alloc (Nat.le_refl _) o)
  have c_w010_0 : W10.cell? ⟨W5.heap.size, 0, none⟩ = some (.int .i64 n') := row_at r_w010.out 0
  have a_w010_0 : ∀ o, (W10.alloc o).cell? ⟨W5.heap.size, 0, none⟩ = some (.int .i64 n') := fun o => keepR c_w010_0 ((Below.refl _ _).alloc (Nat.le_refl _) o)
  have c_w010_1 : W10.cell? ⟨W5.heap.size, 1, none⟩ = some (.slice ao_wv L_wv cap_wv) := row_at r_w010.out 1
  have a_w010_1 : ∀ o, (W10.alloc o).cell? ⟨W5.heap.size, 1, none⟩ = some (.slice ao_wv L_wv cap_wv) := fun o => keepR c_w010_1 ((Below.refl _ _).alloc (Nat.le_refl _) o)
  have c_x010_0 : W10.cell? ⟨W7.heap.size, 0, none⟩ = some (.int .i64 n) := row_at r_x010.out 0
  have a_x010_0 : ∀ o, (W10.alloc o).cell? ⟨W7.heap.size, 0, none⟩ = some (.int .i64 n) := fun o => keepR c_x010_0 ((Below.refl _ _).alloc (Nat.le_refl _) o)
  have c_x010_1 : W10.cell? ⟨W7.heap.size, 1, none⟩ = some (.slice ao_x L_x cap_x) := row_at r_x010.out 1
  have a_x010_1 : ∀ o, (W10.alloc o).cell? ⟨W7.heap.size, 1, none⟩ = some (.slice ao_x L_x cap_x) := fun o => keepR c_x010_1 ((Below.refl _ _).alloc (Nat.le_refl _) o)
  clear r_a9 c_a9_0 c_a9_1 a_a9_0 a_a9_1 r_w09 c_w09_0 c_w09_1 a_w09_0 a_w09_1 r_x09 c_x09_0 c_x09_1 a_x09_0 a_x09_1 o_wv9 o_x9 o_xl9
  obtain ⟨W11, HW11, b11, y11, r_g011⟩ : ∃ X, Hid ((W10.alloc (.cells #[.int .i64 n', .slice ao_gv L_gv cap_gv] 25)) = X) ∧ Below W10.heap.size W10 X ∧ W10.heap.size + 1 ≤ X.heap.size ∧ Hid (X.heap[W10.heap.size]? = some (.cells #[.int .i64 n', .slice ao_gv L_gv cap_gv] 25 (0, 0))) := ⟨_, rfl, (Below.refl _ _).alloc (Nat.le_refl _) _, by simp, heap_alloc_new _ _⟩
  have z11 : W10.heap.size ≤ W11.heap.size := b11.size
  have B11 : Hid (Below w.heap.size w W11) := B10.out.trans (b11.mono B10.out.size)
  have r_a11 : Hid (W11.heap[w.heap.size]? = some (.cells #[.int .i64 n, .slice ao0 hs.length cap0] 32 (0, 0))) := rowKeep r_a10.out b11
  have r_w011 : Hid (W11.heap[W5.heap.size]? = some (.cells #[.int .i64 n', .slice ao_wv L_wv cap_wv] 25 (0, 0))) := rowKeep r_w010.out b11
  have r_x011 : Hid (W11.heap[W7.heap.size]? = some (.cells #[.int .i64 n, .slice ao_x L_x cap_x] 25 (0, 0))) := rowKeep r_x010.out b11
  have o_wv11 : Hid (Own W11 (W4.heap.size) (W5.heap.size) 9 (.slice ao_wv L_wv cap_wv) (ss R)) := Own.later o_wv10.out b11 (by omega)
  have o_x11 : Hid (Own W11 (W6.heap.size) (W7.heap.size) 9 (.slice ao_x L_x cap_x) (ss hs)) := Own.later o_x10.out b11 (by omega)
  have o_xl11 : Hid (Own W11 (W8.heap.size) (W9.heap.size) 9 (.slice ao_xl L_xl cap_xl) (ss l)) := Own.later o_xl10.out b11 (by omega)
  have o_gv11 : Hid (Own W11 (W9.heap.size) (W10.heap.size) 9 (.slice ao_gv L_gv cap_gv) (ss R)) := Own.later o_gv10.out b11 (by omega)
  have c_a11_0 : W11.cell? ⟨w.heap.size, 0, none⟩ = some (.int .i64 n) := row_at r_a11.out 0
  have a_a11_0 : ∀ o, (W11.alloc o).cell? ⟨w.heap.size, 0, none⟩ = some (.int .i64 n) := fun o => keepR c_a11_0 ((Below.refl _ _).alloc (Nat.le_refl _) o)
  have c_a11_1 : W11.cell? ⟨w.heap.size, 1, none⟩ = some (.slice ao0 hs.length cap0) := row_at r_a11.out 1
  have a_a11_1 : ∀ o, (W11.alloc o).cell? ⟨w.heap.size, 1, none⟩ = some (.slice ao0 hs.length cap0) := fun o => keepR c_a11_1 ((Below.refl _ _).alloc (Nat.le_refl _) o)
  have c_w011_0 : W11.cell? ⟨W5.heap.size, 0, none⟩ = some (.int .i64 n') := row_at r_w011.out 0
  have a_w011_0 : ∀ o, (W11.alloc o).cell? ⟨W5.heap.size, 0, none⟩ = some (.int .i64 n') := fun o => keepR c_w011_0 ((Below.refl _ _).alloc (Nat.le_refl _) o)
  have c_w011_1 : W11.cell? ⟨W5.heap.size, 1, none⟩ = some (.slice ao_wv L_wv cap_wv) := row_at r_w011.out 1
  have a_w011_1 : ∀ o, (W11.alloc o).cell? ⟨W5.heap.size, 1, none⟩ = some (.slice ao_wv L_wv cap_wv) := fun o => keepR c_w011_1 ((Below.refl _ _).alloc (Nat.le_refl _) o)
  have c_x011_0 : W11.cell? ⟨W7.heap.size, 0, none⟩ = some (.int .i64 n) := row_at r_x011.out 0
  have a_x011_0 : ∀ o, (W11.alloc o).cell? ⟨W7.heap.size, 0, none⟩ = some (.int .i64 n) := fun o => keepR c_x011_0 ((Below.refl _ _).alloc (Nat.le_refl _) o)
  have c_x011_1 : W11.cell? ⟨W7.heap.size, 1, none⟩ = some (.slice ao_x L_x cap_x) := row_at r_x011.out 1
  have a_x011_1 : ∀ o, (W11.alloc o).cell? ⟨W7.heap.size, 1, none⟩ = some (.slice ao_x L_x cap_x) := fun o => keepR c_x011_1 ((Below.refl _ _).alloc (Nat.le_refl _) o)
  have c_g011_0 : W11.cell? ⟨W10.heap.size, 0, none⟩ = some (.int .i64 n') := row_at r_g011.out 0
  have a_g011_0 : ∀ o, (W11.alloc o).cell? ⟨W10.heap.size, 0, none⟩ = some (.int .i64 n') := fun o => keepR c_g011_0 ((Below.refl _ _).alloc (Nat.le_refl _) o)
  have c_g011_1 : W11.cell? ⟨W10.heap.size, 1, none⟩ = some (.slice ao_gv L_gv cap_gv) := row_at r_g011.out 1
  have a_g011_1 : ∀ o, (W11.alloc o).cell? ⟨W10.heap.size, 1, none⟩ = some (.slice ao_gv L_gv cap_gv) := fun o => keepR c_g011_1 ((Below.refl _ _).alloc (Nat.le_refl _) o)
  clear r_a10 c_a10_0 c_a10_1 r_w010 c_w010_0 c_w010_1 r_x010 c_x010_0 c_x010_1 o_wv10 o_x10 o_xl10 o_gv10
  go_wp2_with fail
  rw [HW11.out]
  clear a_a10_0 a_a10_1 a_w010_0 a_w010_1 a_x010_0 a_x010_1
  refine (eq_edge W11 n' _ _ R o_gv11.out.sl o_wv11.out.sl (by omega)).mono ?_
  rintro e W12 ⟨rfl, b12⟩
  have z12 : W11.heap.size ≤ W12.heap.size := b12.size
  have B12 : Hid (Below w.heap.size w W12) := B11.out.trans (b12.mono B11.out.size)
  have r_a12 : Hid (W12.heap[w.heap.size]? = some (.cells #[.int .i64 n, .slice ao0 hs.length cap0] 32 (0, 0))) := rowKeep r_a11.out b12
  have r_w012 : Hid (W12.heap[W5.heap.size]? = some (.cells #[.int .i64 n', .slice ao_wv L_wv cap_wv] 25 (0, 0))) := rowKeep r_w011.out b12
  have r_x012 : Hid (W12.heap[W7.heap.size]? = some (.cells #[.int .i64 n, .slice ao_x L_x cap_x] 25 (0, 0))) := rowKeep r_x011.out b12
  have r_g012 : Hid (W12.heap[W10.heap.size]? = some (.cells #[.int .i64 n', .slice ao_gv L_gv cap_gv] 25 (0, 0))) := rowKeep r_g011.out b12
  have o_wv12 : Hid (Own W12 (W4.heap.size) (W5.heap.size) 9 (.slice ao_wv L_wv cap_wv) (ss R)) := Own.later o_wv11.out b12 (by omega)
  have o_x12 : Hid (Own W12 (W6.heap.size) (W7.heap.size) 9 (.slice ao_x L_x cap_x) (ss hs)) := Own.later o_x11.out b12 (by omega)
  have o_xl12 : Hid (Own W12 (W8.heap.size) (W9.heap.size) 9 (.slice ao_xl L_xl cap_xl) (ss l)) := Own.later o_xl11.out b12 (by omega)
  have o_gv12 : Hid (Own W12 (W9.heap.size) (W10.heap.size) 9 (.slice ao_gv L_gv cap_gv) (ss R)) := Own.later o_gv11.out b12 (by omega)
  have c_a12_0 : W12.cell? ⟨w.heap.size, 0, none⟩ = some (.int .i64 n) := row_at r_a12.out 0
  have a_a12_0 : ∀ o, (W12.alloc o).cell? ⟨w.heap.size, 0, none⟩ = some (.int .i64 n) := fun o => keepR c_a12_0 ((Below.refl _ _).alloc (Nat.le_refl _) o)
  have c_a12_1 : W12.cell? ⟨w.heap.size, 1, none⟩ = some (.slice ao0 hs.length cap0) := row_at r_a12.out 1
  have a_a12_1 : ∀ o, (W12.alloc o).cell? ⟨w.heap.size, 1, none⟩ = some (.slice ao0 hs.length cap0) := fun o => keepR c_a12_1 ((Below.refl _ _).alloc (Nat.le_refl _) o)
  have c_w012_0 : W12.cell? ⟨W5.heap.size, 0, none⟩ = some (.int .i64 n') := row_at r_w012.out 0
  have a_w012_0 : ∀ o, (W12.alloc o).cell? ⟨W5.heap.size, 0, none⟩ = some (.int .i64 n') := fun o => keepR c_w012_0 ((Below.refl _ _).alloc (Nat.le_refl _) o)
  have c_w012_1 : W12.cell? ⟨W5.heap.size, 1, none⟩ = some (.slice ao_wv L_wv cap_wv) := row_at r_w012.out 1
  have a_w012_1 : ∀ o, (W12.alloc o).cell? ⟨W5.heap.size, 1, none⟩ = some (.slice ao_wv L_wv cap_wv) := fun o => keepR c_w012_1 ((Below.refl _ _).alloc (Nat.le_refl _) o)
  have c_x012_0 : W12.cell? ⟨W7.heap.size, 0, none⟩ = some (.int .i64 n) := row_at r_x012.out 0
  have a_x012_0 : ∀ o, (W12.alloc o).cell? ⟨W7.heap.size, 0, none⟩ = some (.int .i64 n) := fun o => keepR c_x012_0 ((Below.refl _ _).alloc (Nat.le_refl _) o)
  have c_x012_1 : W12.cell? ⟨W7.heap.size, 1, none⟩ = some (.slice ao_x L_x cap_x) := row_at r_x012.out 1
  have a_x012_1 : ∀ o, (W12.alloc o).cell? ⟨W7.heap.size, 1, none⟩ = some (.slice ao_x L_x cap_x) := fun o => keepR c_x012_1 ((Below.refl _ _).alloc (Nat.le_refl _) o)
  have c_g012_0 : W12.cell? ⟨W10.heap.size, 0, none⟩ = some (.int .i64 n') := row_at r_g012.out 0
  have a_g012_0 : ∀ o, (W12.alloc o).cell? ⟨W10.heap.size, 0, none⟩ = some (.int .i64 n') := fun o => keepR c_g012_0 ((Below.refl _ _).alloc (Nat.le_refl _) o)
  have c_g012_1 : W12.cell? ⟨W10.heap.size, 1, none⟩ = some (.slice ao_gv L_gv cap_gv) := row_at r_g012.out 1
  have a_g012_1 : ∀ o, (W12.alloc o).cell? ⟨W10.heap.size, 1, none⟩ = some (.slice ao_gv L_gv cap_gv) := fun o => keepR c_g012_1 ((Below.refl _ _).alloc (Nat.le_refl _) o)
  clear r_a11 c_a11_0 c_a11_1 a_a11_0 a_a11_1 r_w011 c_w011_0 c_w011_1 a_w011_0 a_w011_1 r_x011 c_x011_0 c_x011_1 a_x011_0 a_x011_1 r_g011 c_g011_0 c_g011_1 a_g011_0 a_g011_1 o_wv11 o_x11 o_xl11 o_gv11
  go_wp2_with fail
  refine wp_region_held_drew (S := fun w' => w'.cell? ⟨W7.heap.size, 0, none⟩ = some (.int .i64 n) ∧ w'.cell? ⟨W7.heap.size, 1, none⟩ = some (.slice ao_x L_x cap_x) ∧ w'.cell? ⟨w.heap.size, 0, none⟩ = some (.int .i64 n) ∧ w'.cell? ⟨w.heap.size, 1, none⟩ = some (.slice ao0 hs.length cap0)) (by kernel_rfl) ⟨c_x012_0, c_x012_1, c_a12_0, c_a12_1⟩ (fun hHeld => ?_)
  (refine wpAnyH_take (i := 0) (v := ?v0x1) rfl (by kernel_rfl) (by kernel_rfl) (by kernel_rfl) (fun _ _ _ h => h) (Or.inl ⟨by rfl, ?hy0x1⟩) (by assumption) ?rest0x1; case hy0x1 => (intro w hSw; (try dsimp only at hSw); go_split_ands; go_simp; (try with_reducible rfl)))
  try simp only [Act.put, List.setIfInBounds_toArray, List.set_cons_zero, List.set_cons_succ, List.getElem_toArray, List.getElem_cons_zero, List.getElem_cons_succ]
  (refine wpAnyH_take (i := 1) (v := ?v1x2) rfl (by kernel_rfl) (by kernel_rfl) (by kernel_rfl) (fun _ _ _ h => h) (Or.inl ⟨by rfl, ?hy1x2⟩) (by assumption) ?rest1x2; case hy1x2 => (intro w hSw; (try dsimp only at hSw); go_split_ands; go_simp; (try with_reducible rfl)))
  try simp only [Act.put, List.setIfInBounds_toArray, List.set_cons_zero, List.set_cons_succ, List.getElem_toArray, List.getElem_cons_zero, List.getElem_cons_succ]
  refine wpAnyH_ready (rs := [2]) (by kernel_rfl) (by simp) ?_
  refine AllReadyH.cons rfl (fun K hK => ?_) AllReadyH.nil
  go_simp
  refine (to_edge W12.drew n _ hs (HS.out.later (Below.drew B12.out)) (by omega)).mono ?_
  rintro e W13 ⟨v_u, rfl, o_u13, b13⟩
  have b13 : Below W12.heap.size W12 W13 := (Below.drew (Below.refl _ _)).trans b13
  refine hK.out _ _ ⟨keepR (W := W12) hHeld.1 b13, keepR (W := W12) hHeld.2.1 b13, keepR (W := W12) hHeld.2.2.1 b13, keepR (W := W12) hHeld.2.2.2 b13⟩ (fun hHeld => ?_)
  clear hK K
  try simp only [Act.put, List.setIfInBounds_toArray, List.set_cons_zero, List.set_cons_succ, List.getElem_toArray, List.getElem_cons_zero, List.getElem_cons_succ]
  have o_u13 : Own W13 W12.heap.size W13.heap.size 9 _ _ := o_u13
  obtain ⟨ao_u, L_u, cap_u, rfl, hL_u, hM_u⟩ := o_u13.form
  have o_u13 : Hid (Own W13 W12.heap.size W13.heap.size 9 (.slice ao_u L_u cap_u) (ss hs)) := o_u13
  clear hL_u hM_u
  have z13 : W12.heap.size ≤ W13.heap.size := b13.size
  have B13 : Hid (Below w.heap.size w W13) := B12.out.trans (b13.mono B12.out.size)
  have r_a13 : Hid (W13.heap[w.heap.size]? = some (.cells #[.int .i64 n, .slice ao0 hs.length cap0] 32 (0, 0))) := rowKeep r_a12.out b13
  have r_w013 : Hid (W13.heap[W5.heap.size]? = some (.cells #[.int .i64 n', .slice ao_wv L_wv cap_wv] 25 (0, 0))) := rowKeep r_w012.out b13
  have r_x013 : Hid (W13.heap[W7.heap.size]? = some (.cells #[.int .i64 n, .slice ao_x L_x cap_x] 25 (0, 0))) := rowKeep r_x012.out b13
  have r_g013 : Hid (W13.heap[W10.heap.size]? = some (.cells #[.int .i64 n', .slice ao_gv L_gv cap_gv] 25 (0, 0))) := rowKeep r_g012.out b13
  have o_wv13 : Hid (Own W13 (W4.heap.size) (W5.heap.size) 9 (.slice ao_wv L_wv cap_wv) (ss R)) := Own.later o_wv12.out b13 (by omega)
  have o_x13 : Hid (Own W13 (W6.heap.size) (W7.heap.size) 9 (.slice ao_x L_x cap_x) (ss hs)) := Own.later o_x12.out b13 (by omega)
  have o_xl13 : Hid (Own W13 (W8.heap.size) (W9.heap.size) 9 (.slice ao_xl L_xl cap_xl) (ss l)) := Own.later o_xl12.out b13 (by omega)
  have o_gv13 : Hid (Own W13 (W9.heap.size) (W10.heap.size) 9 (.slice ao_gv L_gv cap_gv) (ss R)) := Own.later o_gv12.out b13 (by omega)
  have c_a13_0 : W13.cell? ⟨w.heap.size, 0, none⟩ = some (.int .i64 n) := row_at r_a13.out 0
  have a_a13_0 : ∀ o, (W13.alloc o).cell? ⟨w.heap.size, 0, none⟩ = some (.int .i64 n) := fun o => keepR c_a13_0 ((Below.refl _ _).alloc (Nat.le_refl _) o)
  have c_a13_1 : W13.cell? ⟨w.heap.size, 1, none⟩ = some (.slice ao0 hs.length cap0) := row_at r_a13.out 1
  have a_a13_1 : ∀ o, (W13.alloc o).cell? ⟨w.heap.size, 1, none⟩ = some (.slice ao0 hs.length cap0) := fun o => keepR c_a13_1 ((Below.refl _ _).alloc (Nat.le_refl _) o)
  have c_w013_0 : W13.cell? ⟨W5.heap.size, 0, none⟩ = some (.int .i64 n') := row_at r_w013.out 0
  have a_w013_0 : ∀ o, (W13.alloc o).cell? ⟨W5.heap.size, 0, none⟩ = some (.int .i64 n') := fun o => keepR c_w013_0 ((Below.refl _ _).alloc (Nat.le_refl _) o)
  have c_w013_1 : W13.cell? ⟨W5.heap.size, 1, none⟩ = some (.slice ao_wv L_wv cap_wv) := row_at r_w013.out 1
  have a_w013_1 : ∀ o, (W13.alloc o).cell? ⟨W5.heap.size, 1, none⟩ = some (.slice ao_wv L_wv cap_wv) := fun o => keepR c_w013_1 ((Below.refl _ _).alloc (Nat.le_refl _) o)
  have c_x013_0 : W13.cell? ⟨W7.heap.size, 0, none⟩ = some (.int .i64 n) := row_at r_x013.out 0
  have a_x013_0 : ∀ o, (W13.alloc o).cell? ⟨W7.heap.size, 0, none⟩ = some (.int .i64 n) := fun o => keepR c_x013_0 ((Below.refl _ _).alloc (Nat.le_refl _) o)
  have c_x013_1 : W13.cell? ⟨W7.heap.size, 1, none⟩ = some (.slice ao_x L_x cap_x) := row_at r_x013.out 1
  have a_x013_1 : ∀ o, (W13.alloc o).cell? ⟨W7.heap.size, 1, none⟩ = some (.slice ao_x L_x cap_x) := fun o => keepR c_x013_1 ((Below.refl _ _).alloc (Nat.le_refl _) o)
  have c_g013_0 : W13.cell? ⟨W10.heap.size, 0, none⟩ = some (.int .i64 n') := row_at r_g013.out 0
  have a_g013_0 : ∀ o, (W13.alloc o).cell? ⟨W10.heap.size, 0, none⟩ = some (.int .i64 n') := fun o => keepR c_g013_0 ((Below.refl _ _).alloc (Nat.le_refl _) o)
  have c_g013_1 : W13.cell? ⟨W10.heap.size, 1, none⟩ = some (.slice ao_gv L_gv cap_gv) := row_at r_g013.out 1
  have a_g013_1 : ∀ o, (W13.alloc o).cell? ⟨W10.heap.size, 1, none⟩ = some (.slice ao_gv L_gv cap_gv) := fun o => keepR c_g013_1 ((Below.refl _ _).alloc (Nat.le_refl _) o)
  clear r_a12 c_a12_0 c_a12_1 a_a12_0 a_a12_1 r_w012 c_w012_0 c_w012_1 a_w012_0 a_w012_1 r_x012 c_x012_0 c_x012_1 a_x012_0 a_x012_1 r_g012 c_g012_0 c_g012_1 a_g012_0 a_g012_1 o_wv12 o_x12 o_xl12 o_gv12
  refine wpAnyH_ready (rs := [3]) (by kernel_rfl) (by simp) ?_
  refine AllReadyH.cons rfl (fun K hK => ?_) AllReadyH.nil
  go_simp
  refine (eq_edge W13 n _ _ hs o_x13.out.sl o_u13.out.sl (by omega)).mono ?_
  rintro e W14 ⟨rfl, b14⟩
  refine hK.out _ _ ⟨keepR (W := W13) hHeld.1 b14, keepR (W := W13) hHeld.2.1 b14, keepR (W := W13) hHeld.2.2.1 b14, keepR (W := W13) hHeld.2.2.2 b14⟩ (fun hHeld => ?_)
  clear hK K
  try simp only [Act.put, List.setIfInBounds_toArray, List.set_cons_zero, List.set_cons_succ, List.getElem_toArray, List.getElem_cons_zero, List.getElem_cons_succ]
  have z14 : W13.heap.size ≤ W14.heap.size := b14.size
  have B14 : Hid (Below w.heap.size w W14) := B13.out.trans (b14.mono B13.out.size)
  have r_a14 : Hid (W14.heap[w.heap.size]? = some (.cells #[.int .i64 n, .slice ao0 hs.length cap0] 32 (0, 0))) := rowKeep r_a13.out b14
  have r_w014 : Hid (W14.heap[W5.heap.size]? = some (.cells #[.int .i64 n', .slice ao_wv L_wv cap_wv] 25 (0, 0))) := rowKeep r_w013.out b14
  have r_x014 : Hid (W14.heap[W7.heap.size]? = some (.cells #[.int .i64 n, .slice ao_x L_x cap_x] 25 (0, 0))) := rowKeep r_x013.out b14
  have r_g014 : Hid (W14.heap[W10.heap.size]? = some (.cells #[.int .i64 n', .slice ao_gv L_gv cap_gv] 25 (0, 0))) := rowKeep r_g013.out b14
  have o_wv14 : Hid (Own W14 (W4.heap.size) (W5.heap.size) 9 (.slice ao_wv L_wv cap_wv) (ss R)) := Own.later o_wv13.out b14 (by omega)
  have o_x14 : Hid (Own W14 (W6.heap.size) (W7.heap.size) 9 (.slice ao_x L_x cap_x) (ss hs)) := Own.later o_x13.out b14 (by omega)
  have o_xl14 : Hid (Own W14 (W8.heap.size) (W9.heap.size) 9 (.slice ao_xl L_xl cap_xl) (ss l)) := Own.later o_xl13.out b14 (by omega)
  have o_gv14 : Hid (Own W14 (W9.heap.size) (W10.heap.size) 9 (.slice ao_gv L_gv cap_gv) (ss R)) := Own.later o_gv13.out b14 (by omega)
  have o_u14 : Hid (Own W14 (W12.heap.size) (W13.heap.size) 9 (.slice ao_u L_u cap_u) (ss hs)) := Own.later o_u13.out b14 (by omega)
  have c_a14_0 : W14.cell? ⟨w.heap.size, 0, none⟩ = some (.int .i64 n) := row_at r_a14.out 0
  have a_a14_0 : ∀ o, (W14.alloc o).cell? ⟨w.heap.size, 0, none⟩ = some (.int .i64 n) := fun o => keepR c_a14_0 ((Below.refl _ _).alloc (Nat.le_refl _) o)
  have c_a14_1 : W14.cell? ⟨w.heap.size, 1, none⟩ = some (.slice ao0 hs.length cap0) := row_at r_a14.out 1
  have a_a14_1 : ∀ o, (W14.alloc o).cell? ⟨w.heap.size, 1, none⟩ = some (.slice ao0 hs.length cap0) := fun o => keepR c_a14_1 ((Below.refl _ _).alloc (Nat.le_refl _) o)
  have c_w014_0 : W14.cell? ⟨W5.heap.size, 0, none⟩ = some (.int .i64 n') := row_at r_w014.out 0
  have a_w014_0 : ∀ o, (W14.alloc o).cell? ⟨W5.heap.size, 0, none⟩ = some (.int .i64 n') := fun o => keepR c_w014_0 ((Below.refl _ _).alloc (Nat.le_refl _) o)
  have c_w014_1 : W14.cell? ⟨W5.heap.size, 1, none⟩ = some (.slice ao_wv L_wv cap_wv) := row_at r_w014.out 1
  have a_w014_1 : ∀ o, (W14.alloc o).cell? ⟨W5.heap.size, 1, none⟩ = some (.slice ao_wv L_wv cap_wv) := fun o => keepR c_w014_1 ((Below.refl _ _).alloc (Nat.le_refl _) o)
  have c_x014_0 : W14.cell? ⟨W7.heap.size, 0, none⟩ = some (.int .i64 n) := row_at r_x014.out 0
  have a_x014_0 : ∀ o, (W14.alloc o).cell? ⟨W7.heap.size, 0, none⟩ = some (.int .i64 n) := fun o => keepR c_x014_0 ((Below.refl _ _).alloc (Nat.le_refl _) o)
  have c_x014_1 : W14.cell? ⟨W7.heap.size, 1, none⟩ = some (.slice ao_x L_x cap_x) := row_at r_x014.out 1
  have a_x014_1 : ∀ o, (W14.alloc o).cell? ⟨W7.heap.size, 1, none⟩ = some (.slice ao_x L_x cap_x) := fun o => keepR c_x014_1 ((Below.refl _ _).alloc (Nat.le_refl _) o)
  have c_g014_0 : W14.cell? ⟨W10.heap.size, 0, none⟩ = some (.int .i64 n') := row_at r_g014.out 0
  have a_g014_0 : ∀ o, (W14.alloc o).cell? ⟨W10.heap.size, 0, none⟩ = some (.int .i64 n') := fun o => keepR c_g014_0 ((Below.refl _ _).alloc (Nat.le_refl _) o)
  have c_g014_1 : W14.cell? ⟨W10.heap.size, 1, none⟩ = some (.slice ao_gv L_gv cap_gv) := row_at r_g014.out 1
  have a_g014_1 : ∀ o, (W14.alloc o).cell? ⟨W10.heap.size, 1, none⟩ = some (.slice ao_gv L_gv cap_gv) := fun o => keepR c_g014_1 ((Below.refl _ _).alloc (Nat.le_refl _) o)
  clear r_a13 c_a13_0 c_a13_1 a_a13_0 a_a13_1 r_w013 c_w013_0 c_w013_1 a_w013_0 a_w013_1 r_x013 c_x013_0 c_x013_1 a_x013_0 a_x013_1 r_g013 c_g013_0 c_g013_1 a_g013_0 a_g013_1 o_wv13 o_x13 o_xl13 o_gv13 o_u13
  (refine wpAnyH_take (i := 4) (v := ?v4x3) rfl (by kernel_rfl) (by kernel_rfl) (by kernel_rfl) (fun _ _ _ h => h) (Or.inl ⟨by rfl, ?hy4x3⟩) (by assumption) ?rest4x3; case hy4x3 => (intro w hSw; (try dsimp only at hSw); go_split_ands; go_simp; (try with_reducible rfl)))
  try simp only [Act.put, List.setIfInBounds_toArray, List.set_cons_zero, List.set_cons_succ, List.getElem_toArray, List.getElem_cons_zero, List.getElem_cons_succ]
  refine wpAnyH_done (by kernel_rfl) ?_ _
  clear hHeld
  clear o_u14
  go_wp2_with fail
  refine (Strs.to_s W14 _ l (HSL.out.later B14.out) (by omega)).mono ?_
  rintro e W15 ⟨v_ul, rfl, o_ul15, b15⟩
  obtain ⟨ao_ul, L_ul, cap_ul, rfl, hL_ul, hM_ul⟩ := o_ul15.form
  have o_ul15 : Hid (Own W15 W14.heap.size W15.heap.size 9 (.slice ao_ul L_ul cap_ul) (ss l)) := o_ul15
  clear hL_ul hM_ul
  have z15 : W14.heap.size ≤ W15.heap.size := b15.size
  have B15 : Hid (Below w.heap.size w W15) := B14.out.trans (b15.mono B14.out.size)
  have r_a15 : Hid (W15.heap[w.heap.size]? = some (.cells #[.int .i64 n, .slice ao0 hs.length cap0] 32 (0, 0))) := rowKeep r_a14.out b15
  have r_w015 : Hid (W15.heap[W5.heap.size]? = some (.cells #[.int .i64 n', .slice ao_wv L_wv cap_wv] 25 (0, 0))) := rowKeep r_w014.out b15
  have r_x015 : Hid (W15.heap[W7.heap.size]? = some (.cells #[.int .i64 n, .slice ao_x L_x cap_x] 25 (0, 0))) := rowKeep r_x014.out b15
  have r_g015 : Hid (W15.heap[W10.heap.size]? = some (.cells #[.int .i64 n', .slice ao_gv L_gv cap_gv] 25 (0, 0))) := rowKeep r_g014.out b15
  have o_wv15 : Hid (Own W15 (W4.heap.size) (W5.heap.size) 9 (.slice ao_wv L_wv cap_wv) (ss R)) := Own.later o_wv14.out b15 (by omega)
  have o_x15 : Hid (Own W15 (W6.heap.size) (W7.heap.size) 9 (.slice ao_x L_x cap_x) (ss hs)) := Own.later o_x14.out b15 (by omega)
  have o_xl15 : Hid (Own W15 (W8.heap.size) (W9.heap.size) 9 (.slice ao_xl L_xl cap_xl) (ss l)) := Own.later o_xl14.out b15 (by omega)
  have o_gv15 : Hid (Own W15 (W9.heap.size) (W10.heap.size) 9 (.slice ao_gv L_gv cap_gv) (ss R)) := Own.later o_gv14.out b15 (by omega)
  have c_a15_0 : W15.cell? ⟨w.heap.size, 0, none⟩ = some (.int .i64 n) := row_at r_a15.out 0
  have a_a15_0 : ∀ o, (W15.alloc o).cell? ⟨w.heap.size, 0, none⟩ = some (.int .i64 n) := fun o => keepR c_a15_0 ((Below.refl _ _).alloc (Nat.le_refl _) o)
  have c_a15_1 : W15.cell? ⟨w.heap.size, 1, none⟩ = some (.slice ao0 hs.length cap0) := row_at r_a15.out 1
  have a_a15_1 : ∀ o, (W15.alloc o).cell? ⟨w.heap.size, 1, none⟩ = some (.slice ao0 hs.length cap0) := fun o => keepR c_a15_1 ((Below.refl _ _).alloc (Nat.le_refl _) o)
  have c_w015_0 : W15.cell? ⟨W5.heap.size, 0, none⟩ = some (.int .i64 n') := row_at r_w015.out 0
  have a_w015_0 : ∀ o, (W15.alloc o).cell? ⟨W5.heap.size, 0, none⟩ = some (.int .i64 n') := fun o => keepR c_w015_0 ((Below.refl _ _).alloc (Nat.le_refl _) o)
  have c_w015_1 : W15.cell? ⟨W5.heap.size, 1, none⟩ = some (.slice ao_wv L_wv cap_wv) := row_at r_w015.out 1
  have a_w015_1 : ∀ o, (W15.alloc o).cell? ⟨W5.heap.size, 1, none⟩ = some (.slice ao_wv L_wv cap_wv) := fun o => keepR c_w015_1 ((Below.refl _ _).alloc (Nat.le_refl _) o)
  have c_x015_0 : W15.cell? ⟨W7.heap.size, 0, none⟩ = some (.int .i64 n) := row_at r_x015.out 0
  have a_x015_0 : ∀ o, (W15.alloc o).cell? ⟨W7.heap.size, 0, none⟩ = some (.int .i64 n) := fun o => keepR c_x015_0 ((Below.refl _ _).alloc (Nat.le_refl _) o)
  have c_x015_1 : W15.cell? ⟨W7.heap.size, 1, none⟩ = some (.slice ao_x L_x cap_x) := row_at r_x015.out 1
  have a_x015_1 : ∀ o, (W15.alloc o).cell? ⟨W7.heap.size, 1, none⟩ = some (.slice ao_x L_x cap_x) := fun o => keepR c_x015_1 ((Below.refl _ _).alloc (Nat.le_refl _) o)
  have c_g015_0 : W15.cell? ⟨W10.heap.size, 0, none⟩ = some (.int .i64 n') := row_at r_g015.out 0
  have a_g015_0 : ∀ o, (W15.alloc o).cell? ⟨W10.heap.size, 0, none⟩ = some (.int .i64 n') := fun o => keepR c_g015_0 ((Below.refl _ _).alloc (Nat.le_refl _) o)
  have c_g015_1 : W15.cell? ⟨W10.heap.size, 1, none⟩ = some (.slice ao_gv L_gv cap_gv) := row_at r_g015.out 1
  have a_g015_1 : ∀ o, (W15.alloc o).cell? ⟨W10.heap.size, 1, none⟩ = some (.slice ao_gv L_gv cap_gv) := fun o => keepR c_g015_1 ((Below.refl _ _).alloc (Nat.le_refl _) o)
  clear r_a14 c_a14_0 c_a14_1 a_a14_0 a_a14_1 r_w014 c_w014_0 c_w014_1 a_w014_0 a_w014_1 r_x014 c_x014_0 c_x014_1 a_x014_0 a_x014_1 r_g014 c_g014_0 c_g014_1 a_g014_0 a_g014_1 o_wv14 o_x14 o_xl14 o_gv14
  go_wp2_with fail
  refine (Strs.eqs_true W15 _ _ l o_xl15.out.sl o_ul15.out.sl (by omega)).mono ?_
  rintro e W16 ⟨rfl, h16, _⟩
  have b16 : Below W15.heap.size W15 W16 := h16 _
  clear h16
  have z16 : W15.heap.size ≤ W16.heap.size := b16.size
  have B16 : Hid (Below w.heap.size w W16) := B15.out.trans (b16.mono B15.out.size)
  have r_a16 : Hid (W16.heap[w.heap.size]? = some (.cells #[.int .i64 n, .slice ao0 hs.length cap0] 32 (0, 0))) := rowKeep r_a15.out b16
  have r_w016 : Hid (W16.heap[W5.heap.size]? = some (.cells #[.int .i64 n', .slice ao_wv L_wv cap_wv] 25 (0, 0))) := rowKeep r_w015.out b16
  have r_x016 : Hid (W16.heap[W7.heap.size]? = some (.cells #[.int .i64 n, .slice ao_x L_x cap_x] 25 (0, 0))) := rowKeep r_x015.out b16
  have r_g016 : Hid (W16.heap[W10.heap.size]? = some (.cells #[.int .i64 n', .slice ao_gv L_gv cap_gv] 25 (0, 0))) := rowKeep r_g015.out b16
  have o_wv16 : Hid (Own W16 (W4.heap.size) (W5.heap.size) 9 (.slice ao_wv L_wv cap_wv) (ss R)) := Own.later o_wv15.out b16 (by omega)
  have o_x16 : Hid (Own W16 (W6.heap.size) (W7.heap.size) 9 (.slice ao_x L_x cap_x) (ss hs)) := Own.later o_x15.out b16 (by omega)
  have o_xl16 : Hid (Own W16 (W8.heap.size) (W9.heap.size) 9 (.slice ao_xl L_xl cap_xl) (ss l)) := Own.later o_xl15.out b16 (by omega)
  have o_gv16 : Hid (Own W16 (W9.heap.size) (W10.heap.size) 9 (.slice ao_gv L_gv cap_gv) (ss R)) := Own.later o_gv15.out b16 (by omega)
  have o_ul16 : Hid (Own W16 (W14.heap.size) (W15.heap.size) 9 (.slice ao_ul L_ul cap_ul) (ss l)) := Own.later o_ul15.out b16 (by omega)
  have c_a16_0 : W16.cell? ⟨w.heap.size, 0, none⟩ = some (.int .i64 n) := row_at r_a16.out 0
  have a_a16_0 : ∀ o, (W16.alloc o).cell? ⟨w.heap.size, 0, none⟩ = some (.int .i64 n) := fun o => keepR c_a16_0 ((Below.refl _ _).alloc (Nat.le_refl _) o)
  have c_a16_1 : W16.cell? ⟨w.heap.size, 1, none⟩ = some (.slice ao0 hs.length cap0) := row_at r_a16.out 1
  have a_a16_1 : ∀ o, (W16.alloc o).cell? ⟨w.heap.size, 1, none⟩ = some (.slice ao0 hs.length cap0) := fun o => keepR c_a16_1 ((Below.refl _ _).alloc (Nat.le_refl _) o)
  have c_w016_0 : W16.cell? ⟨W5.heap.size, 0, none⟩ = some (.int .i64 n') := row_at r_w016.out 0
  have a_w016_0 : ∀ o, (W16.alloc o).cell? ⟨W5.heap.size, 0, none⟩ = some (.int .i64 n') := fun o => keepR c_w016_0 ((Below.refl _ _).alloc (Nat.le_refl _) o)
  have c_w016_1 : W16.cell? ⟨W5.heap.size, 1, none⟩ = some (.slice ao_wv L_wv cap_wv) := row_at r_w016.out 1
  have a_w016_1 : ∀ o, (W16.alloc o).cell? ⟨W5.heap.size, 1, none⟩ = some (.slice ao_wv L_wv cap_wv) := fun o => keepR c_w016_1 ((Below.refl _ _).alloc (Nat.le_refl _) o)
  have c_x016_0 : W16.cell? ⟨W7.heap.size, 0, none⟩ = some (.int .i64 n) := row_at r_x016.out 0
  have a_x016_0 : ∀ o, (W16.alloc o).cell? ⟨W7.heap.size, 0, none⟩ = some (.int .i64 n) := fun o => keepR c_x016_0 ((Below.refl _ _).alloc (Nat.le_refl _) o)
  have c_x016_1 : W16.cell? ⟨W7.heap.size, 1, none⟩ = some (.slice ao_x L_x cap_x) := row_at r_x016.out 1
  have a_x016_1 : ∀ o, (W16.alloc o).cell? ⟨W7.heap.size, 1, none⟩ = some (.slice ao_x L_x cap_x) := fun o => keepR c_x016_1 ((Below.refl _ _).alloc (Nat.le_refl _) o)
  have c_g016_0 : W16.cell? ⟨W10.heap.size, 0, none⟩ = some (.int .i64 n') := row_at r_g016.out 0
  have a_g016_0 : ∀ o, (W16.alloc o).cell? ⟨W10.heap.size, 0, none⟩ = some (.int .i64 n') := fun o => keepR c_g016_0 ((Below.refl _ _).alloc (Nat.le_refl _) o)
  have c_g016_1 : W16.cell? ⟨W10.heap.size, 1, none⟩ = some (.slice ao_gv L_gv cap_gv) := row_at r_g016.out 1
  have a_g016_1 : ∀ o, (W16.alloc o).cell? ⟨W10.heap.size, 1, none⟩ = some (.slice ao_gv L_gv cap_gv) := fun o => keepR c_g016_1 ((Below.refl _ _).alloc (Nat.le_refl _) o)
  clear r_a15 c_a15_0 c_a15_1 a_a15_0 a_a15_1 r_w015 c_w015_0 c_w015_1 a_w015_0 a_w015_1 r_x015 c_x015_0 c_x015_1 a_x015_0 a_x015_1 r_g015 c_g015_0 c_g015_1 a_g015_0 a_g015_1 o_wv15 o_x15 o_xl15 o_gv15 o_ul15
  clear o_ul16
  have qm := mark_edge W16 n (.slice ao_x L_x cap_x) (W6.heap.size) (W7.heap.size) hs 1 o_x16.out (by omega) (by omega) (by omega) (by omega)
  rw [HK.out] at qm
  go_wp2_with fail
  refine (qm).mono ?_
  rintro e W17 ⟨rfl, o_x17, p17⟩
  have o_x17 : Hid (Own W17 (W6.heap.size) (W7.heap.size) 9 (.slice ao_x L_x cap_x) (ss (Strs.mts 1 hs.length))) := o_x17
  have z17 : W16.heap.size ≤ W17.heap.size := p17.size
  have B17 : Hid (Below w.heap.size w W17) := B16.out.trans (p17.below (by have := B16.out.size; omega) B16.out.size)
  have r_a17 : Hid (W17.heap[w.heap.size]? = some (.cells #[.int .i64 n, .slice ao0 hs.length cap0] 32 (0, 0))) := (p17.block (w.heap.size) (by omega) (by omega)).trans r_a16.out
  have r_w017 : Hid (W17.heap[W5.heap.size]? = some (.cells #[.int .i64 n', .slice ao_wv L_wv cap_wv] 25 (0, 0))) := (p17.block (W5.heap.size) (by omega) (by omega)).trans r_w016.out
  have r_x017 : Hid (W17.heap[W7.heap.size]? = some (.cells #[.int .i64 n, .slice ao_x L_x cap_x] 25 (0, 0))) := (p17.block (W7.heap.size) (by omega) (by omega)).trans r_x016.out
  have r_g017 : Hid (W17.heap[W10.heap.size]? = some (.cells #[.int .i64 n', .slice ao_gv L_gv cap_gv] 25 (0, 0))) := (p17.block (W10.heap.size) (by omega) (by omega)).trans r_g016.out
  have o_wv17 : Hid (Own W17 (W4.heap.size) (W5.heap.size) 9 (.slice ao_wv L_wv cap_wv) (ss R)) := Own.apart o_wv16.out p17 (by omega) (by omega)
  have o_xl17 : Hid (Own W17 (W8.heap.size) (W9.heap.size) 9 (.slice ao_xl L_xl cap_xl) (ss l)) := Own.apart o_xl16.out p17 (by omega) (by omega)
  have o_gv17 : Hid (Own W17 (W9.heap.size) (W10.heap.size) 9 (.slice ao_gv L_gv cap_gv) (ss R)) := Own.apart o_gv16.out p17 (by omega) (by omega)
  have c_a17_0 : W17.cell? ⟨w.heap.size, 0, none⟩ = some (.int .i64 n) := row_at r_a17.out 0
  have a_a17_0 : ∀ o, (W17.alloc o).cell? ⟨w.heap.size, 0, none⟩ = some (.int .i64 n) := fun o => keepR c_a17_0 ((Below.refl _ _).alloc (Nat.le_refl _) o)
  have c_a17_1 : W17.cell? ⟨w.heap.size, 1, none⟩ = some (.slice ao0 hs.length cap0) := row_at r_a17.out 1
  have a_a17_1 : ∀ o, (W17.alloc o).cell? ⟨w.heap.size, 1, none⟩ = some (.slice ao0 hs.length cap0) := fun o => keepR c_a17_1 ((Below.refl _ _).alloc (Nat.le_refl _) o)
  have c_w017_0 : W17.cell? ⟨W5.heap.size, 0, none⟩ = some (.int .i64 n') := row_at r_w017.out 0
  have a_w017_0 : ∀ o, (W17.alloc o).cell? ⟨W5.heap.size, 0, none⟩ = some (.int .i64 n') := fun o => keepR c_w017_0 ((Below.refl _ _).alloc (Nat.le_refl _) o)
  have c_w017_1 : W17.cell? ⟨W5.heap.size, 1, none⟩ = some (.slice ao_wv L_wv cap_wv) := row_at r_w017.out 1
  have a_w017_1 : ∀ o, (W17.alloc o).cell? ⟨W5.heap.size, 1, none⟩ = some (.slice ao_wv L_wv cap_wv) := fun o => keepR c_w017_1 ((Below.refl _ _).alloc (Nat.le_refl _) o)
  have c_x017_0 : W17.cell? ⟨W7.heap.size, 0, none⟩ = some (.int .i64 n) := row_at r_x017.out 0
  have a_x017_0 : ∀ o, (W17.alloc o).cell? ⟨W7.heap.size, 0, none⟩ = some (.int .i64 n) := fun o => keepR c_x017_0 ((Below.refl _ _).alloc (Nat.le_refl _) o)
  have c_x017_1 : W17.cell? ⟨W7.heap.size, 1, none⟩ = some (.slice ao_x L_x cap_x) := row_at r_x017.out 1
  have a_x017_1 : ∀ o, (W17.alloc o).cell? ⟨W7.heap.size, 1, none⟩ = some (.slice ao_x L_x cap_x) := fun o => keepR c_x017_1 ((Below.refl _ _).alloc (Nat.le_refl _) o)
  have c_g017_0 : W17.cell? ⟨W10.heap.size, 0, none⟩ = some (.int .i64 n') := row_at r_g017.out 0
  have a_g017_0 : ∀ o, (W17.alloc o).cell? ⟨W10.heap.size, 0, none⟩ = some (.int .i64 n') := fun o => keepR c_g017_0 ((Below.refl _ _).alloc (Nat.le_refl _) o)
  have c_g017_1 : W17.cell? ⟨W10.heap.size, 1, none⟩ = some (.slice ao_gv L_gv cap_gv) := row_at r_g017.out 1
  have a_g017_1 : ∀ o, (W17.alloc o).cell? ⟨W10.heap.size, 1, none⟩ = some (.slice ao_gv L_gv cap_gv) := fun o => keepR c_g017_1 ((Below.refl _ _).alloc (Nat.le_refl _) o)
  clear r_a16 c_a16_0 c_a16_1 a_a16_0 a_a16_1 r_w016 c_w016_0 c_w016_1 a_w016_0 a_w016_1 r_x016 c_x016_0 c_x016_1 a_x016_0 a_x016_1 r_g016 c_g016_0 c_g016_1 a_g016_0 a_g016_1 o_wv16 o_x16 o_xl16 o_gv16
  clear qm
  clear o_x17
  clear r_x017 c_x017_0 c_x017_1 a_x017_0 a_x017_1
  go_wp2_with fail
  refine (Strs.marks_any W17 _ (W8.heap.size) (W9.heap.size) l K1 o_xl17.out (by omega) (by omega) (by omega) (by omega)).mono ?_
  rintro e W18 ⟨rfl, o_xl18, p18⟩
  have o_xl18 : Hid (Own W18 (W8.heap.size) (W9.heap.size) 9 (.slice ao_xl L_xl cap_xl) (ss (Strs.mts K1 l.length))) := o_xl18
  have z18 : W17.heap.size ≤ W18.heap.size := p18.size
  have B18 : Hid (Below w.heap.size w W18) := B17.out.trans (p18.below (by have := B17.out.size; omega) B17.out.size)
  have r_a18 : Hid (W18.heap[w.heap.size]? = some (.cells #[.int .i64 n, .slice ao0 hs.length cap0] 32 (0, 0))) := (p18.block (w.heap.size) (by omega) (by omega)).trans r_a17.out
  have r_w018 : Hid (W18.heap[W5.heap.size]? = some (.cells #[.int .i64 n', .slice ao_wv L_wv cap_wv] 25 (0, 0))) := (p18.block (W5.heap.size) (by omega) (by omega)).trans r_w017.out
  have r_g018 : Hid (W18.heap[W10.heap.size]? = some (.cells #[.int .i64 n', .slice ao_gv L_gv cap_gv] 25 (0, 0))) := (p18.block (W10.heap.size) (by omega) (by omega)).trans r_g017.out
  have o_wv18 : Hid (Own W18 (W4.heap.size) (W5.heap.size) 9 (.slice ao_wv L_wv cap_wv) (ss R)) := Own.apart o_wv17.out p18 (by omega) (by omega)
  have o_gv18 : Hid (Own W18 (W9.heap.size) (W10.heap.size) 9 (.slice ao_gv L_gv cap_gv) (ss R)) := Own.apart o_gv17.out p18 (by omega) (by omega)
  have c_a18_0 : W18.cell? ⟨w.heap.size, 0, none⟩ = some (.int .i64 n) := row_at r_a18.out 0
  have a_a18_0 : ∀ o, (W18.alloc o).cell? ⟨w.heap.size, 0, none⟩ = some (.int .i64 n) := fun o => keepR c_a18_0 ((Below.refl _ _).alloc (Nat.le_refl _) o)
  have c_a18_1 : W18.cell? ⟨w.heap.size, 1, none⟩ = some (.slice ao0 hs.length cap0) := row_at r_a18.out 1
  have a_a18_1 : ∀ o, (W18.alloc o).cell? ⟨w.heap.size, 1, none⟩ = some (.slice ao0 hs.length cap0) := fun o => keepR c_a18_1 ((Below.refl _ _).alloc (Nat.le_refl _) o)
  have c_w018_0 : W18.cell? ⟨W5.heap.size, 0, none⟩ = some (.int .i64 n') := row_at r_w018.out 0
  have a_w018_0 : ∀ o, (W18.alloc o).cell? ⟨W5.heap.size, 0, none⟩ = some (.int .i64 n') := fun o => keepR c_w018_0 ((Below.refl _ _).alloc (Nat.le_refl _) o)
  have c_w018_1 : W18.cell? ⟨W5.heap.size, 1, none⟩ = some (.slice ao_wv L_wv cap_wv) := row_at r_w018.out 1
  have a_w018_1 : ∀ o, (W18.alloc o).cell? ⟨W5.heap.size, 1, none⟩ = some (.slice ao_wv L_wv cap_wv) := fun o => keepR c_w018_1 ((Below.refl _ _).alloc (Nat.le_refl _) o)
  have c_g018_0 : W18.cell? ⟨W10.heap.size, 0, none⟩ = some (.int .i64 n') := row_at r_g018.out 0
  have a_g018_0 : ∀ o, (W18.alloc o).cell? ⟨W10.heap.size, 0, none⟩ = some (.int .i64 n') := fun o => keepR c_g018_0 ((Below.refl _ _).alloc (Nat.le_refl _) o)
  have c_g018_1 : W18.cell? ⟨W10.heap.size, 1, none⟩ = some (.slice ao_gv L_gv cap_gv) := row_at r_g018.out 1
  have a_g018_1 : ∀ o, (W18.alloc o).cell? ⟨W10.heap.size, 1, none⟩ = some (.slice ao_gv L_gv cap_gv) := fun o => keepR c_g018_1 ((Below.refl _ _).alloc (Nat.le_refl _) o)
  clear r_a17 c_a17_0 c_a17_1 a_a17_0 a_a17_1 r_w017 c_w017_0 c_w017_1 a_w017_0 a_w017_1 r_g017 c_g017_0 c_g017_1 a_g017_0 a_g017_1 o_wv17 o_xl17 o_gv17
  clear o_xl18
  go_wp2_with fail
  refine (eq_edge W18 n' _ _ R o_gv18.out.sl o_wv18.out.sl (by omega)).mono ?_
  rintro e W19 ⟨rfl, b19⟩
  have z19 : W18.heap.size ≤ W19.heap.size := b19.size
  have B19 : Hid (Below w.heap.size w W19) := B18.out.trans (b19.mono B18.out.size)
  have r_a19 : Hid (W19.heap[w.heap.size]? = some (.cells #[.int .i64 n, .slice ao0 hs.length cap0] 32 (0, 0))) := rowKeep r_a18.out b19
  have r_w019 : Hid (W19.heap[W5.heap.size]? = some (.cells #[.int .i64 n', .slice ao_wv L_wv cap_wv] 25 (0, 0))) := rowKeep r_w018.out b19
  have r_g019 : Hid (W19.heap[W10.heap.size]? = some (.cells #[.int .i64 n', .slice ao_gv L_gv cap_gv] 25 (0, 0))) := rowKeep r_g018.out b19
  have o_wv19 : Hid (Own W19 (W4.heap.size) (W5.heap.size) 9 (.slice ao_wv L_wv cap_wv) (ss R)) := Own.later o_wv18.out b19 (by omega)
  have o_gv19 : Hid (Own W19 (W9.heap.size) (W10.heap.size) 9 (.slice ao_gv L_gv cap_gv) (ss R)) := Own.later o_gv18.out b19 (by omega)
  have c_a19_0 : W19.cell? ⟨w.heap.size, 0, none⟩ = some (.int .i64 n) := row_at r_a19.out 0
  have a_a19_0 : ∀ o, (W19.alloc o).cell? ⟨w.heap.size, 0, none⟩ = some (.int .i64 n) := fun o => keepR c_a19_0 ((Below.refl _ _).alloc (Nat.le_refl _) o)
  have c_a19_1 : W19.cell? ⟨w.heap.size, 1, none⟩ = some (.slice ao0 hs.length cap0) := row_at r_a19.out 1
  have a_a19_1 : ∀ o, (W19.alloc o).cell? ⟨w.heap.size, 1, none⟩ = some (.slice ao0 hs.length cap0) := fun o => keepR c_a19_1 ((Below.refl _ _).alloc (Nat.le_refl _) o)
  have c_w019_0 : W19.cell? ⟨W5.heap.size, 0, none⟩ = some (.int .i64 n') := row_at r_w019.out 0
  have a_w019_0 : ∀ o, (W19.alloc o).cell? ⟨W5.heap.size, 0, none⟩ = some (.int .i64 n') := fun o => keepR c_w019_0 ((Below.refl _ _).alloc (Nat.le_refl _) o)
  have c_w019_1 : W19.cell? ⟨W5.heap.size, 1, none⟩ = some (.slice ao_wv L_wv cap_wv) := row_at r_w019.out 1
  have a_w019_1 : ∀ o, (W19.alloc o).cell? ⟨W5.heap.size, 1, none⟩ = some (.slice ao_wv L_wv cap_wv) := fun o => keepR c_w019_1 ((Below.refl _ _).alloc (Nat.le_refl _) o)
  have c_g019_0 : W19.cell? ⟨W10.heap.size, 0, none⟩ = some (.int .i64 n') := row_at r_g019.out 0
  have a_g019_0 : ∀ o, (W19.alloc o).cell? ⟨W10.heap.size, 0, none⟩ = some (.int .i64 n') := fun o => keepR c_g019_0 ((Below.refl _ _).alloc (Nat.le_refl _) o)
  have c_g019_1 : W19.cell? ⟨W10.heap.size, 1, none⟩ = some (.slice ao_gv L_gv cap_gv) := row_at r_g019.out 1
  have a_g019_1 : ∀ o, (W19.alloc o).cell? ⟨W10.heap.size, 1, none⟩ = some (.slice ao_gv L_gv cap_gv) := fun o => keepR c_g019_1 ((Below.refl _ _).alloc (Nat.le_refl _) o)
  clear r_a18 c_a18_0 c_a18_1 a_a18_0 a_a18_1 r_w018 c_w018_0 c_w018_1 a_w018_0 a_w018_1 r_g018 c_g018_0 c_g018_1 a_g018_0 a_g018_1 o_wv18 o_gv18
  go_wp2_with fail
  refine (mark_edge W19 n' _ (W9.heap.size) (W10.heap.size) R 1 o_gv19.out (by omega) (by omega) (by omega) (by omega)).mono ?_
  rintro e W20 ⟨rfl, o_gv20, p20⟩
  have o_gv20 : Hid (Own W20 (W9.heap.size) (W10.heap.size) 9 (.slice ao_gv L_gv cap_gv) (ss (Strs.mts 1 R.length))) := o_gv20
  have z20 : W19.heap.size ≤ W20.heap.size := p20.size
  have B20 : Hid (Below w.heap.size w W20) := B19.out.trans (p20.below (by have := B19.out.size; omega) B19.out.size)
  have r_a20 : Hid (W20.heap[w.heap.size]? = some (.cells #[.int .i64 n, .slice ao0 hs.length cap0] 32 (0, 0))) := (p20.block (w.heap.size) (by omega) (by omega)).trans r_a19.out
  have r_w020 : Hid (W20.heap[W5.heap.size]? = some (.cells #[.int .i64 n', .slice ao_wv L_wv cap_wv] 25 (0, 0))) := (p20.block (W5.heap.size) (by omega) (by omega)).trans r_w019.out
  have r_g020 : Hid (W20.heap[W10.heap.size]? = some (.cells #[.int .i64 n', .slice ao_gv L_gv cap_gv] 25 (0, 0))) := (p20.block (W10.heap.size) (by omega) (by omega)).trans r_g019.out
  have o_wv20 : Hid (Own W20 (W4.heap.size) (W5.heap.size) 9 (.slice ao_wv L_wv cap_wv) (ss R)) := Own.apart o_wv19.out p20 (by omega) (by omega)
  have c_a20_0 : W20.cell? ⟨w.heap.size, 0, none⟩ = some (.int .i64 n) := row_at r_a20.out 0
  have a_a20_0 : ∀ o, (W20.alloc o).cell? ⟨w.heap.size, 0, none⟩ = some (.int .i64 n) := fun o => keepR c_a20_0 ((Below.refl _ _).alloc (Nat.le_refl _) o)
  have c_a20_1 : W20.cell? ⟨w.heap.size, 1, none⟩ = some (.slice ao0 hs.length cap0) := row_at r_a20.out 1
  have a_a20_1 : ∀ o, (W20.alloc o).cell? ⟨w.heap.size, 1, none⟩ = some (.slice ao0 hs.length cap0) := fun o => keepR c_a20_1 ((Below.refl _ _).alloc (Nat.le_refl _) o)
  have c_w020_0 : W20.cell? ⟨W5.heap.size, 0, none⟩ = some (.int .i64 n') := row_at r_w020.out 0
  have a_w020_0 : ∀ o, (W20.alloc o).cell? ⟨W5.heap.size, 0, none⟩ = some (.int .i64 n') := fun o => keepR c_w020_0 ((Below.refl _ _).alloc (Nat.le_refl _) o)
  have c_w020_1 : W20.cell? ⟨W5.heap.size, 1, none⟩ = some (.slice ao_wv L_wv cap_wv) := row_at r_w020.out 1
  have a_w020_1 : ∀ o, (W20.alloc o).cell? ⟨W5.heap.size, 1, none⟩ = some (.slice ao_wv L_wv cap_wv) := fun o => keepR c_w020_1 ((Below.refl _ _).alloc (Nat.le_refl _) o)
  have c_g020_0 : W20.cell? ⟨W10.heap.size, 0, none⟩ = some (.int .i64 n') := row_at r_g020.out 0
  have a_g020_0 : ∀ o, (W20.alloc o).cell? ⟨W10.heap.size, 0, none⟩ = some (.int .i64 n') := fun o => keepR c_g020_0 ((Below.refl _ _).alloc (Nat.le_refl _) o)
  have c_g020_1 : W20.cell? ⟨W10.heap.size, 1, none⟩ = some (.slice ao_gv L_gv cap_gv) := row_at r_g020.out 1
  have a_g020_1 : ∀ o, (W20.alloc o).cell? ⟨W10.heap.size, 1, none⟩ = some (.slice ao_gv L_gv cap_gv) := fun o => keepR c_g020_1 ((Below.refl _ _).alloc (Nat.le_refl _) o)
  clear r_a19 c_a19_0 c_a19_1 a_a19_0 a_a19_1 r_w019 c_w019_0 c_w019_1 a_w019_0 a_w019_1 r_g019 c_g019_0 c_g019_1 a_g019_0 a_g019_1 o_wv19 o_gv19
  go_wp2_with fail
  refine (held_edge W20 n' _ R.length 1 o_gv20.out.sl (by omega) (by omega) (by omega)).mono ?_
  rintro e W21 ⟨rfl, b21⟩
  have z21 : W20.heap.size ≤ W21.heap.size := b21.size
  have B21 : Hid (Below w.heap.size w W21) := B20.out.trans (b21.mono B20.out.size)
  have r_a21 : Hid (W21.heap[w.heap.size]? = some (.cells #[.int .i64 n, .slice ao0 hs.length cap0] 32 (0, 0))) := rowKeep r_a20.out b21
  have r_w021 : Hid (W21.heap[W5.heap.size]? = some (.cells #[.int .i64 n', .slice ao_wv L_wv cap_wv] 25 (0, 0))) := rowKeep r_w020.out b21
  have r_g021 : Hid (W21.heap[W10.heap.size]? = some (.cells #[.int .i64 n', .slice ao_gv L_gv cap_gv] 25 (0, 0))) := rowKeep r_g020.out b21
  have o_wv21 : Hid (Own W21 (W4.heap.size) (W5.heap.size) 9 (.slice ao_wv L_wv cap_wv) (ss R)) := Own.later o_wv20.out b21 (by omega)
  have o_gv21 : Hid (Own W21 (W9.heap.size) (W10.heap.size) 9 (.slice ao_gv L_gv cap_gv) (ss (Strs.mts 1 R.length))) := Own.later o_gv20.out b21 (by omega)
  have c_a21_0 : W21.cell? ⟨w.heap.size, 0, none⟩ = some (.int .i64 n) := row_at r_a21.out 0
  have a_a21_0 : ∀ o, (W21.alloc o).cell? ⟨w.heap.size, 0, none⟩ = some (.int .i64 n) := fun o => keepR c_a21_0 ((Below.refl _ _).alloc (Nat.le_refl _) o)
  have c_a21_1 : W21.cell? ⟨w.heap.size, 1, none⟩ = some (.slice ao0 hs.length cap0) := row_at r_a21.out 1
  have a_a21_1 : ∀ o, (W21.alloc o).cell? ⟨w.heap.size, 1, none⟩ = some (.slice ao0 hs.length cap0) := fun o => keepR c_a21_1 ((Below.refl _ _).alloc (Nat.le_refl _) o)
  have c_w021_0 : W21.cell? ⟨W5.heap.size, 0, none⟩ = some (.int .i64 n') := row_at r_w021.out 0
  have a_w021_0 : ∀ o, (W21.alloc o).cell? ⟨W5.heap.size, 0, none⟩ = some (.int .i64 n') := fun o => keepR c_w021_0 ((Below.refl _ _).alloc (Nat.le_refl _) o)
  have c_w021_1 : W21.cell? ⟨W5.heap.size, 1, none⟩ = some (.slice ao_wv L_wv cap_wv) := row_at r_w021.out 1
  have a_w021_1 : ∀ o, (W21.alloc o).cell? ⟨W5.heap.size, 1, none⟩ = some (.slice ao_wv L_wv cap_wv) := fun o => keepR c_w021_1 ((Below.refl _ _).alloc (Nat.le_refl _) o)
  have c_g021_0 : W21.cell? ⟨W10.heap.size, 0, none⟩ = some (.int .i64 n') := row_at r_g021.out 0
  have a_g021_0 : ∀ o, (W21.alloc o).cell? ⟨W10.heap.size, 0, none⟩ = some (.int .i64 n') := fun o => keepR c_g021_0 ((Below.refl _ _).alloc (Nat.le_refl _) o)
  have c_g021_1 : W21.cell? ⟨W10.heap.size, 1, none⟩ = some (.slice ao_gv L_gv cap_gv) := row_at r_g021.out 1
  have a_g021_1 : ∀ o, (W21.alloc o).cell? ⟨W10.heap.size, 1, none⟩ = some (.slice ao_gv L_gv cap_gv) := fun o => keepR c_g021_1 ((Below.refl _ _).alloc (Nat.le_refl _) o)
  clear r_a20 c_a20_0 c_a20_1 a_a20_0 a_a20_1 r_w020 c_w020_0 c_w020_1 a_w020_0 a_w020_1 r_g020 c_g020_0 c_g020_1 a_g020_0 a_g020_1 o_wv20 o_gv20
  go_wp2_with fail
  refine (to_edge W21 n _ hs (HS.out.later B21.out) (by omega)).mono ?_
  rintro e W22 ⟨v_y, rfl, o_y22, b22⟩
  obtain ⟨ao_y, L_y, cap_y, rfl, hL_y, hM_y⟩ := o_y22.form
  have o_y22 : Hid (Own W22 W21.heap.size W22.heap.size 9 (.slice ao_y L_y cap_y) (ss hs)) := o_y22
  clear hL_y hM_y
  have z22 : W21.heap.size ≤ W22.heap.size := b22.size
  have B22 : Hid (Below w.heap.size w W22) := B21.out.trans (b22.mono B21.out.size)
  have r_a22 : Hid (W22.heap[w.heap.size]? = some (.cells #[.int .i64 n, .slice ao0 hs.length cap0] 32 (0, 0))) := rowKeep r_a21.out b22
  have r_w022 : Hid (W22.heap[W5.heap.size]? = some (.cells #[.int .i64 n', .slice ao_wv L_wv cap_wv] 25 (0, 0))) := rowKeep r_w021.out b22
  have r_g022 : Hid (W22.heap[W10.heap.size]? = some (.cells #[.int .i64 n', .slice ao_gv L_gv cap_gv] 25 (0, 0))) := rowKeep r_g021.out b22
  have o_wv22 : Hid (Own W22 (W4.heap.size) (W5.heap.size) 9 (.slice ao_wv L_wv cap_wv) (ss R)) := Own.later o_wv21.out b22 (by omega)
  have o_gv22 : Hid (Own W22 (W9.heap.size) (W10.heap.size) 9 (.slice ao_gv L_gv cap_gv) (ss (Strs.mts 1 R.length))) := Own.later o_gv21.out b22 (by omega)
  have c_a22_0 : W22.cell? ⟨w.heap.size, 0, none⟩ = some (.int .i64 n) := row_at r_a22.out 0
  have a_a22_0 : ∀ o, (W22.alloc o).cell? ⟨w.heap.size, 0, none⟩ = some (.int .i64 n) := fun o => keepR c_a22_0 ((Below.refl _ _).alloc (Nat.le_refl _) o)
  have c_a22_1 : W22.cell? ⟨w.heap.size, 1, none⟩ = some (.slice ao0 hs.length cap0) := row_at r_a22.out 1
  have a_a22_1 : ∀ o, (W22.alloc o).cell? ⟨w.heap.size, 1, none⟩ = some (.slice ao0 hs.length cap0) := fun o => keepR c_a22_1 ((Below.refl _ _).alloc (Nat.le_refl _) o)
  have c_w022_0 : W22.cell? ⟨W5.heap.size, 0, none⟩ = some (.int .i64 n') := row_at r_w022.out 0
  have a_w022_0 : ∀ o, (W22.alloc o).cell? ⟨W5.heap.size, 0, none⟩ = some (.int .i64 n') := fun o => keepR c_w022_0 ((Below.refl _ _).alloc (Nat.le_refl _) o)
  have c_w022_1 : W22.cell? ⟨W5.heap.size, 1, none⟩ = some (.slice ao_wv L_wv cap_wv) := row_at r_w022.out 1
  have a_w022_1 : ∀ o, (W22.alloc o).cell? ⟨W5.heap.size, 1, none⟩ = some (.slice ao_wv L_wv cap_wv) := fun o => keepR c_w022_1 ((Below.refl _ _).alloc (Nat.le_refl _) o)
  have c_g022_0 : W22.cell? ⟨W10.heap.size, 0, none⟩ = some (.int .i64 n') := row_at r_g022.out 0
  have a_g022_0 : ∀ o, (W22.alloc o).cell? ⟨W10.heap.size, 0, none⟩ = some (.int .i64 n') := fun o => keepR c_g022_0 ((Below.refl _ _).alloc (Nat.le_refl _) o)
  have c_g022_1 : W22.cell? ⟨W10.heap.size, 1, none⟩ = some (.slice ao_gv L_gv cap_gv) := row_at r_g022.out 1
  have a_g022_1 : ∀ o, (W22.alloc o).cell? ⟨W10.heap.size, 1, none⟩ = some (.slice ao_gv L_gv cap_gv) := fun o => keepR c_g022_1 ((Below.refl _ _).alloc (Nat.le_refl _) o)
  clear r_a21 c_a21_0 c_a21_1 a_a21_0 a_a21_1 r_w021 c_w021_0 c_w021_1 a_w021_0 a_w021_1 r_g021 c_g021_0 c_g021_1 a_g021_0 a_g021_1 o_wv21 o_gv21
  go_wp2_with fail
  refine (Strs.to_s W22 _ l (HSL.out.later B22.out) (by omega)).mono ?_
  rintro e W23 ⟨v_yl, rfl, o_yl23, b23⟩
  obtain ⟨ao_yl, L_yl, cap_yl, rfl, hL_yl, hM_yl⟩ := o_yl23.form
  have o_yl23 : Hid (Own W23 W22.heap.size W23.heap.size 9 (.slice ao_yl L_yl cap_yl) (ss l)) := o_yl23
  clear hL_yl hM_yl
  have z23 : W22.heap.size ≤ W23.heap.size := b23.size
  have B23 : Hid (Below w.heap.size w W23) := B22.out.trans (b23.mono B22.out.size)
  have r_a23 : Hid (W23.heap[w.heap.size]? = some (.cells #[.int .i64 n, .slice ao0 hs.length cap0] 32 (0, 0))) := rowKeep r_a22.out b23
  have r_w023 : Hid (W23.heap[W5.heap.size]? = some (.cells #[.int .i64 n', .slice ao_wv L_wv cap_wv] 25 (0, 0))) := rowKeep r_w022.out b23
  have r_g023 : Hid (W23.heap[W10.heap.size]? = some (.cells #[.int .i64 n', .slice ao_gv L_gv cap_gv] 25 (0, 0))) := rowKeep r_g022.out b23
  have o_wv23 : Hid (Own W23 (W4.heap.size) (W5.heap.size) 9 (.slice ao_wv L_wv cap_wv) (ss R)) := Own.later o_wv22.out b23 (by omega)
  have o_gv23 : Hid (Own W23 (W9.heap.size) (W10.heap.size) 9 (.slice ao_gv L_gv cap_gv) (ss (Strs.mts 1 R.length))) := Own.later o_gv22.out b23 (by omega)
  have o_y23 : Hid (Own W23 (W21.heap.size) (W22.heap.size) 9 (.slice ao_y L_y cap_y) (ss hs)) := Own.later o_y22.out b23 (by omega)
  have c_a23_0 : W23.cell? ⟨w.heap.size, 0, none⟩ = some (.int .i64 n) := row_at r_a23.out 0
  have a_a23_0 : ∀ o, (W23.alloc o).cell? ⟨w.heap.size, 0, none⟩ = some (.int .i64 n) := fun o => keepR c_a23_0 ((Below.refl _ _).alloc (Nat.le_refl _) o)
  have c_a23_1 : W23.cell? ⟨w.heap.size, 1, none⟩ = some (.slice ao0 hs.length cap0) := row_at r_a23.out 1
  have a_a23_1 : ∀ o, (W23.alloc o).cell? ⟨w.heap.size, 1, none⟩ = some (.slice ao0 hs.length cap0) := fun o => keepR c_a23_1 ((Below.refl _ _).alloc (Nat.le_refl _) o)
  have c_w023_0 : W23.cell? ⟨W5.heap.size, 0, none⟩ = some (.int .i64 n') := row_at r_w023.out 0
  have a_w023_0 : ∀ o, (W23.alloc o).cell? ⟨W5.heap.size, 0, none⟩ = some (.int .i64 n') := fun o => keepR c_w023_0 ((Below.refl _ _).alloc (Nat.le_refl _) o)
  have c_w023_1 : W23.cell? ⟨W5.heap.size, 1, none⟩ = some (.slice ao_wv L_wv cap_wv) := row_at r_w023.out 1
  have a_w023_1 : ∀ o, (W23.alloc o).cell? ⟨W5.heap.size, 1, none⟩ = some (.slice ao_wv L_wv cap_wv) := fun o => keepR c_w023_1 ((Below.refl _ _).alloc (Nat.le_refl _) o)
  have c_g023_0 : W23.cell? ⟨W10.heap.size, 0, none⟩ = some (.int .i64 n') := row_at r_g023.out 0
  have a_g023_0 : ∀ o, (W23.alloc o).cell? ⟨W10.heap.size, 0, none⟩ = some (.int .i64 n') := fun o => keepR c_g023_0 ((Below.refl _ _).alloc (Nat.le_refl _) o)
  have c_g023_1 : W23.cell? ⟨W10.heap.size, 1, none⟩ = some (.slice ao_gv L_gv cap_gv) := row_at r_g023.out 1
  have a_g023_1 : ∀ o, (W23.alloc o).cell? ⟨W10.heap.size, 1, none⟩ = some (.slice ao_gv L_gv cap_gv) := fun o => keepR c_g023_1 ((Below.refl _ _).alloc (Nat.le_refl _) o)
  clear r_a22 c_a22_0 c_a22_1 a_a22_0 a_a22_1 r_w022 c_w022_0 c_w022_1 a_w022_0 a_w022_1 r_g022 c_g022_0 c_g022_1 a_g022_0 a_g022_1 o_wv22 o_gv22 o_y22
  go_wp2_with fail
  refine (q2 W23 _ _ B23.out o_y23.out.sl o_yl23.out.sl).mono ?_
  rintro e W24 ⟨v_hv, rfl, o_hv24, b24⟩
  obtain ⟨ao_hv, L_hv, cap_hv, rfl, hL_hv, hM_hv⟩ := o_hv24.form
  have o_hv24 : Hid (Own W24 W23.heap.size W24.heap.size 9 (.slice ao_hv L_hv cap_hv) (ss R)) := o_hv24
  clear hL_hv hM_hv
  have z24 : W23.heap.size ≤ W24.heap.size := b24.size
  have B24 : Hid (Below w.heap.size w W24) := B23.out.trans (b24.mono B23.out.size)
  have r_a24 : Hid (W24.heap[w.heap.size]? = some (.cells #[.int .i64 n, .slice ao0 hs.length cap0] 32 (0, 0))) := rowKeep r_a23.out b24
  have r_w024 : Hid (W24.heap[W5.heap.size]? = some (.cells #[.int .i64 n', .slice ao_wv L_wv cap_wv] 25 (0, 0))) := rowKeep r_w023.out b24
  have r_g024 : Hid (W24.heap[W10.heap.size]? = some (.cells #[.int .i64 n', .slice ao_gv L_gv cap_gv] 25 (0, 0))) := rowKeep r_g023.out b24
  have o_wv24 : Hid (Own W24 (W4.heap.size) (W5.heap.size) 9 (.slice ao_wv L_wv cap_wv) (ss R)) := Own.later o_wv23.out b24 (by omega)
  have o_gv24 : Hid (Own W24 (W9.heap.size) (W10.heap.size) 9 (.slice ao_gv L_gv cap_gv) (ss (Strs.mts 1 R.length))) := Own.later o_gv23.out b24 (by omega)
  have o_y24 : Hid (Own W24 (W21.heap.size) (W22.heap.size) 9 (.slice ao_y L_y cap_y) (ss hs)) := Own.later o_y23.out b24 (by omega)
  have o_yl24 : Hid (Own W24 (W22.heap.size) (W23.heap.size) 9 (.slice ao_yl L_yl cap_yl) (ss l)) := Own.later o_yl23.out b24 (by omega)
  have c_a24_0 : W24.cell? ⟨w.heap.size, 0, none⟩ = some (.int .i64 n) := row_at r_a24.out 0
  have a_a24_0 : ∀ o, (W24.alloc o).cell? ⟨w.heap.size, 0, none⟩ = some (.int .i64 n) := fun o => keepR c_a24_0 ((Below.refl _ _).alloc (Nat.le_refl _) o)
  have c_a24_1 : W24.cell? ⟨w.heap.size, 1, none⟩ = some (.slice ao0 hs.length cap0) := row_at r_a24.out 1
  have a_a24_1 : ∀ o, (W24.alloc o).cell? ⟨w.heap.size, 1, none⟩ = some (.slice ao0 hs.length cap0) := fun o => keepR c_a24_1 ((Below.refl _ _).alloc (Nat.le_refl _) o)
  have c_w024_0 : W24.cell? ⟨W5.heap.size, 0, none⟩ = some (.int .i64 n') := row_at r_w024.out 0
  have a_w024_0 : ∀ o, (W24.alloc o).cell? ⟨W5.heap.size, 0, none⟩ = some (.int .i64 n') := fun o => keepR c_w024_0 ((Below.refl _ _).alloc (Nat.le_refl _) o)
  have c_w024_1 : W24.cell? ⟨W5.heap.size, 1, none⟩ = some (.slice ao_wv L_wv cap_wv) := row_at r_w024.out 1
  have a_w024_1 : ∀ o, (W24.alloc o).cell? ⟨W5.heap.size, 1, none⟩ = some (.slice ao_wv L_wv cap_wv) := fun o => keepR c_w024_1 ((Below.refl _ _).alloc (Nat.le_refl _) o)
  have c_g024_0 : W24.cell? ⟨W10.heap.size, 0, none⟩ = some (.int .i64 n') := row_at r_g024.out 0
  have a_g024_0 : ∀ o, (W24.alloc o).cell? ⟨W10.heap.size, 0, none⟩ = some (.int .i64 n') := fun o => keepR c_g024_0 ((Below.refl _ _).alloc (Nat.le_refl _) o)
  have c_g024_1 : W24.cell? ⟨W10.heap.size, 1, none⟩ = some (.slice ao_gv L_gv cap_gv) := row_at r_g024.out 1
  have a_g024_1 : ∀ o, (W24.alloc o).cell? ⟨W10.heap.size, 1, none⟩ = some (.slice ao_gv L_gv cap_gv) := fun o => keepR c_g024_1 ((Below.refl _ _).alloc (Nat.le_refl _) o)
  clear r_a23 c_a23_0 c_a23_1 a_a23_0 a_a23_1 r_w023 c_w023_0 c_w023_1 a_w023_0 a_w023_1 r_g023 c_g023_0 c_g023_1 a_g023_0 a_g023_1 o_wv23 o_gv23 o_y23 o_yl23
  clear o_y24
  clear o_yl24
  obtain ⟨W25, HW25, b25, y25, r_h025⟩ : ∃ X, Hid ((W24.alloc (.cells #[.int .i64 n', .slice ao_hv L_hv cap_hv] 25)) = X) ∧ Below W24.heap.size W24 X ∧ W24.heap.size + 1 ≤ X.heap.size ∧ Hid (X.heap[W24.heap.size]? = some (.cells #[.int .i64 n', .slice ao_hv L_hv cap_hv] 25 (0, 0))) := ⟨_, rfl, (Below.refl _ _).alloc (Nat.le_refl _) _, by simp, heap_alloc_new _ _⟩
  have z25 : W24.heap.size ≤ W25.heap.size := b25.size
  have B25 : Hid (Below w.heap.size w W25) := B24.out.trans (b25.mono B24.out.size)
  have r_a25 : Hid (W25.heap[w.heap.size]? = some (.cells #[.int .i64 n, .slice ao0 hs.length cap0] 32 (0, 0))) := rowKeep r_a24.out b25
  have r_w025 : Hid (W25.heap[W5.heap.size]? = some (.cells #[.int .i64 n', .slice ao_wv L_wv cap_wv] 25 (0, 0))) := rowKeep r_w024.out b25
  have r_g025 : Hid (W25.heap[W10.heap.size]? = some (.cells #[.int .i64 n', .slice ao_gv L_gv cap_gv] 25 (0, 0))) := rowKeep r_g024.out b25
  have o_wv25 : Hid (Own W25 (W4.heap.size) (W5.heap.size) 9 (.slice ao_wv L_wv cap_wv) (ss R)) := Own.later o_wv24.out b25 (by omega)
  have o_gv25 : Hid (Own W25 (W9.heap.size) (W10.heap.size) 9 (.slice ao_gv L_gv cap_gv) (ss (Strs.mts 1 R.length))) := Own.later o_gv24.out b25 (by omega)
  have o_hv25 : Hid (Own W25 (W23.heap.size) (W24.heap.size) 9 (.slice ao_hv L_hv cap_hv) (ss R)) := Own.later o_hv24.out b25 (by omega)
  have c_a25_0 : W25.cell? ⟨w.heap.size, 0, none⟩ = some (.int .i64 n) := row_at r_a25.out 0
  have a_a25_0 : ∀ o, (W25.alloc o).cell? ⟨w.heap.size, 0, none⟩ = some (.int .i64 n) := fun o => keepR c_a25_0 ((Below.refl _ _).alloc (Nat.le_refl _) o)
  have c_a25_1 : W25.cell? ⟨w.heap.size, 1, none⟩ = some (.slice ao0 hs.length cap0) := row_at r_a25.out 1
  have a_a25_1 : ∀ o, (W25.alloc o).cell? ⟨w.heap.size, 1, none⟩ = some (.slice ao0 hs.length cap0) := fun o => keepR c_a25_1 ((Below.refl _ _).alloc (Nat.le_refl _) o)
  have c_w025_0 : W25.cell? ⟨W5.heap.size, 0, none⟩ = some (.int .i64 n') := row_at r_w025.out 0
  have a_w025_0 : ∀ o, (W25.alloc o).cell? ⟨W5.heap.size, 0, none⟩ = some (.int .i64 n') := fun o => keepR c_w025_0 ((Below.refl _ _).alloc (Nat.le_refl _) o)
  have c_w025_1 : W25.cell? ⟨W5.heap.size, 1, none⟩ = some (.slice ao_wv L_wv cap_wv) := row_at r_w025.out 1
  have a_w025_1 : ∀ o, (W25.alloc o).cell? ⟨W5.heap.size, 1, none⟩ = some (.slice ao_wv L_wv cap_wv) := fun o => keepR c_w025_1 ((Below.refl _ _).alloc (Nat.le_refl _) o)
  have c_g025_0 : W25.cell? ⟨W10.heap.size, 0, none⟩ = some (.int .i64 n') := row_at r_g025.out 0
  have a_g025_0 : ∀ o, (W25.alloc o).cell? ⟨W10.heap.size, 0, none⟩ = some (.int .i64 n') := fun o => keepR c_g025_0 ((Below.refl _ _).alloc (Nat.le_refl _) o)
  have c_g025_1 : W25.cell? ⟨W10.heap.size, 1, none⟩ = some (.slice ao_gv L_gv cap_gv) := row_at r_g025.out 1
  have a_g025_1 : ∀ o, (W25.alloc o).cell? ⟨W10.heap.size, 1, none⟩ = some (.slice ao_gv L_gv cap_gv) := fun o => keepR c_g025_1 ((Below.refl _ _).alloc (Nat.le_refl _) o)
  have c_h025_0 : W25.cell? ⟨W24.heap.size, 0, none⟩ = some (.int .i64 n') := row_at r_h025.out 0
  have a_h025_0 : ∀ o, (W25.alloc o).cell? ⟨W24.heap.size, 0, none⟩ = some (.int .i64 n') := fun o => keepR c_h025_0 ((Below.refl _ _).alloc (Nat.le_refl _) o)
  have c_h025_1 : W25.cell? ⟨W24.heap.size, 1, none⟩ = some (.slice ao_hv L_hv cap_hv) := row_at r_h025.out 1
  have a_h025_1 : ∀ o, (W25.alloc o).cell? ⟨W24.heap.size, 1, none⟩ = some (.slice ao_hv L_hv cap_hv) := fun o => keepR c_h025_1 ((Below.refl _ _).alloc (Nat.le_refl _) o)
  clear r_a24 c_a24_0 c_a24_1 r_w024 c_w024_0 c_w024_1 r_g024 c_g024_0 c_g024_1 o_wv24 o_gv24 o_hv24
  go_wp2_with fail
  rw [HW25.out]
  clear a_a24_0 a_a24_1 a_w024_0 a_w024_1 a_g024_0 a_g024_1
  refine (eq_edge W25 n' _ _ R o_hv25.out.sl o_wv25.out.sl (by omega)).mono ?_
  rintro e W26 ⟨rfl, b26⟩
  have z26 : W25.heap.size ≤ W26.heap.size := b26.size
  have B26 : Hid (Below w.heap.size w W26) := B25.out.trans (b26.mono B25.out.size)
  have r_a26 : Hid (W26.heap[w.heap.size]? = some (.cells #[.int .i64 n, .slice ao0 hs.length cap0] 32 (0, 0))) := rowKeep r_a25.out b26
  have r_w026 : Hid (W26.heap[W5.heap.size]? = some (.cells #[.int .i64 n', .slice ao_wv L_wv cap_wv] 25 (0, 0))) := rowKeep r_w025.out b26
  have r_g026 : Hid (W26.heap[W10.heap.size]? = some (.cells #[.int .i64 n', .slice ao_gv L_gv cap_gv] 25 (0, 0))) := rowKeep r_g025.out b26
  have r_h026 : Hid (W26.heap[W24.heap.size]? = some (.cells #[.int .i64 n', .slice ao_hv L_hv cap_hv] 25 (0, 0))) := rowKeep r_h025.out b26
  have o_wv26 : Hid (Own W26 (W4.heap.size) (W5.heap.size) 9 (.slice ao_wv L_wv cap_wv) (ss R)) := Own.later o_wv25.out b26 (by omega)
  have o_gv26 : Hid (Own W26 (W9.heap.size) (W10.heap.size) 9 (.slice ao_gv L_gv cap_gv) (ss (Strs.mts 1 R.length))) := Own.later o_gv25.out b26 (by omega)
  have o_hv26 : Hid (Own W26 (W23.heap.size) (W24.heap.size) 9 (.slice ao_hv L_hv cap_hv) (ss R)) := Own.later o_hv25.out b26 (by omega)
  have c_a26_0 : W26.cell? ⟨w.heap.size, 0, none⟩ = some (.int .i64 n) := row_at r_a26.out 0
  have a_a26_0 : ∀ o, (W26.alloc o).cell? ⟨w.heap.size, 0, none⟩ = some (.int .i64 n) := fun o => keepR c_a26_0 ((Below.refl _ _).alloc (Nat.le_refl _) o)
  have c_a26_1 : W26.cell? ⟨w.heap.size, 1, none⟩ = some (.slice ao0 hs.length cap0) := row_at r_a26.out 1
  have a_a26_1 : ∀ o, (W26.alloc o).cell? ⟨w.heap.size, 1, none⟩ = some (.slice ao0 hs.length cap0) := fun o => keepR c_a26_1 ((Below.refl _ _).alloc (Nat.le_refl _) o)
  have c_w026_0 : W26.cell? ⟨W5.heap.size, 0, none⟩ = some (.int .i64 n') := row_at r_w026.out 0
  have a_w026_0 : ∀ o, (W26.alloc o).cell? ⟨W5.heap.size, 0, none⟩ = some (.int .i64 n') := fun o => keepR c_w026_0 ((Below.refl _ _).alloc (Nat.le_refl _) o)
  have c_w026_1 : W26.cell? ⟨W5.heap.size, 1, none⟩ = some (.slice ao_wv L_wv cap_wv) := row_at r_w026.out 1
  have a_w026_1 : ∀ o, (W26.alloc o).cell? ⟨W5.heap.size, 1, none⟩ = some (.slice ao_wv L_wv cap_wv) := fun o => keepR c_w026_1 ((Below.refl _ _).alloc (Nat.le_refl _) o)
  have c_g026_0 : W26.cell? ⟨W10.heap.size, 0, none⟩ = some (.int .i64 n') := row_at r_g026.out 0
  have a_g026_0 : ∀ o, (W26.alloc o).cell? ⟨W10.heap.size, 0, none⟩ = some (.int .i64 n') := fun o => keepR c_g026_0 ((Below.refl _ _).alloc (Nat.le_refl _) o)
  have c_g026_1 : W26.cell? ⟨W10.heap.size, 1, none⟩ = some (.slice ao_gv L_gv cap_gv) := row_at r_g026.out 1
  have a_g026_1 : ∀ o, (W26.alloc o).cell? ⟨W10.heap.size, 1, none⟩ = some (.slice ao_gv L_gv cap_gv) := fun o => keepR c_g026_1 ((Below.refl _ _).alloc (Nat.le_refl _) o)
  have c_h026_0 : W26.cell? ⟨W24.heap.size, 0, none⟩ = some (.int .i64 n') := row_at r_h026.out 0
  have a_h026_0 : ∀ o, (W26.alloc o).cell? ⟨W24.heap.size, 0, none⟩ = some (.int .i64 n') := fun o => keepR c_h026_0 ((Below.refl _ _).alloc (Nat.le_refl _) o)
  have c_h026_1 : W26.cell? ⟨W24.heap.size, 1, none⟩ = some (.slice ao_hv L_hv cap_hv) := row_at r_h026.out 1
  have a_h026_1 : ∀ o, (W26.alloc o).cell? ⟨W24.heap.size, 1, none⟩ = some (.slice ao_hv L_hv cap_hv) := fun o => keepR c_h026_1 ((Below.refl _ _).alloc (Nat.le_refl _) o)
  clear r_a25 c_a25_0 c_a25_1 a_a25_0 a_a25_1 r_w025 c_w025_0 c_w025_1 a_w025_0 a_w025_1 r_g025 c_g025_0 c_g025_1 a_g025_0 a_g025_1 r_h025 c_h025_0 c_h025_1 a_h025_0 a_h025_1 o_wv25 o_gv25 o_hv25
  go_wp2_with fail
  refine (held_edge W26 n' _ R.length 1 o_gv26.out.sl (by omega) (by omega) (by omega)).mono ?_
  rintro e W27 ⟨rfl, b27⟩
  have z27 : W26.heap.size ≤ W27.heap.size := b27.size
  have B27 : Hid (Below w.heap.size w W27) := B26.out.trans (b27.mono B26.out.size)
  have r_a27 : Hid (W27.heap[w.heap.size]? = some (.cells #[.int .i64 n, .slice ao0 hs.length cap0] 32 (0, 0))) := rowKeep r_a26.out b27
  have r_w027 : Hid (W27.heap[W5.heap.size]? = some (.cells #[.int .i64 n', .slice ao_wv L_wv cap_wv] 25 (0, 0))) := rowKeep r_w026.out b27
  have r_g027 : Hid (W27.heap[W10.heap.size]? = some (.cells #[.int .i64 n', .slice ao_gv L_gv cap_gv] 25 (0, 0))) := rowKeep r_g026.out b27
  have r_h027 : Hid (W27.heap[W24.heap.size]? = some (.cells #[.int .i64 n', .slice ao_hv L_hv cap_hv] 25 (0, 0))) := rowKeep r_h026.out b27
  have o_wv27 : Hid (Own W27 (W4.heap.size) (W5.heap.size) 9 (.slice ao_wv L_wv cap_wv) (ss R)) := Own.later o_wv26.out b27 (by omega)
  have o_gv27 : Hid (Own W27 (W9.heap.size) (W10.heap.size) 9 (.slice ao_gv L_gv cap_gv) (ss (Strs.mts 1 R.length))) := Own.later o_gv26.out b27 (by omega)
  have o_hv27 : Hid (Own W27 (W23.heap.size) (W24.heap.size) 9 (.slice ao_hv L_hv cap_hv) (ss R)) := Own.later o_hv26.out b27 (by omega)
  have c_a27_0 : W27.cell? ⟨w.heap.size, 0, none⟩ = some (.int .i64 n) := row_at r_a27.out 0
  have a_a27_0 : ∀ o, (W27.alloc o).cell? ⟨w.heap.size, 0, none⟩ = some (.int .i64 n) := fun o => keepR c_a27_0 ((Below.refl _ _).alloc (Nat.le_refl _) o)
  have c_a27_1 : W27.cell? ⟨w.heap.size, 1, none⟩ = some (.slice ao0 hs.length cap0) := row_at r_a27.out 1
  have a_a27_1 : ∀ o, (W27.alloc o).cell? ⟨w.heap.size, 1, none⟩ = some (.slice ao0 hs.length cap0) := fun o => keepR c_a27_1 ((Below.refl _ _).alloc (Nat.le_refl _) o)
  have c_w027_0 : W27.cell? ⟨W5.heap.size, 0, none⟩ = some (.int .i64 n') := row_at r_w027.out 0
  have a_w027_0 : ∀ o, (W27.alloc o).cell? ⟨W5.heap.size, 0, none⟩ = some (.int .i64 n') := fun o => keepR c_w027_0 ((Below.refl _ _).alloc (Nat.le_refl _) o)
  have c_w027_1 : W27.cell? ⟨W5.heap.size, 1, none⟩ = some (.slice ao_wv L_wv cap_wv) := row_at r_w027.out 1
  have a_w027_1 : ∀ o, (W27.alloc o).cell? ⟨W5.heap.size, 1, none⟩ = some (.slice ao_wv L_wv cap_wv) := fun o => keepR c_w027_1 ((Below.refl _ _).alloc (Nat.le_refl _) o)
  have c_g027_0 : W27.cell? ⟨W10.heap.size, 0, none⟩ = some (.int .i64 n') := row_at r_g027.out 0
  have a_g027_0 : ∀ o, (W27.alloc o).cell? ⟨W10.heap.size, 0, none⟩ = some (.int .i64 n') := fun o => keepR c_g027_0 ((Below.refl _ _).alloc (Nat.le_refl _) o)
  have c_g027_1 : W27.cell? ⟨W10.heap.size, 1, none⟩ = some (.slice ao_gv L_gv cap_gv) := row_at r_g027.out 1
  have a_g027_1 : ∀ o, (W27.alloc o).cell? ⟨W10.heap.size, 1, none⟩ = some (.slice ao_gv L_gv cap_gv) := fun o => keepR c_g027_1 ((Below.refl _ _).alloc (Nat.le_refl _) o)
  have c_h027_0 : W27.cell? ⟨W24.heap.size, 0, none⟩ = some (.int .i64 n') := row_at r_h027.out 0
  have a_h027_0 : ∀ o, (W27.alloc o).cell? ⟨W24.heap.size, 0, none⟩ = some (.int .i64 n') := fun o => keepR c_h027_0 ((Below.refl _ _).alloc (Nat.le_refl _) o)
  have c_h027_1 : W27.cell? ⟨W24.heap.size, 1, none⟩ = some (.slice ao_hv L_hv cap_hv) := row_at r_h027.out 1
  have a_h027_1 : ∀ o, (W27.alloc o).cell? ⟨W24.heap.size, 1, none⟩ = some (.slice ao_hv L_hv cap_hv) := fun o => keepR c_h027_1 ((Below.refl _ _).alloc (Nat.le_refl _) o)
  clear r_a26 c_a26_0 c_a26_1 a_a26_0 a_a26_1 r_w026 c_w026_0 c_w026_1 a_w026_0 a_w026_1 r_g026 c_g026_0 c_g026_1 a_g026_0 a_g026_1 r_h026 c_h026_0 c_h026_1 a_h026_0 a_h026_1 o_wv26 o_gv26 o_hv26
  go_wp2
  go_ret
  exact ⟨rfl, B27.out⟩

end Go.Proofs.YthbonifpdpknnacDoor.Ed
