/- Chapter 7: the exact laws, over contracts of the landed functions. -/
import Derived.Test.YtkdlgbccaaehaaaEd6
import Derived.Test.YtkdlgbccaaehaaaEdH
import Derived.Test.YtkdlgbccaaehaaaTrX
namespace Go.Proofs.Ytkdlgbccaaehaaa.Ed
open Go.RowKit Go.Proofs.Ytkdlgbccaaehaaa.Mem Go.Proofs.Ytkdlgbccaaehaaa.Laws Go.Proofs.Ytkdlgbccaaehaaa.Bytes Go.Proofs.Ytkdlgbccaaehaaa.Sha Go.Proofs.Ytkdlgbccaaehaaa.Tr
set_option linter.unusedVariables false
set_option linter.unusedSimpArgs false

theorem carry_short (n : Nat) : ∀ (hs : List ByteArray) (h : ByteArray), (carry n hs h).length ≤ hs.length + 1 := by
  refine natRec (P := fun n => ∀ (hs : List ByteArray) (h : ByteArray), (carry n hs h).length ≤ hs.length + 1) ?_ n
  intro n ih hs h
  by_cases hn : n % 2 = 1
  · rw [carry_if, if_pos hn]
    have := ih (n / 2) (by omega) hs.dropLast (nodeH (hs.getLastD ⟨#[]⟩) h)
    rw [List.length_dropLast] at this
    omega
  · rw [carry_even hn]; simp
theorem addE_short (n : Int) (hs : List ByteArray) (s : ByteArray) : (addE n hs s).2.1.length ≤ hs.length + 1 := by
  unfold addE
  split
  · exact carry_short _ _ _
  · exact Nat.le_succ _

set_option maxRecDepth 1000000 in
set_option maxHeartbeats 8000000 in
theorem exact_ok (w : World) (n : Int) (v : Value) (hs : List ByteArray) (h : Sl w v (ss hs)) (hz : ∀ s ∈ hs, s.size ≤ maxLen) (hm : hs.length ≤ maxLen)
    (iF : ∀ W v', Below w.heap.size w W → Sl W v' (ss hs) → hs.length ≤ 1048576 → (∀ s ∈ hs, s.size ≤ 1048576) → Calls Try.prog 7 #[.agg #[.int .i64 n, v']] W fun e w' => e = .returned (.bool (okE n hs)) ∧ Below W.heap.size W w') :
    Calls Try.prog 3 #[.agg #[.int .i64 n, v]] w fun e w' => e = .returned (.bool true) ∧ Below w.heap.size w w' := by
  have HS : Hid (Sl w v (ss hs)) := h
  unfold maxLen at *
  obtain ⟨ao0, cap0, rfl, hc0⟩ := h.form
  rw [ss_len] at *
  clear h
  have B0 : Hid (Below w.heap.size w w) := Below.refl _ _
  obtain ⟨W1, HW1, b1, y1, r_a1⟩ : ∃ X, Hid ((w.alloc (.cells #[.int .i64 n, .slice ao0 hs.length cap0] 24)) = X) ∧ Below w.heap.size w X ∧ w.heap.size + 1 ≤ X.heap.size ∧ Hid (X.heap[w.heap.size]? = some (.cells #[.int .i64 n, .slice ao0 hs.length cap0] 24 (0, 0))) := ⟨_, rfl, (Below.refl _ _).alloc (Nat.le_refl _) _, by simp, heap_alloc_new _ _⟩
  have z1 : w.heap.size ≤ W1.heap.size := b1.size
  have B1 : Hid (Below w.heap.size w W1) := B0.out.trans (b1.mono B0.out.size)
  have c_a1_0 : W1.cell? ⟨w.heap.size, 0, none⟩ = some (.int .i64 n) := row_at r_a1.out 0
  have a_a1_0 : ∀ o, (W1.alloc o).cell? ⟨w.heap.size, 0, none⟩ = some (.int .i64 n) := fun o => keepR c_a1_0 ((Below.refl _ _).alloc (Nat.le_refl _) o)
  have c_a1_1 : W1.cell? ⟨w.heap.size, 1, none⟩ = some (.slice ao0 hs.length cap0) := row_at r_a1.out 1
  have a_a1_1 : ∀ o, (W1.alloc o).cell? ⟨w.heap.size, 1, none⟩ = some (.slice ao0 hs.length cap0) := fun o => keepR c_a1_1 ((Below.refl _ _).alloc (Nat.le_refl _) o)
  go_enter Try.func3, Try.ntmps3
  go_wp2_with fail
  rw [HW1.out]
  refine (sz_edge W1 n _ hs 1048576 (HS.out.later B1.out) (fun s h => by have := hz s h; omega) (by omega) (Nat.le_refl _)).mono ?_
  rintro e W2 ⟨⟨r0, rfl, hr0⟩, b2⟩
  have z2 : W1.heap.size ≤ W2.heap.size := b2.size
  have B2 : Hid (Below w.heap.size w W2) := B1.out.trans (b2.mono B1.out.size)
  have r_a2 : Hid (W2.heap[w.heap.size]? = some (.cells #[.int .i64 n, .slice ao0 hs.length cap0] 24 (0, 0))) := rowKeep r_a1.out b2
  have c_a2_0 : W2.cell? ⟨w.heap.size, 0, none⟩ = some (.int .i64 n) := row_at r_a2.out 0
  have a_a2_0 : ∀ o, (W2.alloc o).cell? ⟨w.heap.size, 0, none⟩ = some (.int .i64 n) := fun o => keepR c_a2_0 ((Below.refl _ _).alloc (Nat.le_refl _) o)
  have c_a2_1 : W2.cell? ⟨w.heap.size, 1, none⟩ = some (.slice ao0 hs.length cap0) := row_at r_a2.out 1
  have a_a2_1 : ∀ o, (W2.alloc o).cell? ⟨w.heap.size, 1, none⟩ = some (.slice ao0 hs.length cap0) := fun o => keepR c_a2_1 ((Below.refl _ _).alloc (Nat.le_refl _) o)
  clear r_a1 c_a1_0 c_a1_1 a_a1_0 a_a1_1
  by_cases hr : r0 < 0
  · go_wp2
    go_ret
    exact ⟨rfl, B2.out⟩
  have hr1 : hs.length + Puts.tot hs ≤ 1048576 := by rcases hr0 with h0 | h0; exact absurd h0 hr; exact h0.1
  have hl : hs.length ≤ 1048576 := by omega
  have hzz : ∀ s ∈ hs, s.size ≤ 1048576 := fun s h => Nat.le_trans (mem_tot h) (by omega)
  clear hr0 hz
  obtain ⟨M, hM⟩ : ∃ M, okE n hs = M := ⟨_, rfl⟩
  have q1 : ∀ W v1, Sl W v1 (ss hs) → _ := fun W v1 h1 => ok_spec W n v1 hs h1 (by omega)
  have q2 : ∀ W v1, Below w.heap.size w W → Sl W v1 (ss hs) → _ := fun W v1 hB h1 => iF W v1 hB h1 hl hzz
  simp only [hM] at q1 q2
  clear hM iF
  go_wp2_with fail
  refine (to_edge W2 n _ hs (HS.out.later B2.out) (by omega)).mono ?_
  rintro e W3 ⟨v_t, rfl, o_t3, b3⟩
  obtain ⟨ao_t, L_t, cap_t, rfl, hL_t, hM_t⟩ := o_t3.form
  have o_t3 : Hid (Own W3 W2.heap.size W3.heap.size 9 (.slice ao_t L_t cap_t) (ss hs)) := o_t3
  clear hL_t hM_t
  have z3 : W2.heap.size ≤ W3.heap.size := b3.size
  have B3 : Hid (Below w.heap.size w W3) := B2.out.trans (b3.mono B2.out.size)
  have r_a3 : Hid (W3.heap[w.heap.size]? = some (.cells #[.int .i64 n, .slice ao0 hs.length cap0] 24 (0, 0))) := rowKeep r_a2.out b3
  have c_a3_0 : W3.cell? ⟨w.heap.size, 0, none⟩ = some (.int .i64 n) := row_at r_a3.out 0
  have a_a3_0 : ∀ o, (W3.alloc o).cell? ⟨w.heap.size, 0, none⟩ = some (.int .i64 n) := fun o => keepR c_a3_0 ((Below.refl _ _).alloc (Nat.le_refl _) o)
  have c_a3_1 : W3.cell? ⟨w.heap.size, 1, none⟩ = some (.slice ao0 hs.length cap0) := row_at r_a3.out 1
  have a_a3_1 : ∀ o, (W3.alloc o).cell? ⟨w.heap.size, 1, none⟩ = some (.slice ao0 hs.length cap0) := fun o => keepR c_a3_1 ((Below.refl _ _).alloc (Nat.le_refl _) o)
  clear r_a2 c_a2_0 c_a2_1 a_a2_0 a_a2_1
  go_wp2_with fail
  refine (q1 W3 _ o_t3.out.sl).mono ?_
  rintro e W4 ⟨rfl, b4⟩
  have z4 : W3.heap.size ≤ W4.heap.size := b4.size
  have B4 : Hid (Below w.heap.size w W4) := B3.out.trans (b4.mono B3.out.size)
  have r_a4 : Hid (W4.heap[w.heap.size]? = some (.cells #[.int .i64 n, .slice ao0 hs.length cap0] 24 (0, 0))) := rowKeep r_a3.out b4
  have o_t4 : Hid (Own W4 (W2.heap.size) (W3.heap.size) 9 (.slice ao_t L_t cap_t) (ss hs)) := Own.later o_t3.out b4 (by omega)
  have c_a4_0 : W4.cell? ⟨w.heap.size, 0, none⟩ = some (.int .i64 n) := row_at r_a4.out 0
  have a_a4_0 : ∀ o, (W4.alloc o).cell? ⟨w.heap.size, 0, none⟩ = some (.int .i64 n) := fun o => keepR c_a4_0 ((Below.refl _ _).alloc (Nat.le_refl _) o)
  have c_a4_1 : W4.cell? ⟨w.heap.size, 1, none⟩ = some (.slice ao0 hs.length cap0) := row_at r_a4.out 1
  have a_a4_1 : ∀ o, (W4.alloc o).cell? ⟨w.heap.size, 1, none⟩ = some (.slice ao0 hs.length cap0) := fun o => keepR c_a4_1 ((Below.refl _ _).alloc (Nat.le_refl _) o)
  clear r_a3 c_a3_0 c_a3_1 a_a3_0 a_a3_1 o_t3
  clear o_t4
  go_wp2_with fail
  refine (to_edge W4 n _ hs (HS.out.later B4.out) (by omega)).mono ?_
  rintro e W5 ⟨v_x, rfl, o_x5, b5⟩
  obtain ⟨ao_x, L_x, cap_x, rfl, hL_x, hM_x⟩ := o_x5.form
  have o_x5 : Hid (Own W5 W4.heap.size W5.heap.size 9 (.slice ao_x L_x cap_x) (ss hs)) := o_x5
  clear hL_x hM_x
  have z5 : W4.heap.size ≤ W5.heap.size := b5.size
  have B5 : Hid (Below w.heap.size w W5) := B4.out.trans (b5.mono B4.out.size)
  have r_a5 : Hid (W5.heap[w.heap.size]? = some (.cells #[.int .i64 n, .slice ao0 hs.length cap0] 24 (0, 0))) := rowKeep r_a4.out b5
  have c_a5_0 : W5.cell? ⟨w.heap.size, 0, none⟩ = some (.int .i64 n) := row_at r_a5.out 0
  have a_a5_0 : ∀ o, (W5.alloc o).cell? ⟨w.heap.size, 0, none⟩ = some (.int .i64 n) := fun o => keepR c_a5_0 ((Below.refl _ _).alloc (Nat.le_refl _) o)
  have c_a5_1 : W5.cell? ⟨w.heap.size, 1, none⟩ = some (.slice ao0 hs.length cap0) := row_at r_a5.out 1
  have a_a5_1 : ∀ o, (W5.alloc o).cell? ⟨w.heap.size, 1, none⟩ = some (.slice ao0 hs.length cap0) := fun o => keepR c_a5_1 ((Below.refl _ _).alloc (Nat.le_refl _) o)
  clear r_a4 c_a4_0 c_a4_1 a_a4_0 a_a4_1
  obtain ⟨W6, HW6, b6, y6, r_x06⟩ : ∃ X, Hid ((W5.alloc (.cells #[.int .i64 n, .slice ao_x L_x cap_x] 27)) = X) ∧ Below W5.heap.size W5 X ∧ W5.heap.size + 1 ≤ X.heap.size ∧ Hid (X.heap[W5.heap.size]? = some (.cells #[.int .i64 n, .slice ao_x L_x cap_x] 27 (0, 0))) := ⟨_, rfl, (Below.refl _ _).alloc (Nat.le_refl _) _, by simp, heap_alloc_new _ _⟩
  have z6 : W5.heap.size ≤ W6.heap.size := b6.size
  have B6 : Hid (Below w.heap.size w W6) := B5.out.trans (b6.mono B5.out.size)
  have r_a6 : Hid (W6.heap[w.heap.size]? = some (.cells #[.int .i64 n, .slice ao0 hs.length cap0] 24 (0, 0))) := rowKeep r_a5.out b6
  have o_x6 : Hid (Own W6 (W4.heap.size) (W5.heap.size) 9 (.slice ao_x L_x cap_x) (ss hs)) := Own.later o_x5.out b6 (by omega)
  have c_a6_0 : W6.cell? ⟨w.heap.size, 0, none⟩ = some (.int .i64 n) := row_at r_a6.out 0
  have a_a6_0 : ∀ o, (W6.alloc o).cell? ⟨w.heap.size, 0, none⟩ = some (.int .i64 n) := fun o => keepR c_a6_0 ((Below.refl _ _).alloc (Nat.le_refl _) o)
  have c_a6_1 : W6.cell? ⟨w.heap.size, 1, none⟩ = some (.slice ao0 hs.length cap0) := row_at r_a6.out 1
  have a_a6_1 : ∀ o, (W6.alloc o).cell? ⟨w.heap.size, 1, none⟩ = some (.slice ao0 hs.length cap0) := fun o => keepR c_a6_1 ((Below.refl _ _).alloc (Nat.le_refl _) o)
  have c_x06_0 : W6.cell? ⟨W5.heap.size, 0, none⟩ = some (.int .i64 n) := row_at r_x06.out 0
  have a_x06_0 : ∀ o, (W6.alloc o).cell? ⟨W5.heap.size, 0, none⟩ = some (.int .i64 n) := fun o => keepR c_x06_0 ((Below.refl _ _).alloc (Nat.le_refl _) o)
  have c_x06_1 : W6.cell? ⟨W5.heap.size, 1, none⟩ = some (.slice ao_x L_x cap_x) := row_at r_x06.out 1
  have a_x06_1 : ∀ o, (W6.alloc o).cell? ⟨W5.heap.size, 1, none⟩ = some (.slice ao_x L_x cap_x) := fun o => keepR c_x06_1 ((Below.refl _ _).alloc (Nat.le_refl _) o)
  clear r_a5 c_a5_0 c_a5_1 o_x5
  go_wp2_with fail
  rw [HW6.out]
  clear a_a5_0 a_a5_1
  refine (q2 W6 _ B6.out o_x6.out.sl).mono ?_
  rintro e W7 ⟨rfl, b7⟩
  have z7 : W6.heap.size ≤ W7.heap.size := b7.size
  have B7 : Hid (Below w.heap.size w W7) := B6.out.trans (b7.mono B6.out.size)
  have r_a7 : Hid (W7.heap[w.heap.size]? = some (.cells #[.int .i64 n, .slice ao0 hs.length cap0] 24 (0, 0))) := rowKeep r_a6.out b7
  have r_x07 : Hid (W7.heap[W5.heap.size]? = some (.cells #[.int .i64 n, .slice ao_x L_x cap_x] 27 (0, 0))) := rowKeep r_x06.out b7
  have o_x7 : Hid (Own W7 (W4.heap.size) (W5.heap.size) 9 (.slice ao_x L_x cap_x) (ss hs)) := Own.later o_x6.out b7 (by omega)
  have c_a7_0 : W7.cell? ⟨w.heap.size, 0, none⟩ = some (.int .i64 n) := row_at r_a7.out 0
  have a_a7_0 : ∀ o, (W7.alloc o).cell? ⟨w.heap.size, 0, none⟩ = some (.int .i64 n) := fun o => keepR c_a7_0 ((Below.refl _ _).alloc (Nat.le_refl _) o)
  have c_a7_1 : W7.cell? ⟨w.heap.size, 1, none⟩ = some (.slice ao0 hs.length cap0) := row_at r_a7.out 1
  have a_a7_1 : ∀ o, (W7.alloc o).cell? ⟨w.heap.size, 1, none⟩ = some (.slice ao0 hs.length cap0) := fun o => keepR c_a7_1 ((Below.refl _ _).alloc (Nat.le_refl _) o)
  have c_x07_0 : W7.cell? ⟨W5.heap.size, 0, none⟩ = some (.int .i64 n) := row_at r_x07.out 0
  have a_x07_0 : ∀ o, (W7.alloc o).cell? ⟨W5.heap.size, 0, none⟩ = some (.int .i64 n) := fun o => keepR c_x07_0 ((Below.refl _ _).alloc (Nat.le_refl _) o)
  have c_x07_1 : W7.cell? ⟨W5.heap.size, 1, none⟩ = some (.slice ao_x L_x cap_x) := row_at r_x07.out 1
  have a_x07_1 : ∀ o, (W7.alloc o).cell? ⟨W5.heap.size, 1, none⟩ = some (.slice ao_x L_x cap_x) := fun o => keepR c_x07_1 ((Below.refl _ _).alloc (Nat.le_refl _) o)
  clear r_a6 c_a6_0 c_a6_1 a_a6_0 a_a6_1 r_x06 c_x06_0 c_x06_1 a_x06_0 a_x06_1 o_x6
  have nM : (M != M) = false := by simp
  go_wp2_with fail
  refine wp_region_held_drew (S := fun w' => w'.cell? ⟨W5.heap.size, 0, none⟩ = some (.int .i64 n) ∧ w'.cell? ⟨W5.heap.size, 1, none⟩ = some (.slice ao_x L_x cap_x) ∧ w'.cell? ⟨w.heap.size, 0, none⟩ = some (.int .i64 n) ∧ w'.cell? ⟨w.heap.size, 1, none⟩ = some (.slice ao0 hs.length cap0)) (by kernel_rfl) ⟨c_x07_0, c_x07_1, c_a7_0, c_a7_1⟩ (fun hHeld => ?_)
  (refine wpAnyH_take (i := 0) (v := ?v0x1) rfl (by kernel_rfl) (by kernel_rfl) (by kernel_rfl) (fun _ _ _ h => h) (Or.inl ⟨by rfl, ?hy0x1⟩) (by assumption) ?rest0x1; case hy0x1 => (intro w hSw; (try dsimp only at hSw); go_split_ands; go_simp; (try with_reducible rfl)))
  try simp only [Act.put, List.setIfInBounds_toArray, List.set_cons_zero, List.set_cons_succ, List.getElem_toArray, List.getElem_cons_zero, List.getElem_cons_succ]
  (refine wpAnyH_take (i := 1) (v := ?v1x2) rfl (by kernel_rfl) (by kernel_rfl) (by kernel_rfl) (fun _ _ _ h => h) (Or.inl ⟨by rfl, ?hy1x2⟩) (by assumption) ?rest1x2; case hy1x2 => (intro w hSw; (try dsimp only at hSw); go_split_ands; go_simp; (try with_reducible rfl)))
  try simp only [Act.put, List.setIfInBounds_toArray, List.set_cons_zero, List.set_cons_succ, List.getElem_toArray, List.getElem_cons_zero, List.getElem_cons_succ]
  refine wpAnyH_ready (rs := [2]) (by kernel_rfl) (by simp) ?_
  refine AllReadyH.cons rfl (fun K hK => ?_) AllReadyH.nil
  go_simp
  refine (to_edge W7.drew n _ hs (HS.out.later (Below.drew B7.out)) (by omega)).mono ?_
  rintro e W8 ⟨v_u, rfl, o_u8, b8⟩
  have b8 : Below W7.heap.size W7 W8 := (Below.drew (Below.refl _ _)).trans b8
  refine hK.out _ _ ⟨keepR (W := W7) hHeld.1 b8, keepR (W := W7) hHeld.2.1 b8, keepR (W := W7) hHeld.2.2.1 b8, keepR (W := W7) hHeld.2.2.2 b8⟩ (fun hHeld => ?_)
  clear hK K
  try simp only [Act.put, List.setIfInBounds_toArray, List.set_cons_zero, List.set_cons_succ, List.getElem_toArray, List.getElem_cons_zero, List.getElem_cons_succ]
  have o_u8 : Own W8 W7.heap.size W8.heap.size 9 _ _ := o_u8
  obtain ⟨ao_u, L_u, cap_u, rfl, hL_u, hM_u⟩ := o_u8.form
  have o_u8 : Hid (Own W8 W7.heap.size W8.heap.size 9 (.slice ao_u L_u cap_u) (ss hs)) := o_u8
  clear hL_u hM_u
  have z8 : W7.heap.size ≤ W8.heap.size := b8.size
  have B8 : Hid (Below w.heap.size w W8) := B7.out.trans (b8.mono B7.out.size)
  have r_a8 : Hid (W8.heap[w.heap.size]? = some (.cells #[.int .i64 n, .slice ao0 hs.length cap0] 24 (0, 0))) := rowKeep r_a7.out b8
  have r_x08 : Hid (W8.heap[W5.heap.size]? = some (.cells #[.int .i64 n, .slice ao_x L_x cap_x] 27 (0, 0))) := rowKeep r_x07.out b8
  have o_x8 : Hid (Own W8 (W4.heap.size) (W5.heap.size) 9 (.slice ao_x L_x cap_x) (ss hs)) := Own.later o_x7.out b8 (by omega)
  have c_a8_0 : W8.cell? ⟨w.heap.size, 0, none⟩ = some (.int .i64 n) := row_at r_a8.out 0
  have a_a8_0 : ∀ o, (W8.alloc o).cell? ⟨w.heap.size, 0, none⟩ = some (.int .i64 n) := fun o => keepR c_a8_0 ((Below.refl _ _).alloc (Nat.le_refl _) o)
  have c_a8_1 : W8.cell? ⟨w.heap.size, 1, none⟩ = some (.slice ao0 hs.length cap0) := row_at r_a8.out 1
  have a_a8_1 : ∀ o, (W8.alloc o).cell? ⟨w.heap.size, 1, none⟩ = some (.slice ao0 hs.length cap0) := fun o => keepR c_a8_1 ((Below.refl _ _).alloc (Nat.le_refl _) o)
  have c_x08_0 : W8.cell? ⟨W5.heap.size, 0, none⟩ = some (.int .i64 n) := row_at r_x08.out 0
  have a_x08_0 : ∀ o, (W8.alloc o).cell? ⟨W5.heap.size, 0, none⟩ = some (.int .i64 n) := fun o => keepR c_x08_0 ((Below.refl _ _).alloc (Nat.le_refl _) o)
  have c_x08_1 : W8.cell? ⟨W5.heap.size, 1, none⟩ = some (.slice ao_x L_x cap_x) := row_at r_x08.out 1
  have a_x08_1 : ∀ o, (W8.alloc o).cell? ⟨W5.heap.size, 1, none⟩ = some (.slice ao_x L_x cap_x) := fun o => keepR c_x08_1 ((Below.refl _ _).alloc (Nat.le_refl _) o)
  clear r_a7 c_a7_0 c_a7_1 a_a7_0 a_a7_1 r_x07 c_x07_0 c_x07_1 a_x07_0 a_x07_1 o_x7
  refine wpAnyH_ready (rs := [3]) (by kernel_rfl) (by simp) ?_
  refine AllReadyH.cons rfl (fun K hK => ?_) AllReadyH.nil
  go_simp
  refine (eq_edge W8 n _ _ hs o_x8.out.sl o_u8.out.sl (by omega)).mono ?_
  rintro e W9 ⟨rfl, b9⟩
  refine hK.out _ _ ⟨keepR (W := W8) hHeld.1 b9, keepR (W := W8) hHeld.2.1 b9, keepR (W := W8) hHeld.2.2.1 b9, keepR (W := W8) hHeld.2.2.2 b9⟩ (fun hHeld => ?_)
  clear hK K
  try simp only [Act.put, List.setIfInBounds_toArray, List.set_cons_zero, List.set_cons_succ, List.getElem_toArray, List.getElem_cons_zero, List.getElem_cons_succ]
  have z9 : W8.heap.size ≤ W9.heap.size := b9.size
  have B9 : Hid (Below w.heap.size w W9) := B8.out.trans (b9.mono B8.out.size)
  have r_a9 : Hid (W9.heap[w.heap.size]? = some (.cells #[.int .i64 n, .slice ao0 hs.length cap0] 24 (0, 0))) := rowKeep r_a8.out b9
  have r_x09 : Hid (W9.heap[W5.heap.size]? = some (.cells #[.int .i64 n, .slice ao_x L_x cap_x] 27 (0, 0))) := rowKeep r_x08.out b9
  have o_x9 : Hid (Own W9 (W4.heap.size) (W5.heap.size) 9 (.slice ao_x L_x cap_x) (ss hs)) := Own.later o_x8.out b9 (by omega)
  have o_u9 : Hid (Own W9 (W7.heap.size) (W8.heap.size) 9 (.slice ao_u L_u cap_u) (ss hs)) := Own.later o_u8.out b9 (by omega)
  have c_a9_0 : W9.cell? ⟨w.heap.size, 0, none⟩ = some (.int .i64 n) := row_at r_a9.out 0
  have a_a9_0 : ∀ o, (W9.alloc o).cell? ⟨w.heap.size, 0, none⟩ = some (.int .i64 n) := fun o => keepR c_a9_0 ((Below.refl _ _).alloc (Nat.le_refl _) o)
  have c_a9_1 : W9.cell? ⟨w.heap.size, 1, none⟩ = some (.slice ao0 hs.length cap0) := row_at r_a9.out 1
  have a_a9_1 : ∀ o, (W9.alloc o).cell? ⟨w.heap.size, 1, none⟩ = some (.slice ao0 hs.length cap0) := fun o => keepR c_a9_1 ((Below.refl _ _).alloc (Nat.le_refl _) o)
  have c_x09_0 : W9.cell? ⟨W5.heap.size, 0, none⟩ = some (.int .i64 n) := row_at r_x09.out 0
  have a_x09_0 : ∀ o, (W9.alloc o).cell? ⟨W5.heap.size, 0, none⟩ = some (.int .i64 n) := fun o => keepR c_x09_0 ((Below.refl _ _).alloc (Nat.le_refl _) o)
  have c_x09_1 : W9.cell? ⟨W5.heap.size, 1, none⟩ = some (.slice ao_x L_x cap_x) := row_at r_x09.out 1
  have a_x09_1 : ∀ o, (W9.alloc o).cell? ⟨W5.heap.size, 1, none⟩ = some (.slice ao_x L_x cap_x) := fun o => keepR c_x09_1 ((Below.refl _ _).alloc (Nat.le_refl _) o)
  clear r_a8 c_a8_0 c_a8_1 a_a8_0 a_a8_1 r_x08 c_x08_0 c_x08_1 a_x08_0 a_x08_1 o_x8 o_u8
  (refine wpAnyH_take (i := 4) (v := ?v4x3) rfl (by kernel_rfl) (by kernel_rfl) (by kernel_rfl) (fun _ _ _ h => h) (Or.inl ⟨by rfl, ?hy4x3⟩) (by assumption) ?rest4x3; case hy4x3 => (intro w hSw; (try dsimp only at hSw); go_split_ands; go_simp; (try with_reducible rfl)))
  try simp only [Act.put, List.setIfInBounds_toArray, List.set_cons_zero, List.set_cons_succ, List.getElem_toArray, List.getElem_cons_zero, List.getElem_cons_succ]
  refine wpAnyH_done (by kernel_rfl) ?_ _
  clear hHeld
  go_wp2
  go_ret
  exact ⟨rfl, B9.out⟩

theorem edgeOf_short (l : List ByteArray) : (edgeOf l).2.length ≤ 8 := by
  unfold edgeOf
  split
  · show (edge l).length ≤ 8
    rw [edge_len]
    exact popc_le ⟨l.length, by omega⟩
  · exact Nat.zero_le _

end Go.Proofs.Ytkdlgbccaaehaaa.Ed
