/- Chapter 7: the exact laws, over contracts of the landed functions. -/
import Derived.Test.YthbonifpdpknnacDoorEd6
import Derived.Test.YthbonifpdpknnacDoorEdH
import Derived.Test.YthbonifpdpknnacDoorTrX
namespace Go.Proofs.YthbonifpdpknnacDoor.Ed
open Go.RowKit Go.Proofs.YthbonifpdpknnacDoor.Mem Go.Proofs.YthbonifpdpknnacDoor.Laws Go.Proofs.YthbonifpdpknnacDoor.Bytes Go.Proofs.YthbonifpdpknnacDoor.Sha Go.Proofs.YthbonifpdpknnacDoor.Tr
set_option linter.unusedVariables false
set_option linter.unusedSimpArgs false

theorem carry_short (n : Nat) : ∀ (hs : List ByteArray) (h : ByteArray), (carry n hs h).length ≤ hs.length + 1 := by
  refine natRec (P := fun n => ∀ (hs : List ByteArray) (h : ByteArray), (carry n hs h).length ≤ hs.length + 1) ?_ n
  intro n ih hs h
  by_cases hn : n % 2 = 1
  · rw [carry_if, if_pos hn]
    have := ih (n / 2) (by omega) hs.dropLast (nodeH (hs.getLastD ⟨#[]⟩) h)
    rw [List.length_dropLast] at this
    omega
  · rw [carry_even hn]; simp
theorem addE_short (n : Int) (hs : List ByteArray) (s : ByteArray) : (addE n hs s).2.1.length ≤ hs.length + 1 := by
  unfold addE
  split
  · exact carry_short _ _ _
  · exact Nat.le_succ _

set_option maxRecDepth 1000000 in
set_option maxHeartbeats 8000000 in
theorem exact_root (w : World) (n : Int) (v : Value) (hs : List ByteArray) (h : Sl w v (ss hs)) (hz : ∀ s ∈ hs, s.size ≤ maxLen) (hm : hs.length ≤ maxLen)
    (iF : ∀ W v', Below w.heap.size w W → Sl W v' (ss hs) → hs.length ≤ 1048576 → (∀ s ∈ hs, s.size ≤ 1048576) → Calls Tryd.prog 21 #[.agg #[.int .i64 n, v']] W fun e w' => e = .returned (.string (rootE n hs)) ∧ Below W.heap.size W w') :
    Calls Tryd.prog 5 #[.agg #[.int .i64 n, v]] w fun e w' => e = .returned (.bool true) ∧ Below w.heap.size w w' := by
  have HS : Hid (Sl w v (ss hs)) := h
  unfold maxLen at *
  obtain ⟨ao0, cap0, rfl, hc0⟩ := h.form
  rw [ss_len] at *
  clear h
  have B0 : Hid (Below w.heap.size w w) := Below.refl _ _
  obtain ⟨W1, HW1, b1, y1, r_a1⟩ : ∃ X, Hid ((w.alloc (.cells #[.int .i64 n, .slice ao0 hs.length cap0] 32)) = X) ∧ Below w.heap.size w X ∧ w.heap.size + 1 ≤ X.heap.size ∧ Hid (X.heap[w.heap.size]? = some (.cells #[.int .i64 n, .slice ao0 hs.length cap0] 32 (0, 0))) := ⟨_, rfl, (Below.refl _ _).alloc (Nat.le_refl _) _, by simp, heap_alloc_new _ _⟩
  have z1 : w.heap.size ≤ W1.heap.size := b1.size
  have B1 : Hid (Below w.heap.size w W1) := B0.out.trans (b1.mono B0.out.size)
  have c_a1_0 : W1.cell? ⟨w.heap.size, 0, none⟩ = some (.int .i64 n) := row_at r_a1.out 0
  have a_a1_0 : ∀ o, (W1.alloc o).cell? ⟨w.heap.size, 0, none⟩ = some (.int .i64 n) := fun o => keepR c_a1_0 ((Below.refl _ _).alloc (Nat.le_refl _) o)
  have c_a1_1 : W1.cell? ⟨w.heap.size, 1, none⟩ = some (.slice ao0 hs.length cap0) := row_at r_a1.out 1
  have a_a1_1 : ∀ o, (W1.alloc o).cell? ⟨w.heap.size, 1, none⟩ = some (.slice ao0 hs.length cap0) := fun o => keepR c_a1_1 ((Below.refl _ _).alloc (Nat.le_refl _) o)
  go_enter Tryd.func5, Tryd.ntmps5
  go_wp2_with fail
  rw [HW1.out]
  refine (sz_edge W1 n _ hs 1048576 (HS.out.later B1.out) (fun s h => by have := hz s h; omega) (by omega) (Nat.le_refl _)).mono ?_
  rintro e W2 ⟨⟨r0, rfl, hr0⟩, b2⟩
  have z2 : W1.heap.size ≤ W2.heap.size := b2.size
  have B2 : Hid (Below w.heap.size w W2) := B1.out.trans (b2.mono B1.out.size)
  have r_a2 : Hid (W2.heap[w.heap.size]? = some (.cells #[.int .i64 n, .slice ao0 hs.length cap0] 32 (0, 0))) := rowKeep r_a1.out b2
  have c_a2_0 : W2.cell? ⟨w.heap.size, 0, none⟩ = some (.int .i64 n) := row_at r_a2.out 0
  have a_a2_0 : ∀ o, (W2.alloc o).cell? ⟨w.heap.size, 0, none⟩ = some (.int .i64 n) := fun o => keepR c_a2_0 ((Below.refl _ _).alloc (Nat.le_refl _) o)
  have c_a2_1 : W2.cell? ⟨w.heap.size, 1, none⟩ = some (.slice ao0 hs.length cap0) := row_at r_a2.out 1
  have a_a2_1 : ∀ o, (W2.alloc o).cell? ⟨w.heap.size, 1, none⟩ = some (.slice ao0 hs.length cap0) := fun o => keepR c_a2_1 ((Below.refl _ _).alloc (Nat.le_refl _) o)
  clear r_a1 c_a1_0 c_a1_1 a_a1_0 a_a1_1
  by_cases hr : r0 < 0
  · go_wp2
    go_ret
    exact ⟨rfl, B2.out⟩
  have hr1 : hs.length + Puts.tot hs ≤ 1048576 := by rcases hr0 with h0 | h0; exact absurd h0 hr; exact h0.1
  have hl : hs.length ≤ 1048576 := by omega
  have hzz : ∀ s ∈ hs, s.size ≤ 1048576 := fun s h => Nat.le_trans (mem_tot h) (by omega)
  clear hr0 hz
  obtain ⟨M, hM⟩ : ∃ M, rootE n hs = M := ⟨_, rfl⟩
  have q1 : ∀ W v1, Sl W v1 (ss hs) → _ := fun W v1 h1 => root_specE W n v1 hs h1 (by omega)
  have q2 : ∀ W v1, Below w.heap.size w W → Sl W v1 (ss hs) → _ := fun W v1 hB h1 => iF W v1 hB h1 hl hzz
  simp only [hM] at q1 q2
  clear hM iF
  go_wp2_with fail
  refine (to_edge W2 n _ hs (HS.out.later B2.out) (by omega)).mono ?_
  rintro e W3 ⟨v_t, rfl, o_t3, b3⟩
  obtain ⟨ao_t, L_t, cap_t, rfl, hL_t, hM_t⟩ := o_t3.form
  have o_t3 : Hid (Own W3 W2.heap.size W3.heap.size 9 (.slice ao_t L_t cap_t) (ss hs)) := o_t3
  clear hL_t hM_t
  have z3 : W2.heap.size ≤ W3.heap.size := b3.size
  have B3 : Hid (Below w.heap.size w W3) := B2.out.trans (b3.mono B2.out.size)
  have r_a3 : Hid (W3.heap[w.heap.size]? = some (.cells #[.int .i64 n, .slice ao0 hs.length cap0] 32 (0, 0))) := rowKeep r_a2.out b3
  have c_a3_0 : W3.cell? ⟨w.heap.size, 0, none⟩ = some (.int .i64 n) := row_at r_a3.out 0
  have a_a3_0 : ∀ o, (W3.alloc o).cell? ⟨w.heap.size, 0, none⟩ = some (.int .i64 n) := fun o => keepR c_a3_0 ((Below.refl _ _).alloc (Nat.le_refl _) o)
  have c_a3_1 : W3.cell? ⟨w.heap.size, 1, none⟩ = some (.slice ao0 hs.length cap0) := row_at r_a3.out 1
  have a_a3_1 : ∀ o, (W3.alloc o).cell? ⟨w.heap.size, 1, none⟩ = some (.slice ao0 hs.length cap0) := fun o => keepR c_a3_1 ((Below.refl _ _).alloc (Nat.le_refl _) o)
  clear r_a2 c_a2_0 c_a2_1 a_a2_0 a_a2_1
  go_wp2_with fail
  refine (q1 W3 _ o_t3.out.sl).mono ?_
  rintro e W4 ⟨rfl, b4⟩
  have z4 : W3.heap.size ≤ W4.heap.size := b4.size
  have B4 : Hid (Below w.heap.size w W4) := B3.out.trans (b4.mono B3.out.size)
  have r_a4 : Hid (W4.heap[w.heap.size]? = some (.cells #[.int .i64 n, .slice ao0 hs.length cap0] 32 (0, 0))) := rowKeep r_a3.out b4
  have o_t4 : Hid (Own W4 (W2.heap.size) (W3.heap.size) 9 (.slice ao_t L_t cap_t) (ss hs)) := Own.later o_t3.out b4 (by omega)
  have c_a4_0 : W4.cell? ⟨w.heap.size, 0, none⟩ = some (.int .i64 n) := row_at r_a4.out 0
  have a_a4_0 : ∀ o, (W4.alloc o).cell? ⟨w.heap.size, 0, none⟩ = some (.int .i64 n) := fun o => keepR c_a4_0 ((Below.refl _ _).alloc (Nat.le_refl _) o)
  have c_a4_1 : W4.cell? ⟨w.heap.size, 1, none⟩ = some (.slice ao0 hs.length cap0) := row_at r_a4.out 1
  have a_a4_1 : ∀ o, (W4.alloc o).cell? ⟨w.heap.size, 1, none⟩ = some (.slice ao0 hs.length cap0) := fun o => keepR c_a4_1 ((Below.refl _ _).alloc (Nat.le_refl _) o)
  clear r_a3 c_a3_0 c_a3_1 a_a3_0 a_a3_1 o_t3
  clear o_t4
  go_wp2_with fail
  refine (to_edge W4 n _ hs (HS.out.later B4.out) (by omega)).mono ?_
  rintro e W5 ⟨v_x, rfl, o_x5, b5⟩
  obtain ⟨ao_x, L_x, cap_x, rfl, hL_x, hM_x⟩ := o_x5.form
  have o_x5 : Hid (Own W5 W4.heap.size W5.heap.size 9 (.slice ao_x L_x cap_x) (ss hs)) := o_x5
  clear hL_x hM_x
  have z5 : W4.heap.size ≤ W5.heap.size := b5.size
  have B5 : Hid (Below w.heap.size w W5) := B4.out.trans (b5.mono B4.out.size)
  have r_a5 : Hid (W5.heap[w.heap.size]? = some (.cells #[.int .i64 n, .slice ao0 hs.length cap0] 32 (0, 0))) := rowKeep r_a4.out b5
  have c_a5_0 : W5.cell? ⟨w.heap.size, 0, none⟩ = some (.int .i64 n) := row_at r_a5.out 0
  have a_a5_0 : ∀ o, (W5.alloc o).cell? ⟨w.heap.size, 0, none⟩ = some (.int .i64 n) := fun o => keepR c_a5_0 ((Below.refl _ _).alloc (Nat.le_refl _) o)
  have c_a5_1 : W5.cell? ⟨w.heap.size, 1, none⟩ = some (.slice ao0 hs.length cap0) := row_at r_a5.out 1
  have a_a5_1 : ∀ o, (W5.alloc o).cell? ⟨w.heap.size, 1, none⟩ = some (.slice ao0 hs.length cap0) := fun o => keepR c_a5_1 ((Below.refl _ _).alloc (Nat.le_refl _) o)
  clear r_a4 c_a4_0 c_a4_1 a_a4_0 a_a4_1
  obtain ⟨W6, HW6, b6, y6, r_x06⟩ : ∃ X, Hid ((W5.alloc (.cells #[.int .i64 n, .slice ao_x L_x cap_x] 25)) = X) ∧ Below W5.heap.size W5 X ∧ W5.heap.size + 1 ≤ X.heap.size ∧ Hid (X.heap[W5.heap.size]? = some (.cells #[.int .i64 n, .slice ao_x L_x cap_x] 25 (0, 0))) := ⟨_, rfl, (Below.refl _ _).alloc (Nat.le_refl _) _, by simp, heap_alloc_new _ _⟩
  have z6 : W5.heap.size ≤ W6.heap.size := b6.size
  have B6 : Hid (Below w.heap.size w W6) := B5.out.trans (b6.mono B5.out.size)
  have r_a6 : Hid (W6.heap[w.heap.size]? = some (.cells #[.int .i64 n, .slice ao0 hs.length cap0] 32 (0, 0))) := rowKeep r_a5.out b6
  have o_x6 : Hid (Own W6 (W4.heap.size) (W5.heap.size) 9 (.slice ao_x L_x cap_x) (ss hs)) := Own.later o_x5.out b6 (by omega)
  have c_a6_0 : W6.cell? ⟨w.heap.size, 0, none⟩ = some (.int .i64 n) := row_at r_a6.out 0
  have a_a6_0 : ∀ o, (W6.alloc o).cell? ⟨w.heap.size, 0, none⟩ = some (.int .i64 n) := fun o => keepR c_a6_0 ((Below.refl _ _).alloc (Nat.le_refl _) o)
  have c_a6_1 : W6.cell? ⟨w.heap.size, 1, none⟩ = some (.slice ao0 hs.length cap0) := row_at r_a6.out 1
  have a_a6_1 : ∀ o, (W6.alloc o).cell? ⟨w.heap.size, 1, none⟩ = some (.slice ao0 hs.length cap0) := fun o => keepR c_a6_1 ((Below.refl _ _).alloc (Nat.le_refl _) o)
  have c_x06_0 : W6.cell? ⟨W5.heap.size, 0, none⟩ = some (.int .i64 n) := row_at r_x06.out 0
  have a_x06_0 : ∀ o, (W6.alloc o).cell? ⟨W5.heap.size, 0, none⟩ = some (.int .i64 n) := fun o => keepR c_x06_0 ((Below.refl _ _).alloc (Nat.le_refl _) o)
  have c_x06_1 : W6.cell? ⟨W5.heap.size, 1, none⟩ = some (.slice ao_x L_x cap_x) := row_at r_x06.out 1
  have a_x06_1 : ∀ o, (W6.alloc o).cell? ⟨W5.heap.size, 1, none⟩ = some (.slice ao_x L_x cap_x) := fun o => keepR c_x06_1 ((Below.refl _ _).alloc (Nat.le_refl _) o)
  clear r_a5 c_a5_0 c_a5_1 o_x5
  go_wp2_with fail
  rw [HW6.out]
  clear a_a5_0 a_a5_1
  refine (q2 W6 _ B6.out o_x6.out.sl).mono ?_
  rintro e W7 ⟨rfl, b7⟩
  have z7 : W6.heap.size ≤ W7.heap.size := b7.size
  have B7 : Hid (Below w.heap.size w W7) := B6.out.trans (b7.mono B6.out.size)
  have r_a7 : Hid (W7.heap[w.heap.size]? = some (.cells #[.int .i64 n, .slice ao0 hs.length cap0] 32 (0, 0))) := rowKeep r_a6.out b7
  have r_x07 : Hid (W7.heap[W5.heap.size]? = some (.cells #[.int .i64 n, .slice ao_x L_x cap_x] 25 (0, 0))) := rowKeep r_x06.out b7
  have o_x7 : Hid (Own W7 (W4.heap.size) (W5.heap.size) 9 (.slice ao_x L_x cap_x) (ss hs)) := Own.later o_x6.out b7 (by omega)
  have c_a7_0 : W7.cell? ⟨w.heap.size, 0, none⟩ = some (.int .i64 n) := row_at r_a7.out 0
  have a_a7_0 : ∀ o, (W7.alloc o).cell? ⟨w.heap.size, 0, none⟩ = some (.int .i64 n) := fun o => keepR c_a7_0 ((Below.refl _ _).alloc (Nat.le_refl _) o)
  have c_a7_1 : W7.cell? ⟨w.heap.size, 1, none⟩ = some (.slice ao0 hs.length cap0) := row_at r_a7.out 1
  have a_a7_1 : ∀ o, (W7.alloc o).cell? ⟨w.heap.size, 1, none⟩ = some (.slice ao0 hs.length cap0) := fun o => keepR c_a7_1 ((Below.refl _ _).alloc (Nat.le_refl _) o)
  have c_x07_0 : W7.cell? ⟨W5.heap.size, 0, none⟩ = some (.int .i64 n) := row_at r_x07.out 0
  have a_x07_0 : ∀ o, (W7.alloc o).cell? ⟨W5.heap.size, 0, none⟩ = some (.int .i64 n) := fun o => keepR c_x07_0 ((Below.refl _ _).alloc (Nat.le_refl _) o)
  have c_x07_1 : W7.cell? ⟨W5.heap.size, 1, none⟩ = some (.slice ao_x L_x cap_x) := row_at r_x07.out 1
  have a_x07_1 : ∀ o, (W7.alloc o).cell? ⟨W5.heap.size, 1, none⟩ = some (.slice ao_x L_x cap_x) := fun o => keepR c_x07_1 ((Below.refl _ _).alloc (Nat.le_refl _) o)
  clear r_a6 c_a6_0 c_a6_1 a_a6_0 a_a6_1 r_x06 c_x06_0 c_x06_1 a_x06_0 a_x06_1 o_x6
  have nM : (M.toList != M.toList) = false := by simp
  go_wp2_with fail
  refine wp_region_held_drew (S := fun w' => w'.cell? ⟨W5.heap.size, 0, none⟩ = some (.int .i64 n) ∧ w'.cell? ⟨W5.heap.size, 1, none⟩ = some (.slice ao_x L_x cap_x) ∧ w'.cell? ⟨w.heap.size, 0, none⟩ = some (.int .i64 n) ∧ w'.cell? ⟨w.heap.size, 1, none⟩ = some (.slice ao0 hs.length cap0)) (by kernel_rfl) ⟨c_x07_0, c_x07_1, c_a7_0, c_a7_1⟩ (fun hHeld => ?_)
  (refine wpAnyH_take (i := 0) (v := ?v0x4) rfl (by kernel_rfl) (by kernel_rfl) (by kernel_rfl) (fun _ _ _ h => h) (Or.inl ⟨by rfl, ?hy0x4⟩) (by assumption) ?rest0x4; case hy0x4 => (intro w hSw; (try dsimp only at hSw); go_split_ands; go_simp; (try with_reducible rfl)))
  try simp only [Act.put, List.setIfInBounds_toArray, List.set_cons_zero, List.set_cons_succ, List.getElem_toArray, List.getElem_cons_zero, List.getElem_cons_succ]
  (refine wpAnyH_take (i := 1) (v := ?v1x5) rfl (by kernel_rfl) (by kernel_rfl) (by kernel_rfl) (fun _ _ _ h => h) (Or.inl ⟨by rfl, ?hy1x5⟩) (by assumption) ?rest1x5; case hy1x5 => (intro w hSw; (try dsimp only at hSw); go_split_ands; go_simp; (try with_reducible rfl)))
  try simp only [Act.put, List.setIfInBounds_toArray, List.set_cons_zero, List.set_cons_succ, List.getElem_toArray, List.getElem_cons_zero, List.getElem_cons_succ]
  refine wpAnyH_ready (rs := [2]) (by kernel_rfl) (by simp) ?_
  refine AllReadyH.cons rfl (fun K hK => ?_) AllReadyH.nil
  go_simp
  refine (to_edge W7.drew n _ hs (HS.out.later (Below.drew B7.out)) (by omega)).mono ?_
  rintro e W8 ⟨v_u, rfl, o_u8, b8⟩
  have b8 : Below W7.heap.size W7 W8 := (Below.drew (Below.refl _ _)).trans b8
  refine hK.out _ _ ⟨keepR (W := W7) hHeld.1 b8, keepR (W := W7) hHeld.2.1 b8, keepR (W := W7) hHeld.2.2.1 b8, keepR (W := W7) hHeld.2.2.2 b8⟩ (fun hHeld => ?_)
  clear hK K
  try simp only [Act.put, List.setIfInBounds_toArray, List.set_cons_zero, List.set_cons_succ, List.getElem_toArray, List.getElem_cons_zero, List.getElem_cons_succ]
  have o_u8 : Own W8 W7.heap.size W8.heap.size 9 _ _ := o_u8
  obtain ⟨ao_u, L_u, cap_u, rfl, hL_u, hM_u⟩ := o_u8.form
  have o_u8 : Hid (Own W8 W7.heap.size W8.heap.size 9 (.slice ao_u L_u cap_u) (ss hs)) := o_u8
  clear hL_u hM_u
  have z8 : W7.heap.size ≤ W8.heap.size := b8.size
  have B8 : Hid (Below w.heap.size w W8) := B7.out.trans (b8.mono B7.out.size)
  have r_a8 : Hid (W8.heap[w.heap.size]? = some (.cells #[.int .i64 n, .slice ao0 hs.length cap0] 32 (0, 0))) := rowKeep r_a7.out b8
  have r_x08 : Hid (W8.heap[W5.heap.size]? = some (.cells #[.int .i64 n, .slice ao_x L_x cap_x] 25 (0, 0))) := rowKeep r_x07.out b8
  have o_x8 : Hid (Own W8 (W4.heap.size) (W5.heap.size) 9 (.slice ao_x L_x cap_x) (ss hs)) := Own.later o_x7.out b8 (by omega)
  have c_a8_0 : W8.cell? ⟨w.heap.size, 0, none⟩ = some (.int .i64 n) := row_at r_a8.out 0
  have a_a8_0 : ∀ o, (W8.alloc o).cell? ⟨w.heap.size, 0, none⟩ = some (.int .i64 n) := fun o => keepR c_a8_0 ((Below.refl _ _).alloc (Nat.le_refl _) o)
  have c_a8_1 : W8.cell? ⟨w.heap.size, 1, none⟩ = some (.slice ao0 hs.length cap0) := row_at r_a8.out 1
  have a_a8_1 : ∀ o, (W8.alloc o).cell? ⟨w.heap.size, 1, none⟩ = some (.slice ao0 hs.length cap0) := fun o => keepR c_a8_1 ((Below.refl _ _).alloc (Nat.le_refl _) o)
  have c_x08_0 : W8.cell? ⟨W5.heap.size, 0, none⟩ = some (.int .i64 n) := row_at r_x08.out 0
  have a_x08_0 : ∀ o, (W8.alloc o).cell? ⟨W5.heap.size, 0, none⟩ = some (.int .i64 n) := fun o => keepR c_x08_0 ((Below.refl _ _).alloc (Nat.le_refl _) o)
  have c_x08_1 : W8.cell? ⟨W5.heap.size, 1, none⟩ = some (.slice ao_x L_x cap_x) := row_at r_x08.out 1
  have a_x08_1 : ∀ o, (W8.alloc o).cell? ⟨W5.heap.size, 1, none⟩ = some (.slice ao_x L_x cap_x) := fun o => keepR c_x08_1 ((Below.refl _ _).alloc (Nat.le_refl _) o)
  clear r_a7 c_a7_0 c_a7_1 a_a7_0 a_a7_1 r_x07 c_x07_0 c_x07_1 a_x07_0 a_x07_1 o_x7
  refine wpAnyH_ready (rs := [3]) (by kernel_rfl) (by simp) ?_
  refine AllReadyH.cons rfl (fun K hK => ?_) AllReadyH.nil
  go_simp
  refine (eq_edge W8 n _ _ hs o_x8.out.sl o_u8.out.sl (by omega)).mono ?_
  rintro e W9 ⟨rfl, b9⟩
  refine hK.out _ _ ⟨keepR (W := W8) hHeld.1 b9, keepR (W := W8) hHeld.2.1 b9, keepR (W := W8) hHeld.2.2.1 b9, keepR (W := W8) hHeld.2.2.2 b9⟩ (fun hHeld => ?_)
  clear hK K
  try simp only [Act.put, List.setIfInBounds_toArray, List.set_cons_zero, List.set_cons_succ, List.getElem_toArray, List.getElem_cons_zero, List.getElem_cons_succ]
  have z9 : W8.heap.size ≤ W9.heap.size := b9.size
  have B9 : Hid (Below w.heap.size w W9) := B8.out.trans (b9.mono B8.out.size)
  have r_a9 : Hid (W9.heap[w.heap.size]? = some (.cells #[.int .i64 n, .slice ao0 hs.length cap0] 32 (0, 0))) := rowKeep r_a8.out b9
  have r_x09 : Hid (W9.heap[W5.heap.size]? = some (.cells #[.int .i64 n, .slice ao_x L_x cap_x] 25 (0, 0))) := rowKeep r_x08.out b9
  have o_x9 : Hid (Own W9 (W4.heap.size) (W5.heap.size) 9 (.slice ao_x L_x cap_x) (ss hs)) := Own.later o_x8.out b9 (by omega)
  have o_u9 : Hid (Own W9 (W7.heap.size) (W8.heap.size) 9 (.slice ao_u L_u cap_u) (ss hs)) := Own.later o_u8.out b9 (by omega)
  have c_a9_0 : W9.cell? ⟨w.heap.size, 0, none⟩ = some (.int .i64 n) := row_at r_a9.out 0
  have a_a9_0 : ∀ o, (W9.alloc o).cell? ⟨w.heap.size, 0, none⟩ = some (.int .i64 n) := fun o => keepR c_a9_0 ((Below.refl _ _).alloc (Nat.le_refl _) o)
  have c_a9_1 : W9.cell? ⟨w.heap.size, 1, none⟩ = some (.slice ao0 hs.length cap0) := row_at r_a9.out 1
  have a_a9_1 : ∀ o, (W9.alloc o).cell? ⟨w.heap.size, 1, none⟩ = some (.slice ao0 hs.length cap0) := fun o => keepR c_a9_1 ((Below.refl _ _).alloc (Nat.le_refl _) o)
  have c_x09_0 : W9.cell? ⟨W5.heap.size, 0, none⟩ = some (.int .i64 n) := row_at r_x09.out 0
  have a_x09_0 : ∀ o, (W9.alloc o).cell? ⟨W5.heap.size, 0, none⟩ = some (.int .i64 n) := fun o => keepR c_x09_0 ((Below.refl _ _).alloc (Nat.le_refl _) o)
  have c_x09_1 : W9.cell? ⟨W5.heap.size, 1, none⟩ = some (.slice ao_x L_x cap_x) := row_at r_x09.out 1
  have a_x09_1 : ∀ o, (W9.alloc o).cell? ⟨W5.heap.size, 1, none⟩ = some (.slice ao_x L_x cap_x) := fun o => keepR c_x09_1 ((Below.refl _ _).alloc (Nat.le_refl _) o)
  clear r_a8 c_a8_0 c_a8_1 a_a8_0 a_a8_1 r_x08 c_x08_0 c_x08_1 a_x08_0 a_x08_1 o_x8 o_u8
  (refine wpAnyH_take (i := 4) (v := ?v4x6) rfl (by kernel_rfl) (by kernel_rfl) (by kernel_rfl) (fun _ _ _ h => h) (Or.inl ⟨by rfl, ?hy4x6⟩) (by assumption) ?rest4x6; case hy4x6 => (intro w hSw; (try dsimp only at hSw); go_split_ands; go_simp; (try with_reducible rfl)))
  try simp only [Act.put, List.setIfInBounds_toArray, List.set_cons_zero, List.set_cons_succ, List.getElem_toArray, List.getElem_cons_zero, List.getElem_cons_succ]
  refine wpAnyH_done (by kernel_rfl) ?_ _
  clear hHeld
  go_wp2
  go_ret
  exact ⟨rfl, B9.out⟩

set_option maxRecDepth 1000000 in
set_option maxHeartbeats 8000000 in
theorem exact_add (w : World) (n : Int) (v : Value) (hs : List ByteArray) (s : ByteArray) (h : Sl w v (ss hs)) (hz : ∀ s ∈ hs, s.size ≤ maxLen) (hm : hs.length ≤ maxLen) (hm2 : s.size ≤ maxLen)
    (iF : ∀ W v', Below w.heap.size w W → Sl W v' (ss hs) → hs.length ≤ 1048576 → (∀ s ∈ hs, s.size ≤ 1048576) → s.size ≤ 1048576 → Calls Tryd.prog 19 #[.agg #[.int .i64 n, v'], .string s] W fun e w' => ∃ v'', e = .returned (.tuple #[.agg #[.int .i64 (addE n hs s).1, v''], .bool (addE n hs s).2.2]) ∧ Own w' W.heap.size w'.heap.size 9 v'' (ss (addE n hs s).2.1) ∧ Below W.heap.size W w') :
    Calls Tryd.prog 4 #[.agg #[.int .i64 n, v], .string s] w fun e w' => e = .returned (.bool true) ∧ Below w.heap.size w w' := by
  have HS : Hid (Sl w v (ss hs)) := h
  unfold maxLen at *
  obtain ⟨ao0, cap0, rfl, hc0⟩ := h.form
  rw [ss_len] at *
  clear h
  have B0 : Hid (Below w.heap.size w w) := Below.refl _ _
  obtain ⟨W1, HW1, b1, y1, r_a1⟩ : ∃ X, Hid ((w.alloc (.cells #[.int .i64 n, .slice ao0 hs.length cap0] 32)) = X) ∧ Below w.heap.size w X ∧ w.heap.size + 1 ≤ X.heap.size ∧ Hid (X.heap[w.heap.size]? = some (.cells #[.int .i64 n, .slice ao0 hs.length cap0] 32 (0, 0))) := ⟨_, rfl, (Below.refl _ _).alloc (Nat.le_refl _) _, by simp, heap_alloc_new _ _⟩
  have z1 : w.heap.size ≤ W1.heap.size := b1.size
  have B1 : Hid (Below w.heap.size w W1) := B0.out.trans (b1.mono B0.out.size)
  have c_a1_0 : W1.cell? ⟨w.heap.size, 0, none⟩ = some (.int .i64 n) := row_at r_a1.out 0
  have a_a1_0 : ∀ o, (W1.alloc o).cell? ⟨w.heap.size, 0, none⟩ = some (.int .i64 n) := fun o => keepR c_a1_0 ((Below.refl _ _).alloc (Nat.le_refl _) o)
  have c_a1_1 : W1.cell? ⟨w.heap.size, 1, none⟩ = some (.slice ao0 hs.length cap0) := row_at r_a1.out 1
  have a_a1_1 : ∀ o, (W1.alloc o).cell? ⟨w.heap.size, 1, none⟩ = some (.slice ao0 hs.length cap0) := fun o => keepR c_a1_1 ((Below.refl _ _).alloc (Nat.le_refl _) o)
  by_cases hsb : 1048576 < s.size
  · have hb : (1048576 : Int) < (s.size : Int) := by omega
    clear iF
    go_enter Tryd.func4, Tryd.ntmps4
    go_wp2
    go_ret
    rw [HW1.out]
    exact ⟨rfl, B1.out⟩
  have hb : ¬ (1048576 : Int) < (s.size : Int) := by omega
  go_enter Tryd.func4, Tryd.ntmps4
  go_wp2_with fail
  rw [HW1.out]
  refine (sz_edge W1 n _ hs 1048576 (HS.out.later B1.out) (fun s h => by have := hz s h; omega) (by omega) (Nat.le_refl _)).mono ?_
  rintro e W2 ⟨⟨r0, rfl, hr0⟩, b2⟩
  have z2 : W1.heap.size ≤ W2.heap.size := b2.size
  have B2 : Hid (Below w.heap.size w W2) := B1.out.trans (b2.mono B1.out.size)
  have r_a2 : Hid (W2.heap[w.heap.size]? = some (.cells #[.int .i64 n, .slice ao0 hs.length cap0] 32 (0, 0))) := rowKeep r_a1.out b2
  have c_a2_0 : W2.cell? ⟨w.heap.size, 0, none⟩ = some (.int .i64 n) := row_at r_a2.out 0
  have a_a2_0 : ∀ o, (W2.alloc o).cell? ⟨w.heap.size, 0, none⟩ = some (.int .i64 n) := fun o => keepR c_a2_0 ((Below.refl _ _).alloc (Nat.le_refl _) o)
  have c_a2_1 : W2.cell? ⟨w.heap.size, 1, none⟩ = some (.slice ao0 hs.length cap0) := row_at r_a2.out 1
  have a_a2_1 : ∀ o, (W2.alloc o).cell? ⟨w.heap.size, 1, none⟩ = some (.slice ao0 hs.length cap0) := fun o => keepR c_a2_1 ((Below.refl _ _).alloc (Nat.le_refl _) o)
  clear r_a1 c_a1_0 c_a1_1 a_a1_0 a_a1_1
  by_cases hr : r0 < 0
  · go_wp2
    go_ret
    exact ⟨rfl, B2.out⟩
  have hr1 : hs.length + Puts.tot hs ≤ 1048576 := by rcases hr0 with h0 | h0; exact absurd h0 hr; exact h0.1
  have hl : hs.length ≤ 1048576 := by omega
  have hzz : ∀ s ∈ hs, s.size ≤ 1048576 := fun s h => Nat.le_trans (mem_tot h) (by omega)
  clear hr0 hz
  have hsh := addE_short n hs s
  have q1 : ∀ W v1, Sl W v1 (ss hs) → _ := fun W v1 h1 => add_spec W n v1 hs s h1 (by omega) (by omega)
  have q2 : ∀ W v1, Below w.heap.size w W → Sl W v1 (ss hs) → _ := fun W v1 hB h1 => iF W v1 hB h1 hl hzz (by omega)
  obtain ⟨n', R, ok, hA⟩ : ∃ n' R ok, addE n hs s = (n', R, ok) := ⟨_, _, _, rfl⟩
  simp only [hA] at q1 q2 hsh
  clear hA iF hsb
  have hRl : R.length ≤ 1048577 := by omega
  have nok : (ok != ok) = false := by simp
  clear hsh
  go_wp2_with fail
  refine (to_edge W2 n _ hs (HS.out.later B2.out) (by omega)).mono ?_
  rintro e W3 ⟨v_t, rfl, o_t3, b3⟩
  obtain ⟨ao_t, L_t, cap_t, rfl, hL_t, hM_t⟩ := o_t3.form
  have o_t3 : Hid (Own W3 W2.heap.size W3.heap.size 9 (.slice ao_t L_t cap_t) (ss hs)) := o_t3
  clear hL_t hM_t
  have z3 : W2.heap.size ≤ W3.heap.size := b3.size
  have B3 : Hid (Below w.heap.size w W3) := B2.out.trans (b3.mono B2.out.size)
  have r_a3 : Hid (W3.heap[w.heap.size]? = some (.cells #[.int .i64 n, .slice ao0 hs.length cap0] 32 (0, 0))) := rowKeep r_a2.out b3
  have c_a3_0 : W3.cell? ⟨w.heap.size, 0, none⟩ = some (.int .i64 n) := row_at r_a3.out 0
  have a_a3_0 : ∀ o, (W3.alloc o).cell? ⟨w.heap.size, 0, none⟩ = some (.int .i64 n) := fun o => keepR c_a3_0 ((Below.refl _ _).alloc (Nat.le_refl _) o)
  have c_a3_1 : W3.cell? ⟨w.heap.size, 1, none⟩ = some (.slice ao0 hs.length cap0) := row_at r_a3.out 1
  have a_a3_1 : ∀ o, (W3.alloc o).cell? ⟨w.heap.size, 1, none⟩ = some (.slice ao0 hs.length cap0) := fun o => keepR c_a3_1 ((Below.refl _ _).alloc (Nat.le_refl _) o)
  clear r_a2 c_a2_0 c_a2_1 a_a2_0 a_a2_1
  go_wp2_with fail
  refine (q1 W3 _ o_t3.out.sl).mono ?_
  rintro e W4 ⟨v_wv, rfl, o_wv4, b4⟩
  obtain ⟨ao_wv, L_wv, cap_wv, rfl, hL_wv, hM_wv⟩ := o_wv4.form
  have o_wv4 : Hid (Own W4 W3.heap.size W4.heap.size 9 (.slice ao_wv L_wv cap_wv) (ss R)) := o_wv4
  clear hL_wv hM_wv
  have z4 : W3.heap.size ≤ W4.heap.size := b4.size
  have B4 : Hid (Below w.heap.size w W4) := B3.out.trans (b4.mono B3.out.size)
  have r_a4 : Hid (W4.heap[w.heap.size]? = some (.cells #[.int .i64 n, .slice ao0 hs.length cap0] 32 (0, 0))) := rowKeep r_a3.out b4
  have o_t4 : Hid (Own W4 (W2.heap.size) (W3.heap.size) 9 (.slice ao_t L_t cap_t) (ss hs)) := Own.later o_t3.out b4 (by omega)
  have c_a4_0 : W4.cell? ⟨w.heap.size, 0, none⟩ = some (.int .i64 n) := row_at r_a4.out 0
  have a_a4_0 : ∀ o, (W4.alloc o).cell? ⟨w.heap.size, 0, none⟩ = some (.int .i64 n) := fun o => keepR c_a4_0 ((Below.refl _ _).alloc (Nat.le_refl _) o)
  have c_a4_1 : W4.cell? ⟨w.heap.size, 1, none⟩ = some (.slice ao0 hs.length cap0) := row_at r_a4.out 1
  have a_a4_1 : ∀ o, (W4.alloc o).cell? ⟨w.heap.size, 1, none⟩ = some (.slice ao0 hs.length cap0) := fun o => keepR c_a4_1 ((Below.refl _ _).alloc (Nat.le_refl _) o)
  clear r_a3 c_a3_0 c_a3_1 a_a3_0 a_a3_1 o_t3
  clear o_t4
  obtain ⟨W5, HW5, b5, y5, r_w05⟩ : ∃ X, Hid ((W4.alloc (.cells #[.int .i64 n', .slice ao_wv L_wv cap_wv] 25)) = X) ∧ Below W4.heap.size W4 X ∧ W4.heap.size + 1 ≤ X.heap.size ∧ Hid (X.heap[W4.heap.size]? = some (.cells #[.int .i64 n', .slice ao_wv L_wv cap_wv] 25 (0, 0))) := ⟨_, rfl, (Below.refl _ _).alloc (Nat.le_refl _) _, by simp, heap_alloc_new _ _⟩
  have z5 : W4.heap.size ≤ W5.heap.size := b5.size
  have B5 : Hid (Below w.heap.size w W5) := B4.out.trans (b5.mono B4.out.size)
  have r_a5 : Hid (W5.heap[w.heap.size]? = some (.cells #[.int .i64 n, .slice ao0 hs.length cap0] 32 (0, 0))) := rowKeep r_a4.out b5
  have o_wv5 : Hid (Own W5 (W3.heap.size) (W4.heap.size) 9 (.slice ao_wv L_wv cap_wv) (ss R)) := Own.later o_wv4.out b5 (by omega)
  have c_a5_0 : W5.cell? ⟨w.heap.size, 0, none⟩ = some (.int .i64 n) := row_at r_a5.out 0
  have a_a5_0 : ∀ o, (W5.alloc o).cell? ⟨w.heap.size, 0, none⟩ = some (.int .i64 n) := fun o => keepR c_a5_0 ((Below.refl _ _).alloc (Nat.le_refl _) o)
  have c_a5_1 : W5.cell? ⟨w.heap.size, 1, none⟩ = some (.slice ao0 hs.length cap0) := row_at r_a5.out 1
  have a_a5_1 : ∀ o, (W5.alloc o).cell? ⟨w.heap.size, 1, none⟩ = some (.slice ao0 hs.length cap0) := fun o => keepR c_a5_1 ((Below.refl _ _).alloc (Nat.le_refl _) o)
  have c_w05_0 : W5.cell? ⟨W4.heap.size, 0, none⟩ = some (.int .i64 n') := row_at r_w05.out 0
  have a_w05_0 : ∀ o, (W5.alloc o).cell? ⟨W4.heap.size, 0, none⟩ = some (.int .i64 n') := fun o => keepR c_w05_0 ((Below.refl _ _).alloc (Nat.le_refl _) o)
  have c_w05_1 : W5.cell? ⟨W4.heap.size, 1, none⟩ = some (.slice ao_wv L_wv cap_wv) := row_at r_w05.out 1
  have a_w05_1 : ∀ o, (W5.alloc o).cell? ⟨W4.heap.size, 1, none⟩ = some (.slice ao_wv L_wv cap_wv) := fun o => keepR c_w05_1 ((Below.refl _ _).alloc (Nat.le_refl _) o)
  clear r_a4 c_a4_0 c_a4_1 o_wv4
  go_wp2_with fail
  rw [HW5.out]
  clear a_a4_0 a_a4_1
  refine (to_edge W5 n _ hs (HS.out.later B5.out) (by omega)).mono ?_
  rintro e W6 ⟨v_x, rfl, o_x6, b6⟩
  obtain ⟨ao_x, L_x, cap_x, rfl, hL_x, hM_x⟩ := o_x6.form
  have o_x6 : Hid (Own W6 W5.heap.size W6.heap.size 9 (.slice ao_x L_x cap_x) (ss hs)) := o_x6
  clear hL_x hM_x
  have z6 : W5.heap.size ≤ W6.heap.size := b6.size
  have B6 : Hid (Below w.heap.size w W6) := B5.out.trans (b6.mono B5.out.size)
  have r_a6 : Hid (W6.heap[w.heap.size]? = some (.cells #[.int .i64 n, .slice ao0 hs.length cap0] 32 (0, 0))) := rowKeep r_a5.out b6
  have r_w06 : Hid (W6.heap[W4.heap.size]? = some (.cells #[.int .i64 n', .slice ao_wv L_wv cap_wv] 25 (0, 0))) := rowKeep r_w05.out b6
  have o_wv6 : Hid (Own W6 (W3.heap.size) (W4.heap.size) 9 (.slice ao_wv L_wv cap_wv) (ss R)) := Own.later o_wv5.out b6 (by omega)
  have c_a6_0 : W6.cell? ⟨w.heap.size, 0, none⟩ = some (.int .i64 n) := row_at r_a6.out 0
  have a_a6_0 : ∀ o, (W6.alloc o).cell? ⟨w.heap.size, 0, none⟩ = some (.int .i64 n) := fun o => keepR c_a6_0 ((Below.refl _ _).alloc (Nat.le_refl _) o)
  have c_a6_1 : W6.cell? ⟨w.heap.size, 1, none⟩ = some (.slice ao0 hs.length cap0) := row_at r_a6.out 1
  have a_a6_1 : ∀ o, (W6.alloc o).cell? ⟨w.heap.size, 1, none⟩ = some (.slice ao0 hs.length cap0) := fun o => keepR c_a6_1 ((Below.refl _ _).alloc (Nat.le_refl _) o)
  have c_w06_0 : W6.cell? ⟨W4.heap.size, 0, none⟩ = some (.int .i64 n') := row_at r_w06.out 0
  have a_w06_0 : ∀ o, (W6.alloc o).cell? ⟨W4.heap.size, 0, none⟩ = some (.int .i64 n') := fun o => keepR c_w06_0 ((Below.refl _ _).alloc (Nat.le_refl _) o)
  have c_w06_1 : W6.cell? ⟨W4.heap.size, 1, none⟩ = some (.slice ao_wv L_wv cap_wv) := row_at r_w06.out 1
  have a_w06_1 : ∀ o, (W6.alloc o).cell? ⟨W4.heap.size, 1, none⟩ = some (.slice ao_wv L_wv cap_wv) := fun o => keepR c_w06_1 ((Below.refl _ _).alloc (Nat.le_refl _) o)
  clear r_a5 c_a5_0 c_a5_1 a_a5_0 a_a5_1 r_w05 c_w05_0 c_w05_1 a_w05_0 a_w05_1 o_wv5
  obtain ⟨W7, HW7, b7, y7, r_x07⟩ : ∃ X, Hid ((W6.alloc (.cells #[.int .i64 n, .slice ao_x L_x cap_x] 25)) = X) ∧ Below W6.heap.size W6 X ∧ W6.heap.size + 1 ≤ X.heap.size ∧ Hid (X.heap[W6.heap.size]? = some (.cells #[.int .i64 n, .slice ao_x L_x cap_x] 25 (0, 0))) := ⟨_, rfl, (Below.refl _ _).alloc (Nat.le_refl _) _, by simp, heap_alloc_new _ _⟩
  have z7 : W6.heap.size ≤ W7.heap.size := b7.size
  have B7 : Hid (Below w.heap.size w W7) := B6.out.trans (b7.mono B6.out.size)
  have r_a7 : Hid (W7.heap[w.heap.size]? = some (.cells #[.int .i64 n, .slice ao0 hs.length cap0] 32 (0, 0))) := rowKeep r_a6.out b7
  have r_w07 : Hid (W7.heap[W4.heap.size]? = some (.cells #[.int .i64 n', .slice ao_wv L_wv cap_wv] 25 (0, 0))) := rowKeep r_w06.out b7
  have o_wv7 : Hid (Own W7 (W3.heap.size) (W4.heap.size) 9 (.slice ao_wv L_wv cap_wv) (ss R)) := Own.later o_wv6.out b7 (by omega)
  have o_x7 : Hid (Own W7 (W5.heap.size) (W6.heap.size) 9 (.slice ao_x L_x cap_x) (ss hs)) := Own.later o_x6.out b7 (by omega)
  have c_a7_0 : W7.cell? ⟨w.heap.size, 0, none⟩ = some (.int .i64 n) := row_at r_a7.out 0
  have a_a7_0 : ∀ o, (W7.alloc o).cell? ⟨w.heap.size, 0, none⟩ = some (.int .i64 n) := fun o => keepR c_a7_0 ((Below.refl _ _).alloc (Nat.le_refl _) o)
  have c_a7_1 : W7.cell? ⟨w.heap.size, 1, none⟩ = some (.slice ao0 hs.length cap0) := row_at r_a7.out 1
  have a_a7_1 : ∀ o, (W7.alloc o).cell? ⟨w.heap.size, 1, none⟩ = some (.slice ao0 hs.length cap0) := fun o => keepR c_a7_1 ((Below.refl _ _).alloc (Nat.le_refl _) o)
  have c_w07_0 : W7.cell? ⟨W4.heap.size, 0, none⟩ = some (.int .i64 n') := row_at r_w07.out 0
  have a_w07_0 : ∀ o, (W7.alloc o).cell? ⟨W4.heap.size, 0, none⟩ = some (.int .i64 n') := fun o => keepR c_w07_0 ((Below.refl _ _).alloc (Nat.le_refl _) o)
  have c_w07_1 : W7.cell? ⟨W4.heap.size, 1, none⟩ = some (.slice ao_wv L_wv cap_wv) := row_at r_w07.out 1
  have a_w07_1 : ∀ o, (W7.alloc o).cell? ⟨W4.heap.size, 1, none⟩ = some (.slice ao_wv L_wv cap_wv) := fun o => keepR c_w07_1 ((Below.refl _ _).alloc (Nat.le_refl _) o)
  have c_x07_0 : W7.cell? ⟨W6.heap.size, 0, none⟩ = some (.int .i64 n) := row_at r_x07.out 0
  have a_x07_0 : ∀ o, (W7.alloc o).cell? ⟨W6.heap.size, 0, none⟩ = some (.int .i64 n) := fun o => keepR c_x07_0 ((Below.refl _ _).alloc (Nat.le_refl _) o)
  have c_x07_1 : W7.cell? ⟨W6.heap.size, 1, none⟩ = some (.slice ao_x L_x cap_x) := row_at r_x07.out 1
  have a_x07_1 : ∀ o, (W7.alloc o).cell? ⟨W6.heap.size, 1, none⟩ = some (.slice ao_x L_x cap_x) := fun o => keepR c_x07_1 ((Below.refl _ _).alloc (Nat.le_refl _) o)
  clear r_a6 c_a6_0 c_a6_1 r_w06 c_w06_0 c_w06_1 o_wv6 o_x6
  go_wp2_with fail
  rw [HW7.out]
  clear a_a6_0 a_a6_1 a_w06_0 a_w06_1
  refine (q2 W7 _ B7.out o_x7.out.sl).mono ?_
  rintro e W8 ⟨v_gv, rfl, o_gv8, b8⟩
  obtain ⟨ao_gv, L_gv, cap_gv, rfl, hL_gv, hM_gv⟩ := o_gv8.form
  have o_gv8 : Hid (Own W8 W7.heap.size W8.heap.size 9 (.slice ao_gv L_gv cap_gv) (ss R)) := o_gv8
  clear hL_gv hM_gv
  have z8 : W7.heap.size ≤ W8.heap.size := b8.size
  have B8 : Hid (Below w.heap.size w W8) := B7.out.trans (b8.mono B7.out.size)
  have r_a8 : Hid (W8.heap[w.heap.size]? = some (.cells #[.int .i64 n, .slice ao0 hs.length cap0] 32 (0, 0))) := rowKeep r_a7.out b8
  have r_w08 : Hid (W8.heap[W4.heap.size]? = some (.cells #[.int .i64 n', .slice ao_wv L_wv cap_wv] 25 (0, 0))) := rowKeep r_w07.out b8
  have r_x08 : Hid (W8.heap[W6.heap.size]? = some (.cells #[.int .i64 n, .slice ao_x L_x cap_x] 25 (0, 0))) := rowKeep r_x07.out b8
  have o_wv8 : Hid (Own W8 (W3.heap.size) (W4.heap.size) 9 (.slice ao_wv L_wv cap_wv) (ss R)) := Own.later o_wv7.out b8 (by omega)
  have o_x8 : Hid (Own W8 (W5.heap.size) (W6.heap.size) 9 (.slice ao_x L_x cap_x) (ss hs)) := Own.later o_x7.out b8 (by omega)
  have c_a8_0 : W8.cell? ⟨w.heap.size, 0, none⟩ = some (.int .i64 n) := row_at r_a8.out 0
  have a_a8_0 : ∀ o, (W8.alloc o).cell? ⟨w.heap.size, 0, none⟩ = some (.int .i64 n) := fun o => keepR c_a8_0 ((Below.refl _ _).alloc (Nat.le_refl _) o)
  have c_a8_1 : W8.cell? ⟨w.heap.size, 1, none⟩ = some (.slice ao0 hs.length cap0) := row_at r_a8.out 1
  have a_a8_1 : ∀ o, (W8.alloc o).cell? ⟨w.heap.size, 1, none⟩ = some (.slice ao0 hs.length cap0) := fun o => keepR c_a8_1 ((Below.refl _ _).alloc (Nat.le_refl _) o)
  have c_w08_0 : W8.cell? ⟨W4.heap.size, 0, none⟩ = some (.int .i64 n') := row_at r_w08.out 0
  have a_w08_0 : ∀ o, (W8.alloc o).cell? ⟨W4.heap.size, 0, none⟩ = some (.int .i64 n') := fun o => keepR c_w08_0 ((Below.refl _ _).alloc (Nat.le_refl _) o)
  have c_w08_1 : W8.cell? ⟨W4.heap.size, 1, none⟩ = some (.slice ao_wv L_wv cap_wv) := row_at r_w08.out 1
  have a_w08_1 : ∀ o, (W8.alloc o).cell? ⟨W4.heap.size, 1, none⟩ = some (.slice ao_wv L_wv cap_wv) := fun o => keepR c_w08_1 ((Below.refl _ _).alloc (Nat.le_refl _) o)
  have c_x08_0 : W8.cell? ⟨W6.heap.size, 0, none⟩ = some (.int .i64 n) := row_at r_x08.out 0
  have a_x08_0 : ∀ o, (W8.alloc o).cell? ⟨W6.heap.size, 0, none⟩ = some (.int .i64 n) := fun o => keepR c_x08_0 ((Below.refl _ _).alloc (Nat.le_refl _) o)
  have c_x08_1 : W8.cell? ⟨W6.heap.size, 1, none⟩ = some (.slice ao_x L_x cap_x) := row_at r_x08.out 1
  have a_x08_1 : ∀ o, (W8.alloc o).cell? ⟨W6.heap.size, 1, none⟩ = some (.slice ao_x L_x cap_x) := fun o => keepR c_x08_1 ((Below.refl _ _).alloc (Nat.le_refl _) o)
  clear r_a7 c_a7_0 c_a7_1 a_a7_0 a_a7_1 r_w07 c_w07_0 c_w07_1 a_w07_0 a_w07_1 r_x07 c_x07_0 c_x07_1 a_x07_0 a_x07_1 o_wv7 o_x7
  obtain ⟨W9, HW9, b9, y9, r_g09⟩ : ∃ X, Hid ((W8.alloc (.cells #[.int .i64 n', .slice ao_gv L_gv cap_gv] 25)) = X) ∧ Below W8.heap.size W8 X ∧ W8.heap.size + 1 ≤ X.heap.size ∧ Hid (X.heap[W8.heap.size]? = some (.cells #[.int .i64 n', .slice ao_gv L_gv cap_gv] 25 (0, 0))) := ⟨_, rfl, (Below.refl _ _).alloc (Nat.le_refl _) _, by simp, heap_alloc_new _ _⟩
  have z9 : W8.heap.size ≤ W9.heap.size := b9.size
  have B9 : Hid (Below w.heap.size w W9) := B8.out.trans (b9.mono B8.out.size)
  have r_a9 : Hid (W9.heap[w.heap.size]? = some (.cells #[.int .i64 n, .slice ao0 hs.length cap0] 32 (0, 0))) := rowKeep r_a8.out b9
  have r_w09 : Hid (W9.heap[W4.heap.size]? = some (.cells #[.int .i64 n', .slice ao_wv L_wv cap_wv] 25 (0, 0))) := rowKeep r_w08.out b9
  have r_x09 : Hid (W9.heap[W6.heap.size]? = some (.cells #[.int .i64 n, .slice ao_x L_x cap_x] 25 (0, 0))) := rowKeep r_x08.out b9
  have o_wv9 : Hid (Own W9 (W3.heap.size) (W4.heap.size) 9 (.slice ao_wv L_wv cap_wv) (ss R)) := Own.later o_wv8.out b9 (by omega)
  have o_x9 : Hid (Own W9 (W5.heap.size) (W6.heap.size) 9 (.slice ao_x L_x cap_x) (ss hs)) := Own.later o_x8.out b9 (by omega)
  have o_gv9 : Hid (Own W9 (W7.heap.size) (W8.heap.size) 9 (.slice ao_gv L_gv cap_gv) (ss R)) := Own.later o_gv8.out b9 (by omega)
  have c_a9_0 : W9.cell? ⟨w.heap.size, 0, none⟩ = some (.int .i64 n) := row_at r_a9.out 0
  have a_a9_0 : ∀ o, (W9.alloc o).cell? ⟨w.heap.size, 0, none⟩ = some (.int .i64 n) := fun o => keepR c_a9_0 ((Below.refl _ _).alloc (Nat.le_refl _) o)
  have c_a9_1 : W9.cell? ⟨w.heap.size, 1, none⟩ = some (.slice ao0 hs.length cap0) := row_at r_a9.out 1
  have a_a9_1 : ∀ o, (W9.alloc o).cell? ⟨w.heap.size, 1, none⟩ = some (.slice ao0 hs.length cap0) := fun o => keepR c_a9_1 ((Below.refl _ _).alloc (Nat.le_refl _) o)
  have c_w09_0 : W9.cell? ⟨W4.heap.size, 0, none⟩ = some (.int .i64 n') := row_at r_w09.out 0
  have a_w09_0 : ∀ o, (W9.alloc o).cell? ⟨W4.heap.size, 0, none⟩ = some (.int .i64 n') := fun o => keepR c_w09_0 ((Below.refl _ _).alloc (Nat.le_refl _) o)
  have c_w09_1 : W9.cell? ⟨W4.heap.size, 1, none⟩ = some (.slice ao_wv L_wv cap_wv) := row_at r_w09.out 1
  have a_w09_1 : ∀ o, (W9.alloc o).cell? ⟨W4.heap.size, 1, none⟩ = some (.slice ao_wv L_wv cap_wv) := fun o => keepR c_w09_1 ((Below.refl _ _).alloc (Nat.le_refl _) o)
  have c_x09_0 : W9.cell? ⟨W6.heap.size, 0, none⟩ = some (.int .i64 n) := row_at r_x09.out 0
  have a_x09_0 : ∀ o, (W9.alloc o).cell? ⟨W6.heap.size, 0, none⟩ = some (.int .i64 n) := fun o => keepR c_x09_0 ((Below.refl _ _).alloc (Nat.le_refl _) o)
  have c_x09_1 : W9.cell? ⟨W6.heap.size, 1, none⟩ = some (.slice ao_x L_x cap_x) := row_at r_x09.out 1
  have a_x09_1 : ∀ o, (W9.alloc o).cell? ⟨W6.heap.size, 1, none⟩ = some (.slice ao_x L_x cap_x) := fun o => keepR c_x09_1 ((Below.refl _ _).alloc (Nat.le_refl _) o)
  have c_g09_0 : W9.cell? ⟨W8.heap.size, 0, none⟩ = some (.int .i64 n') := row_at r_g09.out 0
  have a_g09_0 : ∀ o, (W9.alloc o).cell? ⟨W8.heap.size, 0, none⟩ = some (.int .i64 n') := fun o => keepR c_g09_0 ((Below.refl _ _).alloc (Nat.le_refl _) o)
  have c_g09_1 : W9.cell? ⟨W8.heap.size, 1, none⟩ = some (.slice ao_gv L_gv cap_gv) := row_at r_g09.out 1
  have a_g09_1 : ∀ o, (W9.alloc o).cell? ⟨W8.heap.size, 1, none⟩ = some (.slice ao_gv L_gv cap_gv) := fun o => keepR c_g09_1 ((Below.refl _ _).alloc (Nat.le_refl _) o)
  clear r_a8 c_a8_0 c_a8_1 r_w08 c_w08_0 c_w08_1 r_x08 c_x08_0 c_x08_1 o_wv8 o_x8 o_gv8
  go_wp2_with fail
  rw [HW9.out]
  clear a_a8_0 a_a8_1 a_w08_0 a_w08_1 a_x08_0 a_x08_1
  refine (eq_edge W9 n' _ _ R o_gv9.out.sl o_wv9.out.sl (by omega)).mono ?_
  rintro e W10 ⟨rfl, b10⟩
  have z10 : W9.heap.size ≤ W10.heap.size := b10.size
  have B10 : Hid (Below w.heap.size w W10) := B9.out.trans (b10.mono B9.out.size)
  have r_a10 : Hid (W10.heap[w.heap.size]? = some (.cells #[.int .i64 n, .slice ao0 hs.length cap0] 32 (0, 0))) := rowKeep r_a9.out b10
  have r_w010 : Hid (W10.heap[W4.heap.size]? = some (.cells #[.int .i64 n', .slice ao_wv L_wv cap_wv] 25 (0, 0))) := rowKeep r_w09.out b10
  have r_x010 : Hid (W10.heap[W6.heap.size]? = some (.cells #[.int .i64 n, .slice ao_x L_x cap_x] 25 (0, 0))) := rowKeep r_x09.out b10
  have r_g010 : Hid (W10.heap[W8.heap.size]? = some (.cells #[.int .i64 n', .slice ao_gv L_gv cap_gv] 25 (0, 0))) := rowKeep r_g09.out b10
  have o_wv10 : Hid (Own W10 (W3.heap.size) (W4.heap.size) 9 (.slice ao_wv L_wv cap_wv) (ss R)) := Own.later o_wv9.out b10 (by omega)
  have o_x10 : Hid (Own W10 (W5.heap.size) (W6.heap.size) 9 (.slice ao_x L_x cap_x) (ss hs)) := Own.later o_x9.out b10 (by omega)
  have o_gv10 : Hid (Own W10 (W7.heap.size) (W8.heap.size) 9 (.slice ao_gv L_gv cap_gv) (ss R)) := Own.later o_gv9.out b10 (by omega)
  have c_a10_0 : W10.cell? ⟨w.heap.size, 0, none⟩ = some (.int .i64 n) := row_at r_a10.out 0
  have a_a10_0 : ∀ o, (W10.alloc o).cell? ⟨w.heap.size, 0, none⟩ = some (.int .i64 n) := fun o => keepR c_a10_0 ((Below.refl _ _).alloc (Nat.le_refl _) o)
  have c_a10_1 : W10.cell? ⟨w.heap.size, 1, none⟩ = some (.slice ao0 hs.length cap0) := row_at r_a10.out 1
  have a_a10_1 : ∀ o, (W10.alloc o).cell? ⟨w.heap.size, 1, none⟩ = some (.slice ao0 hs.length cap0) := fun o => keepR c_a10_1 ((Below.refl _ _).alloc (Nat.le_refl _) o)
  have c_w010_0 : W10.cell? ⟨W4.heap.size, 0, none⟩ = some (.int .i64 n') := row_at r_w010.out 0
  have a_w010_0 : ∀ o, (W10.alloc o).cell? ⟨W4.heap.size, 0, none⟩ = some (.int .i64 n') := fun o => keepR c_w010_0 ((Below.refl _ _).alloc (Nat.le_refl _) o)
  have c_w010_1 : W10.cell? ⟨W4.heap.size, 1, none⟩ = some (.slice ao_wv L_wv cap_wv) := row_at r_w010.out 1
  have a_w010_1 : ∀ o, (W10.alloc o).cell? ⟨W4.heap.size, 1, none⟩ = some (.slice ao_wv L_wv cap_wv) := fun o => keepR c_w010_1 ((Below.refl _ _).alloc (Nat.le_refl _) o)
  have c_x010_0 : W10.cell? ⟨W6.heap.size, 0, none⟩ = some (.int .i64 n) := row_at r_x010.out 0
  have a_x010_0 : ∀ o, (W10.alloc o).cell? ⟨W6.heap.size, 0, none⟩ = some (.int .i64 n) := fun o => keepR c_x010_0 ((Below.refl _ _).alloc (Nat.le_refl _) o)
  have c_x010_1 : W10.cell? ⟨W6.heap.size, 1, none⟩ = some (.slice ao_x L_x cap_x) := row_at r_x010.out 1
  have a_x010_1 : ∀ o, (W10.alloc o).cell? ⟨W6.heap.size, 1, none⟩ = some (.slice ao_x L_x cap_x) := fun o => keepR c_x010_1 ((Below.refl _ _).alloc (Nat.le_refl _) o)
  have c_g010_0 : W10.cell? ⟨W8.heap.size, 0, none⟩ = some (.int .i64 n') := row_at r_g010.out 0
  have a_g010_0 : ∀ o, (W10.alloc o).cell? ⟨W8.heap.size, 0, none⟩ = some (.int .i64 n') := fun o => keepR c_g010_0 ((Below.refl _ _).alloc (Nat.le_refl _) o)
  have c_g010_1 : W10.cell? ⟨W8.heap.size, 1, none⟩ = some (.slice ao_gv L_gv cap_gv) := row_at r_g010.out 1
  have a_g010_1 : ∀ o, (W10.alloc o).cell? ⟨W8.heap.size, 1, none⟩ = some (.slice ao_gv L_gv cap_gv) := fun o => keepR c_g010_1 ((Below.refl _ _).alloc (Nat.le_refl _) o)
  clear r_a9 c_a9_0 c_a9_1 a_a9_0 a_a9_1 r_w09 c_w09_0 c_w09_1 a_w09_0 a_w09_1 r_x09 c_x09_0 c_x09_1 a_x09_0 a_x09_1 r_g09 c_g09_0 c_g09_1 a_g09_0 a_g09_1 o_wv9 o_x9 o_gv9
  go_wp2_with fail
  refine wp_region_held_drew (S := fun w' => w'.cell? ⟨W6.heap.size, 0, none⟩ = some (.int .i64 n) ∧ w'.cell? ⟨W6.heap.size, 1, none⟩ = some (.slice ao_x L_x cap_x) ∧ w'.cell? ⟨w.heap.size, 0, none⟩ = some (.int .i64 n) ∧ w'.cell? ⟨w.heap.size, 1, none⟩ = some (.slice ao0 hs.length cap0)) (by kernel_rfl) ⟨c_x010_0, c_x010_1, c_a10_0, c_a10_1⟩ (fun hHeld => ?_)
  (refine wpAnyH_take (i := 0) (v := ?v0x7) rfl (by kernel_rfl) (by kernel_rfl) (by kernel_rfl) (fun _ _ _ h => h) (Or.inl ⟨by rfl, ?hy0x7⟩) (by assumption) ?rest0x7; case hy0x7 => (intro w hSw; (try dsimp only at hSw); go_split_ands; go_simp; (try with_reducible rfl)))
  try simp only [Act.put, List.setIfInBounds_toArray, List.set_cons_zero, List.set_cons_succ, List.getElem_toArray, List.getElem_cons_zero, List.getElem_cons_succ]
  (refine wpAnyH_take (i := 1) (v := ?v1x8) rfl (by kernel_rfl) (by kernel_rfl) (by kernel_rfl) (fun _ _ _ h => h) (Or.inl ⟨by rfl, ?hy1x8⟩) (by assumption) ?rest1x8; case hy1x8 => (intro w hSw; (try dsimp only at hSw); go_split_ands; go_simp; (try with_reducible rfl)))
  try simp only [Act.put, List.setIfInBounds_toArray, List.set_cons_zero, List.set_cons_succ, List.getElem_toArray, List.getElem_cons_zero, List.getElem_cons_succ]
  refine wpAnyH_ready (rs := [2]) (by kernel_rfl) (by simp) ?_
  refine AllReadyH.cons rfl (fun K hK => ?_) AllReadyH.nil
  go_simp
  refine (to_edge W10.drew n _ hs (HS.out.later (Below.drew B10.out)) (by omega)).mono ?_
  rintro e W11 ⟨v_u, rfl, o_u11, b11⟩
  have b11 : Below W10.heap.size W10 W11 := (Below.drew (Below.refl _ _)).trans b11
  refine hK.out _ _ ⟨keepR (W := W10) hHeld.1 b11, keepR (W := W10) hHeld.2.1 b11, keepR (W := W10) hHeld.2.2.1 b11, keepR (W := W10) hHeld.2.2.2 b11⟩ (fun hHeld => ?_)
  clear hK K
  try simp only [Act.put, List.setIfInBounds_toArray, List.set_cons_zero, List.set_cons_succ, List.getElem_toArray, List.getElem_cons_zero, List.getElem_cons_succ]
  have o_u11 : Own W11 W10.heap.size W11.heap.size 9 _ _ := o_u11
  obtain ⟨ao_u, L_u, cap_u, rfl, hL_u, hM_u⟩ := o_u11.form
  have o_u11 : Hid (Own W11 W10.heap.size W11.heap.size 9 (.slice ao_u L_u cap_u) (ss hs)) := o_u11
  clear hL_u hM_u
  have z11 : W10.heap.size ≤ W11.heap.size := b11.size
  have B11 : Hid (Below w.heap.size w W11) := B10.out.trans (b11.mono B10.out.size)
  have r_a11 : Hid (W11.heap[w.heap.size]? = some (.cells #[.int .i64 n, .slice ao0 hs.length cap0] 32 (0, 0))) := rowKeep r_a10.out b11
  have r_w011 : Hid (W11.heap[W4.heap.size]? = some (.cells #[.int .i64 n', .slice ao_wv L_wv cap_wv] 25 (0, 0))) := rowKeep r_w010.out b11
  have r_x011 : Hid (W11.heap[W6.heap.size]? = some (.cells #[.int .i64 n, .slice ao_x L_x cap_x] 25 (0, 0))) := rowKeep r_x010.out b11
  have r_g011 : Hid (W11.heap[W8.heap.size]? = some (.cells #[.int .i64 n', .slice ao_gv L_gv cap_gv] 25 (0, 0))) := rowKeep r_g010.out b11
  have o_wv11 : Hid (Own W11 (W3.heap.size) (W4.heap.size) 9 (.slice ao_wv L_wv cap_wv) (ss R)) := Own.later o_wv10.out b11 (by omega)
  have o_x11 : Hid (Own W11 (W5.heap.size) (W6.heap.size) 9 (.slice ao_x L_x cap_x) (ss hs)) := Own.later o_x10.out b11 (by omega)
  have o_gv11 : Hid (Own W11 (W7.heap.size) (W8.heap.size) 9 (.slice ao_gv L_gv cap_gv) (ss R)) := Own.later o_gv10.out b11 (by omega)
  have c_a11_0 : W11.cell? ⟨w.heap.size, 0, none⟩ = some (.int .i64 n) := row_at r_a11.out 0
  have a_a11_0 : ∀ o, (W11.alloc o).cell? ⟨w.heap.size, 0, none⟩ = some (.int .i64 n) := fun o => keepR c_a11_0 ((Below.refl _ _).alloc (Nat.le_refl _) o)
  have c_a11_1 : W11.cell? ⟨w.heap.size, 1, none⟩ = some (.slice ao0 hs.length cap0) := row_at r_a11.out 1
  have a_a11_1 : ∀ o, (W11.alloc o).cell? ⟨w.heap.size, 1, none⟩ = some (.slice ao0 hs.length cap0) := fun o => keepR c_a11_1 ((Below.refl _ _).alloc (Nat.le_refl _) o)
  have c_w011_0 : W11.cell? ⟨W4.heap.size, 0, none⟩ = some (.int .i64 n') := row_at r_w011.out 0
  have a_w011_0 : ∀ o, (W11.alloc o).cell? ⟨W4.heap.size, 0, none⟩ = some (.int .i64 n') := fun o => keepR c_w011_0 ((Below.refl _ _).alloc (Nat.le_refl _) o)
  have c_w011_1 : W11.cell? ⟨W4.heap.size, 1, none⟩ = some (.slice ao_wv L_wv cap_wv) := row_at r_w011.out 1
  have a_w011_1 : ∀ o, (W11.alloc o).cell? ⟨W4.heap.size, 1, none⟩ = some (.slice ao_wv L_wv cap_wv) := fun o => keepR c_w011_1 ((Below.refl _ _).alloc (Nat.le_refl _) o)
  have c_x011_0 : W11.cell? ⟨W6.heap.size, 0, none⟩ = some (.int .i64 n) := row_at r_x011.out 0
  have a_x011_0 : ∀ o, (W11.alloc o).cell? ⟨W6.heap.size, 0, none⟩ = some (.int .i64 n) := fun o => keepR c_x011_0 ((Below.refl _ _).alloc (Nat.le_refl _) o)
  have c_x011_1 : W11.cell? ⟨W6.heap.size, 1, none⟩ = some (.slice ao_x L_x cap_x) := row_at r_x011.out 1
  have a_x011_1 : ∀ o, (W11.alloc o).cell? ⟨W6.heap.size, 1, none⟩ = some (.slice ao_x L_x cap_x) := fun o => keepR c_x011_1 ((Below.refl _ _).alloc (Nat.le_refl _) o)
  have c_g011_0 : W11.cell? ⟨W8.heap.size, 0, none⟩ = some (.int .i64 n') := row_at r_g011.out 0
  have a_g011_0 : ∀ o, (W11.alloc o).cell? ⟨W8.heap.size, 0, none⟩ = some (.int .i64 n') := fun o => keepR c_g011_0 ((Below.refl _ _).alloc (Nat.le_refl _) o)
  have c_g011_1 : W11.cell? ⟨W8.heap.size, 1, none⟩ = some (.slice ao_gv L_gv cap_gv) := row_at r_g011.out 1
  have a_g011_1 : ∀ o, (W11.alloc o).cell? ⟨W8.heap.size, 1, none⟩ = some (.slice ao_gv L_gv cap_gv) := fun o => keepR c_g011_1 ((Below.refl _ _).alloc (Nat.le_refl _) o)
  clear r_a10 c_a10_0 c_a10_1 a_a10_0 a_a10_1 r_w010 c_w010_0 c_w010_1 a_w010_0 a_w010_1 r_x010 c_x010_0 c_x010_1 a_x010_0 a_x010_1 r_g010 c_g010_0 c_g010_1 a_g010_0 a_g010_1 o_wv10 o_x10 o_gv10
  refine wpAnyH_ready (rs := [3]) (by kernel_rfl) (by simp) ?_
  refine AllReadyH.cons rfl (fun K hK => ?_) AllReadyH.nil
  go_simp
  refine (eq_edge W11 n _ _ hs o_x11.out.sl o_u11.out.sl (by omega)).mono ?_
  rintro e W12 ⟨rfl, b12⟩
  refine hK.out _ _ ⟨keepR (W := W11) hHeld.1 b12, keepR (W := W11) hHeld.2.1 b12, keepR (W := W11) hHeld.2.2.1 b12, keepR (W := W11) hHeld.2.2.2 b12⟩ (fun hHeld => ?_)
  clear hK K
  try simp only [Act.put, List.setIfInBounds_toArray, List.set_cons_zero, List.set_cons_succ, List.getElem_toArray, List.getElem_cons_zero, List.getElem_cons_succ]
  have z12 : W11.heap.size ≤ W12.heap.size := b12.size
  have B12 : Hid (Below w.heap.size w W12) := B11.out.trans (b12.mono B11.out.size)
  have r_a12 : Hid (W12.heap[w.heap.size]? = some (.cells #[.int .i64 n, .slice ao0 hs.length cap0] 32 (0, 0))) := rowKeep r_a11.out b12
  have r_w012 : Hid (W12.heap[W4.heap.size]? = some (.cells #[.int .i64 n', .slice ao_wv L_wv cap_wv] 25 (0, 0))) := rowKeep r_w011.out b12
  have r_x012 : Hid (W12.heap[W6.heap.size]? = some (.cells #[.int .i64 n, .slice ao_x L_x cap_x] 25 (0, 0))) := rowKeep r_x011.out b12
  have r_g012 : Hid (W12.heap[W8.heap.size]? = some (.cells #[.int .i64 n', .slice ao_gv L_gv cap_gv] 25 (0, 0))) := rowKeep r_g011.out b12
  have o_wv12 : Hid (Own W12 (W3.heap.size) (W4.heap.size) 9 (.slice ao_wv L_wv cap_wv) (ss R)) := Own.later o_wv11.out b12 (by omega)
  have o_x12 : Hid (Own W12 (W5.heap.size) (W6.heap.size) 9 (.slice ao_x L_x cap_x) (ss hs)) := Own.later o_x11.out b12 (by omega)
  have o_gv12 : Hid (Own W12 (W7.heap.size) (W8.heap.size) 9 (.slice ao_gv L_gv cap_gv) (ss R)) := Own.later o_gv11.out b12 (by omega)
  have o_u12 : Hid (Own W12 (W10.heap.size) (W11.heap.size) 9 (.slice ao_u L_u cap_u) (ss hs)) := Own.later o_u11.out b12 (by omega)
  have c_a12_0 : W12.cell? ⟨w.heap.size, 0, none⟩ = some (.int .i64 n) := row_at r_a12.out 0
  have a_a12_0 : ∀ o, (W12.alloc o).cell? ⟨w.heap.size, 0, none⟩ = some (.int .i64 n) := fun o => keepR c_a12_0 ((Below.refl _ _).alloc (Nat.le_refl _) o)
  have c_a12_1 : W12.cell? ⟨w.heap.size, 1, none⟩ = some (.slice ao0 hs.length cap0) := row_at r_a12.out 1
  have a_a12_1 : ∀ o, (W12.alloc o).cell? ⟨w.heap.size, 1, none⟩ = some (.slice ao0 hs.length cap0) := fun o => keepR c_a12_1 ((Below.refl _ _).alloc (Nat.le_refl _) o)
  have c_w012_0 : W12.cell? ⟨W4.heap.size, 0, none⟩ = some (.int .i64 n') := row_at r_w012.out 0
  have a_w012_0 : ∀ o, (W12.alloc o).cell? ⟨W4.heap.size, 0, none⟩ = some (.int .i64 n') := fun o => keepR c_w012_0 ((Below.refl _ _).alloc (Nat.le_refl _) o)
  have c_w012_1 : W12.cell? ⟨W4.heap.size, 1, none⟩ = some (.slice ao_wv L_wv cap_wv) := row_at r_w012.out 1
  have a_w012_1 : ∀ o, (W12.alloc o).cell? ⟨W4.heap.size, 1, none⟩ = some (.slice ao_wv L_wv cap_wv) := fun o => keepR c_w012_1 ((Below.refl _ _).alloc (Nat.le_refl _) o)
  have c_x012_0 : W12.cell? ⟨W6.heap.size, 0, none⟩ = some (.int .i64 n) := row_at r_x012.out 0
  have a_x012_0 : ∀ o, (W12.alloc o).cell? ⟨W6.heap.size, 0, none⟩ = some (.int .i64 n) := fun o => keepR c_x012_0 ((Below.refl _ _).alloc (Nat.le_refl _) o)
  have c_x012_1 : W12.cell? ⟨W6.heap.size, 1, none⟩ = some (.slice ao_x L_x cap_x) := row_at r_x012.out 1
  have a_x012_1 : ∀ o, (W12.alloc o).cell? ⟨W6.heap.size, 1, none⟩ = some (.slice ao_x L_x cap_x) := fun o => keepR c_x012_1 ((Below.refl _ _).alloc (Nat.le_refl _) o)
  have c_g012_0 : W12.cell? ⟨W8.heap.size, 0, none⟩ = some (.int .i64 n') := row_at r_g012.out 0
  have a_g012_0 : ∀ o, (W12.alloc o).cell? ⟨W8.heap.size, 0, none⟩ = some (.int .i64 n') := fun o => keepR c_g012_0 ((Below.refl _ _).alloc (Nat.le_refl _) o)
  have c_g012_1 : W12.cell? ⟨W8.heap.size, 1, none⟩ = some (.slice ao_gv L_gv cap_gv) := row_at r_g012.out 1
  have a_g012_1 : ∀ o, (W12.alloc o).cell? ⟨W8.heap.size, 1, none⟩ = some (.slice ao_gv L_gv cap_gv) := fun o => keepR c_g012_1 ((Below.refl _ _).alloc (Nat.le_refl _) o)
  clear r_a11 c_a11_0 c_a11_1 a_a11_0 a_a11_1 r_w011 c_w011_0 c_w011_1 a_w011_0 a_w011_1 r_x011 c_x011_0 c_x011_1 a_x011_0 a_x011_1 r_g011 c_g011_0 c_g011_1 a_g011_0 a_g011_1 o_wv11 o_x11 o_gv11 o_u11
  (refine wpAnyH_take (i := 4) (v := ?v4x9) rfl (by kernel_rfl) (by kernel_rfl) (by kernel_rfl) (fun _ _ _ h => h) (Or.inl ⟨by rfl, ?hy4x9⟩) (by assumption) ?rest4x9; case hy4x9 => (intro w hSw; (try dsimp only at hSw); go_split_ands; go_simp; (try with_reducible rfl)))
  try simp only [Act.put, List.setIfInBounds_toArray, List.set_cons_zero, List.set_cons_succ, List.getElem_toArray, List.getElem_cons_zero, List.getElem_cons_succ]
  refine wpAnyH_done (by kernel_rfl) ?_ _
  clear hHeld
  clear o_u12
  go_wp2_with fail
  refine (mark_edge W12 n _ (W5.heap.size) (W6.heap.size) hs 1 o_x12.out (by omega) (by omega) (by omega) (by omega)).mono ?_
  rintro e W13 ⟨rfl, o_x13, p13⟩
  have o_x13 : Hid (Own W13 (W5.heap.size) (W6.heap.size) 9 (.slice ao_x L_x cap_x) (ss (Strs.mts 1 hs.length))) := o_x13
  have z13 : W12.heap.size ≤ W13.heap.size := p13.size
  have B13 : Hid (Below w.heap.size w W13) := B12.out.trans (p13.below (by have := B12.out.size; omega) B12.out.size)
  have r_a13 : Hid (W13.heap[w.heap.size]? = some (.cells #[.int .i64 n, .slice ao0 hs.length cap0] 32 (0, 0))) := (p13.block (w.heap.size) (by omega) (by omega)).trans r_a12.out
  have r_w013 : Hid (W13.heap[W4.heap.size]? = some (.cells #[.int .i64 n', .slice ao_wv L_wv cap_wv] 25 (0, 0))) := (p13.block (W4.heap.size) (by omega) (by omega)).trans r_w012.out
  have r_x013 : Hid (W13.heap[W6.heap.size]? = some (.cells #[.int .i64 n, .slice ao_x L_x cap_x] 25 (0, 0))) := (p13.block (W6.heap.size) (by omega) (by omega)).trans r_x012.out
  have r_g013 : Hid (W13.heap[W8.heap.size]? = some (.cells #[.int .i64 n', .slice ao_gv L_gv cap_gv] 25 (0, 0))) := (p13.block (W8.heap.size) (by omega) (by omega)).trans r_g012.out
  have o_wv13 : Hid (Own W13 (W3.heap.size) (W4.heap.size) 9 (.slice ao_wv L_wv cap_wv) (ss R)) := Own.apart o_wv12.out p13 (by omega) (by omega)
  have o_gv13 : Hid (Own W13 (W7.heap.size) (W8.heap.size) 9 (.slice ao_gv L_gv cap_gv) (ss R)) := Own.apart o_gv12.out p13 (by omega) (by omega)
  have c_a13_0 : W13.cell? ⟨w.heap.size, 0, none⟩ = some (.int .i64 n) := row_at r_a13.out 0
  have a_a13_0 : ∀ o, (W13.alloc o).cell? ⟨w.heap.size, 0, none⟩ = some (.int .i64 n) := fun o => keepR c_a13_0 ((Below.refl _ _).alloc (Nat.le_refl _) o)
  have c_a13_1 : W13.cell? ⟨w.heap.size, 1, none⟩ = some (.slice ao0 hs.length cap0) := row_at r_a13.out 1
  have a_a13_1 : ∀ o, (W13.alloc o).cell? ⟨w.heap.size, 1, none⟩ = some (.slice ao0 hs.length cap0) := fun o => keepR c_a13_1 ((Below.refl _ _).alloc (Nat.le_refl _) o)
  have c_w013_0 : W13.cell? ⟨W4.heap.size, 0, none⟩ = some (.int .i64 n') := row_at r_w013.out 0
  have a_w013_0 : ∀ o, (W13.alloc o).cell? ⟨W4.heap.size, 0, none⟩ = some (.int .i64 n') := fun o => keepR c_w013_0 ((Below.refl _ _).alloc (Nat.le_refl _) o)
  have c_w013_1 : W13.cell? ⟨W4.heap.size, 1, none⟩ = some (.slice ao_wv L_wv cap_wv) := row_at r_w013.out 1
  have a_w013_1 : ∀ o, (W13.alloc o).cell? ⟨W4.heap.size, 1, none⟩ = some (.slice ao_wv L_wv cap_wv) := fun o => keepR c_w013_1 ((Below.refl _ _).alloc (Nat.le_refl _) o)
  have c_x013_0 : W13.cell? ⟨W6.heap.size, 0, none⟩ = some (.int .i64 n) := row_at r_x013.out 0
  have a_x013_0 : ∀ o, (W13.alloc o).cell? ⟨W6.heap.size, 0, none⟩ = some (.int .i64 n) := fun o => keepR c_x013_0 ((Below.refl _ _).alloc (Nat.le_refl _) o)
  have c_x013_1 : W13.cell? ⟨W6.heap.size, 1, none⟩ = some (.slice ao_x L_x cap_x) := row_at r_x013.out 1
  have a_x013_1 : ∀ o, (W13.alloc o).cell? ⟨W6.heap.size, 1, none⟩ = some (.slice ao_x L_x cap_x) := fun o => keepR c_x013_1 ((Below.refl _ _).alloc (Nat.le_refl _) o)
  have c_g013_0 : W13.cell? ⟨W8.heap.size, 0, none⟩ = some (.int .i64 n') := row_at r_g013.out 0
  have a_g013_0 : ∀ o, (W13.alloc o).cell? ⟨W8.heap.size, 0, none⟩ = some (.int .i64 n') := fun o => keepR c_g013_0 ((Below.refl _ _).alloc (Nat.le_refl _) o)
  have c_g013_1 : W13.cell? ⟨W8.heap.size, 1, none⟩ = some (.slice ao_gv L_gv cap_gv) := row_at r_g013.out 1
  have a_g013_1 : ∀ o, (W13.alloc o).cell? ⟨W8.heap.size, 1, none⟩ = some (.slice ao_gv L_gv cap_gv) := fun o => keepR c_g013_1 ((Below.refl _ _).alloc (Nat.le_refl _) o)
  clear r_a12 c_a12_0 c_a12_1 a_a12_0 a_a12_1 r_w012 c_w012_0 c_w012_1 a_w012_0 a_w012_1 r_x012 c_x012_0 c_x012_1 a_x012_0 a_x012_1 r_g012 c_g012_0 c_g012_1 a_g012_0 a_g012_1 o_wv12 o_x12 o_gv12
  clear o_x13
  clear r_x013 c_x013_0 c_x013_1 a_x013_0 a_x013_1
  go_wp2_with fail
  refine (eq_edge W13 n' _ _ R o_gv13.out.sl o_wv13.out.sl (by omega)).mono ?_
  rintro e W14 ⟨rfl, b14⟩
  have z14 : W13.heap.size ≤ W14.heap.size := b14.size
  have B14 : Hid (Below w.heap.size w W14) := B13.out.trans (b14.mono B13.out.size)
  have r_a14 : Hid (W14.heap[w.heap.size]? = some (.cells #[.int .i64 n, .slice ao0 hs.length cap0] 32 (0, 0))) := rowKeep r_a13.out b14
  have r_w014 : Hid (W14.heap[W4.heap.size]? = some (.cells #[.int .i64 n', .slice ao_wv L_wv cap_wv] 25 (0, 0))) := rowKeep r_w013.out b14
  have r_g014 : Hid (W14.heap[W8.heap.size]? = some (.cells #[.int .i64 n', .slice ao_gv L_gv cap_gv] 25 (0, 0))) := rowKeep r_g013.out b14
  have o_wv14 : Hid (Own W14 (W3.heap.size) (W4.heap.size) 9 (.slice ao_wv L_wv cap_wv) (ss R)) := Own.later o_wv13.out b14 (by omega)
  have o_gv14 : Hid (Own W14 (W7.heap.size) (W8.heap.size) 9 (.slice ao_gv L_gv cap_gv) (ss R)) := Own.later o_gv13.out b14 (by omega)
  have c_a14_0 : W14.cell? ⟨w.heap.size, 0, none⟩ = some (.int .i64 n) := row_at r_a14.out 0
  have a_a14_0 : ∀ o, (W14.alloc o).cell? ⟨w.heap.size, 0, none⟩ = some (.int .i64 n) := fun o => keepR c_a14_0 ((Below.refl _ _).alloc (Nat.le_refl _) o)
  have c_a14_1 : W14.cell? ⟨w.heap.size, 1, none⟩ = some (.slice ao0 hs.length cap0) := row_at r_a14.out 1
  have a_a14_1 : ∀ o, (W14.alloc o).cell? ⟨w.heap.size, 1, none⟩ = some (.slice ao0 hs.length cap0) := fun o => keepR c_a14_1 ((Below.refl _ _).alloc (Nat.le_refl _) o)
  have c_w014_0 : W14.cell? ⟨W4.heap.size, 0, none⟩ = some (.int .i64 n') := row_at r_w014.out 0
  have a_w014_0 : ∀ o, (W14.alloc o).cell? ⟨W4.heap.size, 0, none⟩ = some (.int .i64 n') := fun o => keepR c_w014_0 ((Below.refl _ _).alloc (Nat.le_refl _) o)
  have c_w014_1 : W14.cell? ⟨W4.heap.size, 1, none⟩ = some (.slice ao_wv L_wv cap_wv) := row_at r_w014.out 1
  have a_w014_1 : ∀ o, (W14.alloc o).cell? ⟨W4.heap.size, 1, none⟩ = some (.slice ao_wv L_wv cap_wv) := fun o => keepR c_w014_1 ((Below.refl _ _).alloc (Nat.le_refl _) o)
  have c_g014_0 : W14.cell? ⟨W8.heap.size, 0, none⟩ = some (.int .i64 n') := row_at r_g014.out 0
  have a_g014_0 : ∀ o, (W14.alloc o).cell? ⟨W8.heap.size, 0, none⟩ = some (.int .i64 n') := fun o => keepR c_g014_0 ((Below.refl _ _).alloc (Nat.le_refl _) o)
  have c_g014_1 : W14.cell? ⟨W8.heap.size, 1, none⟩ = some (.slice ao_gv L_gv cap_gv) := row_at r_g014.out 1
  have a_g014_1 : ∀ o, (W14.alloc o).cell? ⟨W8.heap.size, 1, none⟩ = some (.slice ao_gv L_gv cap_gv) := fun o => keepR c_g014_1 ((Below.refl _ _).alloc (Nat.le_refl _) o)
  clear r_a13 c_a13_0 c_a13_1 a_a13_0 a_a13_1 r_w013 c_w013_0 c_w013_1 a_w013_0 a_w013_1 r_g013 c_g013_0 c_g013_1 a_g013_0 a_g013_1 o_wv13 o_gv13
  go_wp2_with fail
  refine (mark_edge W14 n' _ (W7.heap.size) (W8.heap.size) R 1 o_gv14.out (by omega) (by omega) (by omega) (by omega)).mono ?_
  rintro e W15 ⟨rfl, o_gv15, p15⟩
  have o_gv15 : Hid (Own W15 (W7.heap.size) (W8.heap.size) 9 (.slice ao_gv L_gv cap_gv) (ss (Strs.mts 1 R.length))) := o_gv15
  have z15 : W14.heap.size ≤ W15.heap.size := p15.size
  have B15 : Hid (Below w.heap.size w W15) := B14.out.trans (p15.below (by have := B14.out.size; omega) B14.out.size)
  have r_a15 : Hid (W15.heap[w.heap.size]? = some (.cells #[.int .i64 n, .slice ao0 hs.length cap0] 32 (0, 0))) := (p15.block (w.heap.size) (by omega) (by omega)).trans r_a14.out
  have r_w015 : Hid (W15.heap[W4.heap.size]? = some (.cells #[.int .i64 n', .slice ao_wv L_wv cap_wv] 25 (0, 0))) := (p15.block (W4.heap.size) (by omega) (by omega)).trans r_w014.out
  have r_g015 : Hid (W15.heap[W8.heap.size]? = some (.cells #[.int .i64 n', .slice ao_gv L_gv cap_gv] 25 (0, 0))) := (p15.block (W8.heap.size) (by omega) (by omega)).trans r_g014.out
  have o_wv15 : Hid (Own W15 (W3.heap.size) (W4.heap.size) 9 (.slice ao_wv L_wv cap_wv) (ss R)) := Own.apart o_wv14.out p15 (by omega) (by omega)
  have c_a15_0 : W15.cell? ⟨w.heap.size, 0, none⟩ = some (.int .i64 n) := row_at r_a15.out 0
  have a_a15_0 : ∀ o, (W15.alloc o).cell? ⟨w.heap.size, 0, none⟩ = some (.int .i64 n) := fun o => keepR c_a15_0 ((Below.refl _ _).alloc (Nat.le_refl _) o)
  have c_a15_1 : W15.cell? ⟨w.heap.size, 1, none⟩ = some (.slice ao0 hs.length cap0) := row_at r_a15.out 1
  have a_a15_1 : ∀ o, (W15.alloc o).cell? ⟨w.heap.size, 1, none⟩ = some (.slice ao0 hs.length cap0) := fun o => keepR c_a15_1 ((Below.refl _ _).alloc (Nat.le_refl _) o)
  have c_w015_0 : W15.cell? ⟨W4.heap.size, 0, none⟩ = some (.int .i64 n') := row_at r_w015.out 0
  have a_w015_0 : ∀ o, (W15.alloc o).cell? ⟨W4.heap.size, 0, none⟩ = some (.int .i64 n') := fun o => keepR c_w015_0 ((Below.refl _ _).alloc (Nat.le_refl _) o)
  have c_w015_1 : W15.cell? ⟨W4.heap.size, 1, none⟩ = some (.slice ao_wv L_wv cap_wv) := row_at r_w015.out 1
  have a_w015_1 : ∀ o, (W15.alloc o).cell? ⟨W4.heap.size, 1, none⟩ = some (.slice ao_wv L_wv cap_wv) := fun o => keepR c_w015_1 ((Below.refl _ _).alloc (Nat.le_refl _) o)
  have c_g015_0 : W15.cell? ⟨W8.heap.size, 0, none⟩ = some (.int .i64 n') := row_at r_g015.out 0
  have a_g015_0 : ∀ o, (W15.alloc o).cell? ⟨W8.heap.size, 0, none⟩ = some (.int .i64 n') := fun o => keepR c_g015_0 ((Below.refl _ _).alloc (Nat.le_refl _) o)
  have c_g015_1 : W15.cell? ⟨W8.heap.size, 1, none⟩ = some (.slice ao_gv L_gv cap_gv) := row_at r_g015.out 1
  have a_g015_1 : ∀ o, (W15.alloc o).cell? ⟨W8.heap.size, 1, none⟩ = some (.slice ao_gv L_gv cap_gv) := fun o => keepR c_g015_1 ((Below.refl _ _).alloc (Nat.le_refl _) o)
  clear r_a14 c_a14_0 c_a14_1 a_a14_0 a_a14_1 r_w014 c_w014_0 c_w014_1 a_w014_0 a_w014_1 r_g014 c_g014_0 c_g014_1 a_g014_0 a_g014_1 o_wv14 o_gv14
  go_wp2_with fail
  refine (held_edge W15 n' _ R.length 1 o_gv15.out.sl (by omega) (by omega) (by omega)).mono ?_
  rintro e W16 ⟨rfl, b16⟩
  have z16 : W15.heap.size ≤ W16.heap.size := b16.size
  have B16 : Hid (Below w.heap.size w W16) := B15.out.trans (b16.mono B15.out.size)
  have r_a16 : Hid (W16.heap[w.heap.size]? = some (.cells #[.int .i64 n, .slice ao0 hs.length cap0] 32 (0, 0))) := rowKeep r_a15.out b16
  have r_w016 : Hid (W16.heap[W4.heap.size]? = some (.cells #[.int .i64 n', .slice ao_wv L_wv cap_wv] 25 (0, 0))) := rowKeep r_w015.out b16
  have r_g016 : Hid (W16.heap[W8.heap.size]? = some (.cells #[.int .i64 n', .slice ao_gv L_gv cap_gv] 25 (0, 0))) := rowKeep r_g015.out b16
  have o_wv16 : Hid (Own W16 (W3.heap.size) (W4.heap.size) 9 (.slice ao_wv L_wv cap_wv) (ss R)) := Own.later o_wv15.out b16 (by omega)
  have o_gv16 : Hid (Own W16 (W7.heap.size) (W8.heap.size) 9 (.slice ao_gv L_gv cap_gv) (ss (Strs.mts 1 R.length))) := Own.later o_gv15.out b16 (by omega)
  have c_a16_0 : W16.cell? ⟨w.heap.size, 0, none⟩ = some (.int .i64 n) := row_at r_a16.out 0
  have a_a16_0 : ∀ o, (W16.alloc o).cell? ⟨w.heap.size, 0, none⟩ = some (.int .i64 n) := fun o => keepR c_a16_0 ((Below.refl _ _).alloc (Nat.le_refl _) o)
  have c_a16_1 : W16.cell? ⟨w.heap.size, 1, none⟩ = some (.slice ao0 hs.length cap0) := row_at r_a16.out 1
  have a_a16_1 : ∀ o, (W16.alloc o).cell? ⟨w.heap.size, 1, none⟩ = some (.slice ao0 hs.length cap0) := fun o => keepR c_a16_1 ((Below.refl _ _).alloc (Nat.le_refl _) o)
  have c_w016_0 : W16.cell? ⟨W4.heap.size, 0, none⟩ = some (.int .i64 n') := row_at r_w016.out 0
  have a_w016_0 : ∀ o, (W16.alloc o).cell? ⟨W4.heap.size, 0, none⟩ = some (.int .i64 n') := fun o => keepR c_w016_0 ((Below.refl _ _).alloc (Nat.le_refl _) o)
  have c_w016_1 : W16.cell? ⟨W4.heap.size, 1, none⟩ = some (.slice ao_wv L_wv cap_wv) := row_at r_w016.out 1
  have a_w016_1 : ∀ o, (W16.alloc o).cell? ⟨W4.heap.size, 1, none⟩ = some (.slice ao_wv L_wv cap_wv) := fun o => keepR c_w016_1 ((Below.refl _ _).alloc (Nat.le_refl _) o)
  have c_g016_0 : W16.cell? ⟨W8.heap.size, 0, none⟩ = some (.int .i64 n') := row_at r_g016.out 0
  have a_g016_0 : ∀ o, (W16.alloc o).cell? ⟨W8.heap.size, 0, none⟩ = some (.int .i64 n') := fun o => keepR c_g016_0 ((Below.refl _ _).alloc (Nat.le_refl _) o)
  have c_g016_1 : W16.cell? ⟨W8.heap.size, 1, none⟩ = some (.slice ao_gv L_gv cap_gv) := row_at r_g016.out 1
  have a_g016_1 : ∀ o, (W16.alloc o).cell? ⟨W8.heap.size, 1, none⟩ = some (.slice ao_gv L_gv cap_gv) := fun o => keepR c_g016_1 ((Below.refl _ _).alloc (Nat.le_refl _) o)
  clear r_a15 c_a15_0 c_a15_1 a_a15_0 a_a15_1 r_w015 c_w015_0 c_w015_1 a_w015_0 a_w015_1 r_g015 c_g015_0 c_g015_1 a_g015_0 a_g015_1 o_wv15 o_gv15
  go_wp2_with fail
  refine (to_edge W16 n _ hs (HS.out.later B16.out) (by omega)).mono ?_
  rintro e W17 ⟨v_y, rfl, o_y17, b17⟩
  obtain ⟨ao_y, L_y, cap_y, rfl, hL_y, hM_y⟩ := o_y17.form
  have o_y17 : Hid (Own W17 W16.heap.size W17.heap.size 9 (.slice ao_y L_y cap_y) (ss hs)) := o_y17
  clear hL_y hM_y
  have z17 : W16.heap.size ≤ W17.heap.size := b17.size
  have B17 : Hid (Below w.heap.size w W17) := B16.out.trans (b17.mono B16.out.size)
  have r_a17 : Hid (W17.heap[w.heap.size]? = some (.cells #[.int .i64 n, .slice ao0 hs.length cap0] 32 (0, 0))) := rowKeep r_a16.out b17
  have r_w017 : Hid (W17.heap[W4.heap.size]? = some (.cells #[.int .i64 n', .slice ao_wv L_wv cap_wv] 25 (0, 0))) := rowKeep r_w016.out b17
  have r_g017 : Hid (W17.heap[W8.heap.size]? = some (.cells #[.int .i64 n', .slice ao_gv L_gv cap_gv] 25 (0, 0))) := rowKeep r_g016.out b17
  have o_wv17 : Hid (Own W17 (W3.heap.size) (W4.heap.size) 9 (.slice ao_wv L_wv cap_wv) (ss R)) := Own.later o_wv16.out b17 (by omega)
  have o_gv17 : Hid (Own W17 (W7.heap.size) (W8.heap.size) 9 (.slice ao_gv L_gv cap_gv) (ss (Strs.mts 1 R.length))) := Own.later o_gv16.out b17 (by omega)
  have c_a17_0 : W17.cell? ⟨w.heap.size, 0, none⟩ = some (.int .i64 n) := row_at r_a17.out 0
  have a_a17_0 : ∀ o, (W17.alloc o).cell? ⟨w.heap.size, 0, none⟩ = some (.int .i64 n) := fun o => keepR c_a17_0 ((Below.refl _ _).alloc (Nat.le_refl _) o)
  have c_a17_1 : W17.cell? ⟨w.heap.size, 1, none⟩ = some (.slice ao0 hs.length cap0) := row_at r_a17.out 1
  have a_a17_1 : ∀ o, (W17.alloc o).cell? ⟨w.heap.size, 1, none⟩ = some (.slice ao0 hs.length cap0) := fun o => keepR c_a17_1 ((Below.refl _ _).alloc (Nat.le_refl _) o)
  have c_w017_0 : W17.cell? ⟨W4.heap.size, 0, none⟩ = some (.int .i64 n') := row_at r_w017.out 0
  have a_w017_0 : ∀ o, (W17.alloc o).cell? ⟨W4.heap.size, 0, none⟩ = some (.int .i64 n') := fun o => keepR c_w017_0 ((Below.refl _ _).alloc (Nat.le_refl _) o)
  have c_w017_1 : W17.cell? ⟨W4.heap.size, 1, none⟩ = some (.slice ao_wv L_wv cap_wv) := row_at r_w017.out 1
  have a_w017_1 : ∀ o, (W17.alloc o).cell? ⟨W4.heap.size, 1, none⟩ = some (.slice ao_wv L_wv cap_wv) := fun o => keepR c_w017_1 ((Below.refl _ _).alloc (Nat.le_refl _) o)
  have c_g017_0 : W17.cell? ⟨W8.heap.size, 0, none⟩ = some (.int .i64 n') := row_at r_g017.out 0
  have a_g017_0 : ∀ o, (W17.alloc o).cell? ⟨W8.heap.size, 0, none⟩ = some (.int .i64 n') := fun o => keepR c_g017_0 ((Below.refl _ _).alloc (Nat.le_refl _) o)
  have c_g017_1 : W17.cell? ⟨W8.heap.size, 1, none⟩ = some (.slice ao_gv L_gv cap_gv) := row_at r_g017.out 1
  have a_g017_1 : ∀ o, (W17.alloc o).cell? ⟨W8.heap.size, 1, none⟩ = some (.slice ao_gv L_gv cap_gv) := fun o => keepR c_g017_1 ((Below.refl _ _).alloc (Nat.le_refl _) o)
  clear r_a16 c_a16_0 c_a16_1 a_a16_0 a_a16_1 r_w016 c_w016_0 c_w016_1 a_w016_0 a_w016_1 r_g016 c_g016_0 c_g016_1 a_g016_0 a_g016_1 o_wv16 o_gv16
  go_wp2_with fail
  refine (q2 W17 _ B17.out o_y17.out.sl).mono ?_
  rintro e W18 ⟨v_hv, rfl, o_hv18, b18⟩
  obtain ⟨ao_hv, L_hv, cap_hv, rfl, hL_hv, hM_hv⟩ := o_hv18.form
  have o_hv18 : Hid (Own W18 W17.heap.size W18.heap.size 9 (.slice ao_hv L_hv cap_hv) (ss R)) := o_hv18
  clear hL_hv hM_hv
  have z18 : W17.heap.size ≤ W18.heap.size := b18.size
  have B18 : Hid (Below w.heap.size w W18) := B17.out.trans (b18.mono B17.out.size)
  have r_a18 : Hid (W18.heap[w.heap.size]? = some (.cells #[.int .i64 n, .slice ao0 hs.length cap0] 32 (0, 0))) := rowKeep r_a17.out b18
  have r_w018 : Hid (W18.heap[W4.heap.size]? = some (.cells #[.int .i64 n', .slice ao_wv L_wv cap_wv] 25 (0, 0))) := rowKeep r_w017.out b18
  have r_g018 : Hid (W18.heap[W8.heap.size]? = some (.cells #[.int .i64 n', .slice ao_gv L_gv cap_gv] 25 (0, 0))) := rowKeep r_g017.out b18
  have o_wv18 : Hid (Own W18 (W3.heap.size) (W4.heap.size) 9 (.slice ao_wv L_wv cap_wv) (ss R)) := Own.later o_wv17.out b18 (by omega)
  have o_gv18 : Hid (Own W18 (W7.heap.size) (W8.heap.size) 9 (.slice ao_gv L_gv cap_gv) (ss (Strs.mts 1 R.length))) := Own.later o_gv17.out b18 (by omega)
  have o_y18 : Hid (Own W18 (W16.heap.size) (W17.heap.size) 9 (.slice ao_y L_y cap_y) (ss hs)) := Own.later o_y17.out b18 (by omega)
  have c_a18_0 : W18.cell? ⟨w.heap.size, 0, none⟩ = some (.int .i64 n) := row_at r_a18.out 0
  have a_a18_0 : ∀ o, (W18.alloc o).cell? ⟨w.heap.size, 0, none⟩ = some (.int .i64 n) := fun o => keepR c_a18_0 ((Below.refl _ _).alloc (Nat.le_refl _) o)
  have c_a18_1 : W18.cell? ⟨w.heap.size, 1, none⟩ = some (.slice ao0 hs.length cap0) := row_at r_a18.out 1
  have a_a18_1 : ∀ o, (W18.alloc o).cell? ⟨w.heap.size, 1, none⟩ = some (.slice ao0 hs.length cap0) := fun o => keepR c_a18_1 ((Below.refl _ _).alloc (Nat.le_refl _) o)
  have c_w018_0 : W18.cell? ⟨W4.heap.size, 0, none⟩ = some (.int .i64 n') := row_at r_w018.out 0
  have a_w018_0 : ∀ o, (W18.alloc o).cell? ⟨W4.heap.size, 0, none⟩ = some (.int .i64 n') := fun o => keepR c_w018_0 ((Below.refl _ _).alloc (Nat.le_refl _) o)
  have c_w018_1 : W18.cell? ⟨W4.heap.size, 1, none⟩ = some (.slice ao_wv L_wv cap_wv) := row_at r_w018.out 1
  have a_w018_1 : ∀ o, (W18.alloc o).cell? ⟨W4.heap.size, 1, none⟩ = some (.slice ao_wv L_wv cap_wv) := fun o => keepR c_w018_1 ((Below.refl _ _).alloc (Nat.le_refl _) o)
  have c_g018_0 : W18.cell? ⟨W8.heap.size, 0, none⟩ = some (.int .i64 n') := row_at r_g018.out 0
  have a_g018_0 : ∀ o, (W18.alloc o).cell? ⟨W8.heap.size, 0, none⟩ = some (.int .i64 n') := fun o => keepR c_g018_0 ((Below.refl _ _).alloc (Nat.le_refl _) o)
  have c_g018_1 : W18.cell? ⟨W8.heap.size, 1, none⟩ = some (.slice ao_gv L_gv cap_gv) := row_at r_g018.out 1
  have a_g018_1 : ∀ o, (W18.alloc o).cell? ⟨W8.heap.size, 1, none⟩ = some (.slice ao_gv L_gv cap_gv) := fun o => keepR c_g018_1 ((Below.refl _ _).alloc (Nat.le_refl _) o)
  clear r_a17 c_a17_0 c_a17_1 a_a17_0 a_a17_1 r_w017 c_w017_0 c_w017_1 a_w017_0 a_w017_1 r_g017 c_g017_0 c_g017_1 a_g017_0 a_g017_1 o_wv17 o_gv17 o_y17
  clear o_y18
  obtain ⟨W19, HW19, b19, y19, r_h019⟩ : ∃ X, Hid ((W18.alloc (.cells #[.int .i64 n', .slice ao_hv L_hv cap_hv] 25)) = X) ∧ Below W18.heap.size W18 X ∧ W18.heap.size + 1 ≤ X.heap.size ∧ Hid (X.heap[W18.heap.size]? = some (.cells #[.int .i64 n', .slice ao_hv L_hv cap_hv] 25 (0, 0))) := ⟨_, rfl, (Below.refl _ _).alloc (Nat.le_refl _) _, by simp, heap_alloc_new _ _⟩
  have z19 : W18.heap.size ≤ W19.heap.size := b19.size
  have B19 : Hid (Below w.heap.size w W19) := B18.out.trans (b19.mono B18.out.size)
  have r_a19 : Hid (W19.heap[w.heap.size]? = some (.cells #[.int .i64 n, .slice ao0 hs.length cap0] 32 (0, 0))) := rowKeep r_a18.out b19
  have r_w019 : Hid (W19.heap[W4.heap.size]? = some (.cells #[.int .i64 n', .slice ao_wv L_wv cap_wv] 25 (0, 0))) := rowKeep r_w018.out b19
  have r_g019 : Hid (W19.heap[W8.heap.size]? = some (.cells #[.int .i64 n', .slice ao_gv L_gv cap_gv] 25 (0, 0))) := rowKeep r_g018.out b19
  have o_wv19 : Hid (Own W19 (W3.heap.size) (W4.heap.size) 9 (.slice ao_wv L_wv cap_wv) (ss R)) := Own.later o_wv18.out b19 (by omega)
  have o_gv19 : Hid (Own W19 (W7.heap.size) (W8.heap.size) 9 (.slice ao_gv L_gv cap_gv) (ss (Strs.mts 1 R.length))) := Own.later o_gv18.out b19 (by omega)
  have o_hv19 : Hid (Own W19 (W17.heap.size) (W18.heap.size) 9 (.slice ao_hv L_hv cap_hv) (ss R)) := Own.later o_hv18.out b19 (by omega)
  have c_a19_0 : W19.cell? ⟨w.heap.size, 0, none⟩ = some (.int .i64 n) := row_at r_a19.out 0
  have a_a19_0 : ∀ o, (W19.alloc o).cell? ⟨w.heap.size, 0, none⟩ = some (.int .i64 n) := fun o => keepR c_a19_0 ((Below.refl _ _).alloc (Nat.le_refl _) o)
  have c_a19_1 : W19.cell? ⟨w.heap.size, 1, none⟩ = some (.slice ao0 hs.length cap0) := row_at r_a19.out 1
  have a_a19_1 : ∀ o, (W19.alloc o).cell? ⟨w.heap.size, 1, none⟩ = some (.slice ao0 hs.length cap0) := fun o => keepR c_a19_1 ((Below.refl _ _).alloc (Nat.le_refl _) o)
  have c_w019_0 : W19.cell? ⟨W4.heap.size, 0, none⟩ = some (.int .i64 n') := row_at r_w019.out 0
  have a_w019_0 : ∀ o, (W19.alloc o).cell? ⟨W4.heap.size, 0, none⟩ = some (.int .i64 n') := fun o => keepR c_w019_0 ((Below.refl _ _).alloc (Nat.le_refl _) o)
  have c_w019_1 : W19.cell? ⟨W4.heap.size, 1, none⟩ = some (.slice ao_wv L_wv cap_wv) := row_at r_w019.out 1
  have a_w019_1 : ∀ o, (W19.alloc o).cell? ⟨W4.heap.size, 1, none⟩ = some (.slice ao_wv L_wv cap_wv) := fun o => keepR c_w019_1 ((Below.refl _ _).alloc (Nat.le_refl _) o)
  have c_g019_0 : W19.cell? ⟨W8.heap.size, 0, none⟩ = some (.int .i64 n') := row_at r_g019.out 0
  have a_g019_0 : ∀ o, (W19.alloc o).cell? ⟨W8.heap.size, 0, none⟩ = some (.int .i64 n') := fun o => keepR c_g019_0 ((Below.refl _ _).alloc (Nat.le_refl _) o)
  have c_g019_1 : W19.cell? ⟨W8.heap.size, 1, none⟩ = some (.slice ao_gv L_gv cap_gv) := row_at r_g019.out 1
  have a_g019_1 : ∀ o, (W19.alloc o).cell? ⟨W8.heap.size, 1, none⟩ = some (.slice ao_gv L_gv cap_gv) := fun o => keepR c_g019_1 ((Below.refl _ _).alloc (Nat.le_refl _) o)
  have c_h019_0 : W19.cell? ⟨W18.heap.size, 0, none⟩ = some (.int .i64 n') := row_at r_h019.out 0
  have a_h019_0 : ∀ o, (W19.alloc o).cell? ⟨W18.heap.size, 0, none⟩ = some (.int .i64 n') := fun o => keepR c_h019_0 ((Below.refl _ _).alloc (Nat.le_refl _) o)
  have c_h019_1 : W19.cell? ⟨W18.heap.size, 1, none⟩ = some (.slice ao_hv L_hv cap_hv) := row_at r_h019.out 1
  have a_h019_1 : ∀ o, (W19.alloc o).cell? ⟨W18.heap.size, 1, none⟩ = some (.slice ao_hv L_hv cap_hv) := fun o => keepR c_h019_1 ((Below.refl _ _).alloc (Nat.le_refl _) o)
  clear r_a18 c_a18_0 c_a18_1 r_w018 c_w018_0 c_w018_1 r_g018 c_g018_0 c_g018_1 o_wv18 o_gv18 o_hv18
  go_wp2_with fail
  rw [HW19.out]
  clear a_a18_0 a_a18_1 a_w018_0 a_w018_1 a_g018_0 a_g018_1
  refine (eq_edge W19 n' _ _ R o_hv19.out.sl o_wv19.out.sl (by omega)).mono ?_
  rintro e W20 ⟨rfl, b20⟩
  have z20 : W19.heap.size ≤ W20.heap.size := b20.size
  have B20 : Hid (Below w.heap.size w W20) := B19.out.trans (b20.mono B19.out.size)
  have r_a20 : Hid (W20.heap[w.heap.size]? = some (.cells #[.int .i64 n, .slice ao0 hs.length cap0] 32 (0, 0))) := rowKeep r_a19.out b20
  have r_w020 : Hid (W20.heap[W4.heap.size]? = some (.cells #[.int .i64 n', .slice ao_wv L_wv cap_wv] 25 (0, 0))) := rowKeep r_w019.out b20
  have r_g020 : Hid (W20.heap[W8.heap.size]? = some (.cells #[.int .i64 n', .slice ao_gv L_gv cap_gv] 25 (0, 0))) := rowKeep r_g019.out b20
  have r_h020 : Hid (W20.heap[W18.heap.size]? = some (.cells #[.int .i64 n', .slice ao_hv L_hv cap_hv] 25 (0, 0))) := rowKeep r_h019.out b20
  have o_wv20 : Hid (Own W20 (W3.heap.size) (W4.heap.size) 9 (.slice ao_wv L_wv cap_wv) (ss R)) := Own.later o_wv19.out b20 (by omega)
  have o_gv20 : Hid (Own W20 (W7.heap.size) (W8.heap.size) 9 (.slice ao_gv L_gv cap_gv) (ss (Strs.mts 1 R.length))) := Own.later o_gv19.out b20 (by omega)
  have o_hv20 : Hid (Own W20 (W17.heap.size) (W18.heap.size) 9 (.slice ao_hv L_hv cap_hv) (ss R)) := Own.later o_hv19.out b20 (by omega)
  have c_a20_0 : W20.cell? ⟨w.heap.size, 0, none⟩ = some (.int .i64 n) := row_at r_a20.out 0
  have a_a20_0 : ∀ o, (W20.alloc o).cell? ⟨w.heap.size, 0, none⟩ = some (.int .i64 n) := fun o => keepR c_a20_0 ((Below.refl _ _).alloc (Nat.le_refl _) o)
  have c_a20_1 : W20.cell? ⟨w.heap.size, 1, none⟩ = some (.slice ao0 hs.length cap0) := row_at r_a20.out 1
  have a_a20_1 : ∀ o, (W20.alloc o).cell? ⟨w.heap.size, 1, none⟩ = some (.slice ao0 hs.length cap0) := fun o => keepR c_a20_1 ((Below.refl _ _).alloc (Nat.le_refl _) o)
  have c_w020_0 : W20.cell? ⟨W4.heap.size, 0, none⟩ = some (.int .i64 n') := row_at r_w020.out 0
  have a_w020_0 : ∀ o, (W20.alloc o).cell? ⟨W4.heap.size, 0, none⟩ = some (.int .i64 n') := fun o => keepR c_w020_0 ((Below.refl _ _).alloc (Nat.le_refl _) o)
  have c_w020_1 : W20.cell? ⟨W4.heap.size, 1, none⟩ = some (.slice ao_wv L_wv cap_wv) := row_at r_w020.out 1
  have a_w020_1 : ∀ o, (W20.alloc o).cell? ⟨W4.heap.size, 1, none⟩ = some (.slice ao_wv L_wv cap_wv) := fun o => keepR c_w020_1 ((Below.refl _ _).alloc (Nat.le_refl _) o)
  have c_g020_0 : W20.cell? ⟨W8.heap.size, 0, none⟩ = some (.int .i64 n') := row_at r_g020.out 0
  have a_g020_0 : ∀ o, (W20.alloc o).cell? ⟨W8.heap.size, 0, none⟩ = some (.int .i64 n') := fun o => keepR c_g020_0 ((Below.refl _ _).alloc (Nat.le_refl _) o)
  have c_g020_1 : W20.cell? ⟨W8.heap.size, 1, none⟩ = some (.slice ao_gv L_gv cap_gv) := row_at r_g020.out 1
  have a_g020_1 : ∀ o, (W20.alloc o).cell? ⟨W8.heap.size, 1, none⟩ = some (.slice ao_gv L_gv cap_gv) := fun o => keepR c_g020_1 ((Below.refl _ _).alloc (Nat.le_refl _) o)
  have c_h020_0 : W20.cell? ⟨W18.heap.size, 0, none⟩ = some (.int .i64 n') := row_at r_h020.out 0
  have a_h020_0 : ∀ o, (W20.alloc o).cell? ⟨W18.heap.size, 0, none⟩ = some (.int .i64 n') := fun o => keepR c_h020_0 ((Below.refl _ _).alloc (Nat.le_refl _) o)
  have c_h020_1 : W20.cell? ⟨W18.heap.size, 1, none⟩ = some (.slice ao_hv L_hv cap_hv) := row_at r_h020.out 1
  have a_h020_1 : ∀ o, (W20.alloc o).cell? ⟨W18.heap.size, 1, none⟩ = some (.slice ao_hv L_hv cap_hv) := fun o => keepR c_h020_1 ((Below.refl _ _).alloc (Nat.le_refl _) o)
  clear r_a19 c_a19_0 c_a19_1 a_a19_0 a_a19_1 r_w019 c_w019_0 c_w019_1 a_w019_0 a_w019_1 r_g019 c_g019_0 c_g019_1 a_g019_0 a_g019_1 r_h019 c_h019_0 c_h019_1 a_h019_0 a_h019_1 o_wv19 o_gv19 o_hv19
  go_wp2_with fail
  refine (held_edge W20 n' _ R.length 1 o_gv20.out.sl (by omega) (by omega) (by omega)).mono ?_
  rintro e W21 ⟨rfl, b21⟩
  have z21 : W20.heap.size ≤ W21.heap.size := b21.size
  have B21 : Hid (Below w.heap.size w W21) := B20.out.trans (b21.mono B20.out.size)
  have r_a21 : Hid (W21.heap[w.heap.size]? = some (.cells #[.int .i64 n, .slice ao0 hs.length cap0] 32 (0, 0))) := rowKeep r_a20.out b21
  have r_w021 : Hid (W21.heap[W4.heap.size]? = some (.cells #[.int .i64 n', .slice ao_wv L_wv cap_wv] 25 (0, 0))) := rowKeep r_w020.out b21
  have r_g021 : Hid (W21.heap[W8.heap.size]? = some (.cells #[.int .i64 n', .slice ao_gv L_gv cap_gv] 25 (0, 0))) := rowKeep r_g020.out b21
  have r_h021 : Hid (W21.heap[W18.heap.size]? = some (.cells #[.int .i64 n', .slice ao_hv L_hv cap_hv] 25 (0, 0))) := rowKeep r_h020.out b21
  have o_wv21 : Hid (Own W21 (W3.heap.size) (W4.heap.size) 9 (.slice ao_wv L_wv cap_wv) (ss R)) := Own.later o_wv20.out b21 (by omega)
  have o_gv21 : Hid (Own W21 (W7.heap.size) (W8.heap.size) 9 (.slice ao_gv L_gv cap_gv) (ss (Strs.mts 1 R.length))) := Own.later o_gv20.out b21 (by omega)
  have o_hv21 : Hid (Own W21 (W17.heap.size) (W18.heap.size) 9 (.slice ao_hv L_hv cap_hv) (ss R)) := Own.later o_hv20.out b21 (by omega)
  have c_a21_0 : W21.cell? ⟨w.heap.size, 0, none⟩ = some (.int .i64 n) := row_at r_a21.out 0
  have a_a21_0 : ∀ o, (W21.alloc o).cell? ⟨w.heap.size, 0, none⟩ = some (.int .i64 n) := fun o => keepR c_a21_0 ((Below.refl _ _).alloc (Nat.le_refl _) o)
  have c_a21_1 : W21.cell? ⟨w.heap.size, 1, none⟩ = some (.slice ao0 hs.length cap0) := row_at r_a21.out 1
  have a_a21_1 : ∀ o, (W21.alloc o).cell? ⟨w.heap.size, 1, none⟩ = some (.slice ao0 hs.length cap0) := fun o => keepR c_a21_1 ((Below.refl _ _).alloc (Nat.le_refl _) o)
  have c_w021_0 : W21.cell? ⟨W4.heap.size, 0, none⟩ = some (.int .i64 n') := row_at r_w021.out 0
  have a_w021_0 : ∀ o, (W21.alloc o).cell? ⟨W4.heap.size, 0, none⟩ = some (.int .i64 n') := fun o => keepR c_w021_0 ((Below.refl _ _).alloc (Nat.le_refl _) o)
  have c_w021_1 : W21.cell? ⟨W4.heap.size, 1, none⟩ = some (.slice ao_wv L_wv cap_wv) := row_at r_w021.out 1
  have a_w021_1 : ∀ o, (W21.alloc o).cell? ⟨W4.heap.size, 1, none⟩ = some (.slice ao_wv L_wv cap_wv) := fun o => keepR c_w021_1 ((Below.refl _ _).alloc (Nat.le_refl _) o)
  have c_g021_0 : W21.cell? ⟨W8.heap.size, 0, none⟩ = some (.int .i64 n') := row_at r_g021.out 0
  have a_g021_0 : ∀ o, (W21.alloc o).cell? ⟨W8.heap.size, 0, none⟩ = some (.int .i64 n') := fun o => keepR c_g021_0 ((Below.refl _ _).alloc (Nat.le_refl _) o)
  have c_g021_1 : W21.cell? ⟨W8.heap.size, 1, none⟩ = some (.slice ao_gv L_gv cap_gv) := row_at r_g021.out 1
  have a_g021_1 : ∀ o, (W21.alloc o).cell? ⟨W8.heap.size, 1, none⟩ = some (.slice ao_gv L_gv cap_gv) := fun o => keepR c_g021_1 ((Below.refl _ _).alloc (Nat.le_refl _) o)
  have c_h021_0 : W21.cell? ⟨W18.heap.size, 0, none⟩ = some (.int .i64 n') := row_at r_h021.out 0
  have a_h021_0 : ∀ o, (W21.alloc o).cell? ⟨W18.heap.size, 0, none⟩ = some (.int .i64 n') := fun o => keepR c_h021_0 ((Below.refl _ _).alloc (Nat.le_refl _) o)
  have c_h021_1 : W21.cell? ⟨W18.heap.size, 1, none⟩ = some (.slice ao_hv L_hv cap_hv) := row_at r_h021.out 1
  have a_h021_1 : ∀ o, (W21.alloc o).cell? ⟨W18.heap.size, 1, none⟩ = some (.slice ao_hv L_hv cap_hv) := fun o => keepR c_h021_1 ((Below.refl _ _).alloc (Nat.le_refl _) o)
  clear r_a20 c_a20_0 c_a20_1 a_a20_0 a_a20_1 r_w020 c_w020_0 c_w020_1 a_w020_0 a_w020_1 r_g020 c_g020_0 c_g020_1 a_g020_0 a_g020_1 r_h020 c_h020_0 c_h020_1 a_h020_0 a_h020_1 o_wv20 o_gv20 o_hv20
  go_wp2
  go_ret
  exact ⟨rfl, B21.out⟩

theorem edgeOf_short (l : List ByteArray) : (edgeOf l).2.length ≤ 8 := by
  unfold edgeOf
  split
  · show (edge l).length ≤ 8
    rw [edge_len]
    exact popc_le ⟨l.length, by omega⟩
  · exact Nat.zero_le _

set_option maxRecDepth 1000000 in
set_option maxHeartbeats 8000000 in
theorem exact_of (w : World) (v : Value) (l : List ByteArray) (h : Sl w v (ss l)) (hz : ∀ s ∈ l, s.size ≤ maxLen) (hm : l.length ≤ maxLen)
    (iF : ∀ W v', Below w.heap.size w W → Sl W v' (ss l) → l.length ≤ 1048576 → (∀ s ∈ l, s.size ≤ 1048576) → Calls Tryd.prog 10 #[v'] W fun e w' => ∃ v'', e = .returned (.agg #[.int .i64 ((edgeOf l).1 : Int), v'']) ∧ Own w' W.heap.size w'.heap.size 9 v'' (ss (edgeOf l).2) ∧ Below W.heap.size W w') :
    Calls Tryd.prog 3 #[v] w fun e w' => e = .returned (.bool true) ∧ Below w.heap.size w w' := by
  have HS : Hid (Sl w v (ss l)) := h
  unfold maxLen at *
  obtain ⟨ao0, cap0, rfl, hc0⟩ := h.form
  rw [ss_len] at *
  clear h
  have B0 : Hid (Below w.heap.size w w) := Below.refl _ _
  have hsz := Strs.sz_any w _ l 1048576 HS.out hz hm (Nat.le_refl _)
  go_enter Tryd.func3, Tryd.ntmps3
  go_wp2_with fail
  refine hsz.mono ?_
  rintro e WX ⟨⟨r0, rfl, hr0⟩, hWX⟩
  subst hWX
  clear hsz
  by_cases hr : r0 < 0
  · go_wp2
    go_ret
    exact ⟨rfl, Below.refl _ _⟩
  have hr1 : l.length + Puts.tot l ≤ 1048576 := by rcases hr0 with h0 | h0; exact absurd h0 hr; exact h0.1
  have hl : l.length ≤ 1048576 := by omega
  have hzz : ∀ s ∈ l, s.size ≤ 1048576 := fun s h => Nat.le_trans (mem_tot h) (by omega)
  clear hr0 hz
  have q1 : ∀ W v1, Sl W v1 (ss l) → _ := fun W v1 h1 => of_spec W v1 l h1 (by omega) (fun s h => Nat.le_trans (hzz s h) (by omega))
  have q2 : ∀ W v1, Below w.heap.size w W → Sl W v1 (ss l) → _ := fun W v1 hB h1 => iF W v1 hB h1 hl hzz
  have hsh : (edgeOf l).2.length ≤ 8 := edgeOf_short l
  obtain ⟨m, R, hA⟩ : ∃ m R, edgeOf l = (m, R) := ⟨_, _, rfl⟩
  simp only [hA] at q1 q2 hsh
  obtain ⟨n', hn'⟩ : ∃ n' : Int, (m : Int) = n' := ⟨_, rfl⟩
  simp only [hn'] at q1 q2
  clear hA iF hn'
  go_wp2_with fail
  refine (Strs.to_s w _ l (HS.out.later B0.out) (by omega)).mono ?_
  rintro e W1 ⟨v_t, rfl, o_t1, b1⟩
  obtain ⟨ao_t, L_t, cap_t, rfl, hL_t, hM_t⟩ := o_t1.form
  have o_t1 : Hid (Own W1 w.heap.size W1.heap.size 9 (.slice ao_t L_t cap_t) (ss l)) := o_t1
  clear hL_t hM_t
  have z1 : w.heap.size ≤ W1.heap.size := b1.size
  have B1 : Hid (Below w.heap.size w W1) := B0.out.trans (b1.mono B0.out.size)
  go_wp2_with fail
  refine (q1 W1 _ o_t1.out.sl).mono ?_
  rintro e W2 ⟨v_wv, rfl, o_wv2, b2⟩
  obtain ⟨ao_wv, L_wv, cap_wv, rfl, hL_wv, hM_wv⟩ := o_wv2.form
  have o_wv2 : Hid (Own W2 W1.heap.size W2.heap.size 9 (.slice ao_wv L_wv cap_wv) (ss R)) := o_wv2
  clear hL_wv hM_wv
  have z2 : W1.heap.size ≤ W2.heap.size := b2.size
  have B2 : Hid (Below w.heap.size w W2) := B1.out.trans (b2.mono B1.out.size)
  have o_t2 : Hid (Own W2 (w.heap.size) (W1.heap.size) 9 (.slice ao_t L_t cap_t) (ss l)) := Own.later o_t1.out b2 (by omega)
  clear o_t1
  clear o_t2
  obtain ⟨W3, HW3, b3, y3, r_w03⟩ : ∃ X, Hid ((W2.alloc (.cells #[.int .i64 n', .slice ao_wv L_wv cap_wv] 25)) = X) ∧ Below W2.heap.size W2 X ∧ W2.heap.size + 1 ≤ X.heap.size ∧ Hid (X.heap[W2.heap.size]? = some (.cells #[.int .i64 n', .slice ao_wv L_wv cap_wv] 25 (0, 0))) := ⟨_, rfl, (Below.refl _ _).alloc (Nat.le_refl _) _, by simp, heap_alloc_new _ _⟩
  have z3 : W2.heap.size ≤ W3.heap.size := b3.size
  have B3 : Hid (Below w.heap.size w W3) := B2.out.trans (b3.mono B2.out.size)
  have o_wv3 : Hid (Own W3 (W1.heap.size) (W2.heap.size) 9 (.slice ao_wv L_wv cap_wv) (ss R)) := Own.later o_wv2.out b3 (by omega)
  have c_w03_0 : W3.cell? ⟨W2.heap.size, 0, none⟩ = some (.int .i64 n') := row_at r_w03.out 0
  have a_w03_0 : ∀ o, (W3.alloc o).cell? ⟨W2.heap.size, 0, none⟩ = some (.int .i64 n') := fun o => keepR c_w03_0 ((Below.refl _ _).alloc (Nat.le_refl _) o)
  have c_w03_1 : W3.cell? ⟨W2.heap.size, 1, none⟩ = some (.slice ao_wv L_wv cap_wv) := row_at r_w03.out 1
  have a_w03_1 : ∀ o, (W3.alloc o).cell? ⟨W2.heap.size, 1, none⟩ = some (.slice ao_wv L_wv cap_wv) := fun o => keepR c_w03_1 ((Below.refl _ _).alloc (Nat.le_refl _) o)
  clear o_wv2
  go_wp2_with fail
  rw [HW3.out]
  refine (Strs.to_s W3 _ l (HS.out.later B3.out) (by omega)).mono ?_
  rintro e W4 ⟨v_x, rfl, o_x4, b4⟩
  obtain ⟨ao_x, L_x, cap_x, rfl, hL_x, hM_x⟩ := o_x4.form
  have o_x4 : Hid (Own W4 W3.heap.size W4.heap.size 9 (.slice ao_x L_x cap_x) (ss l)) := o_x4
  clear hL_x hM_x
  have z4 : W3.heap.size ≤ W4.heap.size := b4.size
  have B4 : Hid (Below w.heap.size w W4) := B3.out.trans (b4.mono B3.out.size)
  have r_w04 : Hid (W4.heap[W2.heap.size]? = some (.cells #[.int .i64 n', .slice ao_wv L_wv cap_wv] 25 (0, 0))) := rowKeep r_w03.out b4
  have o_wv4 : Hid (Own W4 (W1.heap.size) (W2.heap.size) 9 (.slice ao_wv L_wv cap_wv) (ss R)) := Own.later o_wv3.out b4 (by omega)
  have c_w04_0 : W4.cell? ⟨W2.heap.size, 0, none⟩ = some (.int .i64 n') := row_at r_w04.out 0
  have a_w04_0 : ∀ o, (W4.alloc o).cell? ⟨W2.heap.size, 0, none⟩ = some (.int .i64 n') := fun o => keepR c_w04_0 ((Below.refl _ _).alloc (Nat.le_refl _) o)
  have c_w04_1 : W4.cell? ⟨W2.heap.size, 1, none⟩ = some (.slice ao_wv L_wv cap_wv) := row_at r_w04.out 1
  have a_w04_1 : ∀ o, (W4.alloc o).cell? ⟨W2.heap.size, 1, none⟩ = some (.slice ao_wv L_wv cap_wv) := fun o => keepR c_w04_1 ((Below.refl _ _).alloc (Nat.le_refl _) o)
  clear r_w03 c_w03_0 c_w03_1 a_w03_0 a_w03_1 o_wv3
  go_wp2_with fail
  refine (q2 W4 _ B4.out o_x4.out.sl).mono ?_
  rintro e W5 ⟨v_gv, rfl, o_gv5, b5⟩
  obtain ⟨ao_gv, L_gv, cap_gv, rfl, hL_gv, hM_gv⟩ := o_gv5.form
  have o_gv5 : Hid (Own W5 W4.heap.size W5.heap.size 9 (.slice ao_gv L_gv cap_gv) (ss R)) := o_gv5
  clear hL_gv hM_gv
  have z5 : W4.heap.size ≤ W5.heap.size := b5.size
  have B5 : Hid (Below w.heap.size w W5) := B4.out.trans (b5.mono B4.out.size)
  have r_w05 : Hid (W5.heap[W2.heap.size]? = some (.cells #[.int .i64 n', .slice ao_wv L_wv cap_wv] 25 (0, 0))) := rowKeep r_w04.out b5
  have o_wv5 : Hid (Own W5 (W1.heap.size) (W2.heap.size) 9 (.slice ao_wv L_wv cap_wv) (ss R)) := Own.later o_wv4.out b5 (by omega)
  have o_x5 : Hid (Own W5 (W3.heap.size) (W4.heap.size) 9 (.slice ao_x L_x cap_x) (ss l)) := Own.later o_x4.out b5 (by omega)
  have c_w05_0 : W5.cell? ⟨W2.heap.size, 0, none⟩ = some (.int .i64 n') := row_at r_w05.out 0
  have a_w05_0 : ∀ o, (W5.alloc o).cell? ⟨W2.heap.size, 0, none⟩ = some (.int .i64 n') := fun o => keepR c_w05_0 ((Below.refl _ _).alloc (Nat.le_refl _) o)
  have c_w05_1 : W5.cell? ⟨W2.heap.size, 1, none⟩ = some (.slice ao_wv L_wv cap_wv) := row_at r_w05.out 1
  have a_w05_1 : ∀ o, (W5.alloc o).cell? ⟨W2.heap.size, 1, none⟩ = some (.slice ao_wv L_wv cap_wv) := fun o => keepR c_w05_1 ((Below.refl _ _).alloc (Nat.le_refl _) o)
  clear r_w04 c_w04_0 c_w04_1 a_w04_0 a_w04_1 o_wv4 o_x4
  obtain ⟨W6, HW6, b6, y6, r_g06⟩ : ∃ X, Hid ((W5.alloc (.cells #[.int .i64 n', .slice ao_gv L_gv cap_gv] 25)) = X) ∧ Below W5.heap.size W5 X ∧ W5.heap.size + 1 ≤ X.heap.size ∧ Hid (X.heap[W5.heap.size]? = some (.cells #[.int .i64 n', .slice ao_gv L_gv cap_gv] 25 (0, 0))) := ⟨_, rfl, (Below.refl _ _).alloc (Nat.le_refl _) _, by simp, heap_alloc_new _ _⟩
  have z6 : W5.heap.size ≤ W6.heap.size := b6.size
  have B6 : Hid (Below w.heap.size w W6) := B5.out.trans (b6.mono B5.out.size)
  have r_w06 : Hid (W6.heap[W2.heap.size]? = some (.cells #[.int .i64 n', .slice ao_wv L_wv cap_wv] 25 (0, 0))) := rowKeep r_w05.out b6
  have o_wv6 : Hid (Own W6 (W1.heap.size) (W2.heap.size) 9 (.slice ao_wv L_wv cap_wv) (ss R)) := Own.later o_wv5.out b6 (by omega)
  have o_x6 : Hid (Own W6 (W3.heap.size) (W4.heap.size) 9 (.slice ao_x L_x cap_x) (ss l)) := Own.later o_x5.out b6 (by omega)
  have o_gv6 : Hid (Own W6 (W4.heap.size) (W5.heap.size) 9 (.slice ao_gv L_gv cap_gv) (ss R)) := Own.later o_gv5.out b6 (by omega)
  have c_w06_0 : W6.cell? ⟨W2.heap.size, 0, none⟩ = some (.int .i64 n') := row_at r_w06.out 0
  have a_w06_0 : ∀ o, (W6.alloc o).cell? ⟨W2.heap.size, 0, none⟩ = some (.int .i64 n') := fun o => keepR c_w06_0 ((Below.refl _ _).alloc (Nat.le_refl _) o)
  have c_w06_1 : W6.cell? ⟨W2.heap.size, 1, none⟩ = some (.slice ao_wv L_wv cap_wv) := row_at r_w06.out 1
  have a_w06_1 : ∀ o, (W6.alloc o).cell? ⟨W2.heap.size, 1, none⟩ = some (.slice ao_wv L_wv cap_wv) := fun o => keepR c_w06_1 ((Below.refl _ _).alloc (Nat.le_refl _) o)
  have c_g06_0 : W6.cell? ⟨W5.heap.size, 0, none⟩ = some (.int .i64 n') := row_at r_g06.out 0
  have a_g06_0 : ∀ o, (W6.alloc o).cell? ⟨W5.heap.size, 0, none⟩ = some (.int .i64 n') := fun o => keepR c_g06_0 ((Below.refl _ _).alloc (Nat.le_refl _) o)
  have c_g06_1 : W6.cell? ⟨W5.heap.size, 1, none⟩ = some (.slice ao_gv L_gv cap_gv) := row_at r_g06.out 1
  have a_g06_1 : ∀ o, (W6.alloc o).cell? ⟨W5.heap.size, 1, none⟩ = some (.slice ao_gv L_gv cap_gv) := fun o => keepR c_g06_1 ((Below.refl _ _).alloc (Nat.le_refl _) o)
  clear r_w05 c_w05_0 c_w05_1 o_wv5 o_x5 o_gv5
  go_wp2_with fail
  rw [HW6.out]
  clear a_w05_0 a_w05_1
  refine (eq_edge W6 n' _ _ R o_gv6.out.sl o_wv6.out.sl (by omega)).mono ?_
  rintro e W7 ⟨rfl, b7⟩
  have z7 : W6.heap.size ≤ W7.heap.size := b7.size
  have B7 : Hid (Below w.heap.size w W7) := B6.out.trans (b7.mono B6.out.size)
  have r_w07 : Hid (W7.heap[W2.heap.size]? = some (.cells #[.int .i64 n', .slice ao_wv L_wv cap_wv] 25 (0, 0))) := rowKeep r_w06.out b7
  have r_g07 : Hid (W7.heap[W5.heap.size]? = some (.cells #[.int .i64 n', .slice ao_gv L_gv cap_gv] 25 (0, 0))) := rowKeep r_g06.out b7
  have o_wv7 : Hid (Own W7 (W1.heap.size) (W2.heap.size) 9 (.slice ao_wv L_wv cap_wv) (ss R)) := Own.later o_wv6.out b7 (by omega)
  have o_x7 : Hid (Own W7 (W3.heap.size) (W4.heap.size) 9 (.slice ao_x L_x cap_x) (ss l)) := Own.later o_x6.out b7 (by omega)
  have o_gv7 : Hid (Own W7 (W4.heap.size) (W5.heap.size) 9 (.slice ao_gv L_gv cap_gv) (ss R)) := Own.later o_gv6.out b7 (by omega)
  have c_w07_0 : W7.cell? ⟨W2.heap.size, 0, none⟩ = some (.int .i64 n') := row_at r_w07.out 0
  have a_w07_0 : ∀ o, (W7.alloc o).cell? ⟨W2.heap.size, 0, none⟩ = some (.int .i64 n') := fun o => keepR c_w07_0 ((Below.refl _ _).alloc (Nat.le_refl _) o)
  have c_w07_1 : W7.cell? ⟨W2.heap.size, 1, none⟩ = some (.slice ao_wv L_wv cap_wv) := row_at r_w07.out 1
  have a_w07_1 : ∀ o, (W7.alloc o).cell? ⟨W2.heap.size, 1, none⟩ = some (.slice ao_wv L_wv cap_wv) := fun o => keepR c_w07_1 ((Below.refl _ _).alloc (Nat.le_refl _) o)
  have c_g07_0 : W7.cell? ⟨W5.heap.size, 0, none⟩ = some (.int .i64 n') := row_at r_g07.out 0
  have a_g07_0 : ∀ o, (W7.alloc o).cell? ⟨W5.heap.size, 0, none⟩ = some (.int .i64 n') := fun o => keepR c_g07_0 ((Below.refl _ _).alloc (Nat.le_refl _) o)
  have c_g07_1 : W7.cell? ⟨W5.heap.size, 1, none⟩ = some (.slice ao_gv L_gv cap_gv) := row_at r_g07.out 1
  have a_g07_1 : ∀ o, (W7.alloc o).cell? ⟨W5.heap.size, 1, none⟩ = some (.slice ao_gv L_gv cap_gv) := fun o => keepR c_g07_1 ((Below.refl _ _).alloc (Nat.le_refl _) o)
  clear r_w06 c_w06_0 c_w06_1 a_w06_0 a_w06_1 r_g06 c_g06_0 c_g06_1 a_g06_0 a_g06_1 o_wv6 o_x6 o_gv6
  go_wp2_with fail
  refine (Strs.to_s W7 _ l (HS.out.later B7.out) (by omega)).mono ?_
  rintro e W8 ⟨v_u, rfl, o_u8, b8⟩
  obtain ⟨ao_u, L_u, cap_u, rfl, hL_u, hM_u⟩ := o_u8.form
  have o_u8 : Hid (Own W8 W7.heap.size W8.heap.size 9 (.slice ao_u L_u cap_u) (ss l)) := o_u8
  clear hL_u hM_u
  have z8 : W7.heap.size ≤ W8.heap.size := b8.size
  have B8 : Hid (Below w.heap.size w W8) := B7.out.trans (b8.mono B7.out.size)
  have r_w08 : Hid (W8.heap[W2.heap.size]? = some (.cells #[.int .i64 n', .slice ao_wv L_wv cap_wv] 25 (0, 0))) := rowKeep r_w07.out b8
  have r_g08 : Hid (W8.heap[W5.heap.size]? = some (.cells #[.int .i64 n', .slice ao_gv L_gv cap_gv] 25 (0, 0))) := rowKeep r_g07.out b8
  have o_wv8 : Hid (Own W8 (W1.heap.size) (W2.heap.size) 9 (.slice ao_wv L_wv cap_wv) (ss R)) := Own.later o_wv7.out b8 (by omega)
  have o_x8 : Hid (Own W8 (W3.heap.size) (W4.heap.size) 9 (.slice ao_x L_x cap_x) (ss l)) := Own.later o_x7.out b8 (by omega)
  have o_gv8 : Hid (Own W8 (W4.heap.size) (W5.heap.size) 9 (.slice ao_gv L_gv cap_gv) (ss R)) := Own.later o_gv7.out b8 (by omega)
  have c_w08_0 : W8.cell? ⟨W2.heap.size, 0, none⟩ = some (.int .i64 n') := row_at r_w08.out 0
  have a_w08_0 : ∀ o, (W8.alloc o).cell? ⟨W2.heap.size, 0, none⟩ = some (.int .i64 n') := fun o => keepR c_w08_0 ((Below.refl _ _).alloc (Nat.le_refl _) o)
  have c_w08_1 : W8.cell? ⟨W2.heap.size, 1, none⟩ = some (.slice ao_wv L_wv cap_wv) := row_at r_w08.out 1
  have a_w08_1 : ∀ o, (W8.alloc o).cell? ⟨W2.heap.size, 1, none⟩ = some (.slice ao_wv L_wv cap_wv) := fun o => keepR c_w08_1 ((Below.refl _ _).alloc (Nat.le_refl _) o)
  have c_g08_0 : W8.cell? ⟨W5.heap.size, 0, none⟩ = some (.int .i64 n') := row_at r_g08.out 0
  have a_g08_0 : ∀ o, (W8.alloc o).cell? ⟨W5.heap.size, 0, none⟩ = some (.int .i64 n') := fun o => keepR c_g08_0 ((Below.refl _ _).alloc (Nat.le_refl _) o)
  have c_g08_1 : W8.cell? ⟨W5.heap.size, 1, none⟩ = some (.slice ao_gv L_gv cap_gv) := row_at r_g08.out 1
  have a_g08_1 : ∀ o, (W8.alloc o).cell? ⟨W5.heap.size, 1, none⟩ = some (.slice ao_gv L_gv cap_gv) := fun o => keepR c_g08_1 ((Below.refl _ _).alloc (Nat.le_refl _) o)
  clear r_w07 c_w07_0 c_w07_1 a_w07_0 a_w07_1 r_g07 c_g07_0 c_g07_1 a_g07_0 a_g07_1 o_wv7 o_x7 o_gv7
  go_wp2_with fail
  refine (Strs.eqs_true W8 _ _ l o_x8.out.sl o_u8.out.sl (by omega)).mono ?_
  rintro e W9 ⟨rfl, h9, _⟩
  have b9 : Below W8.heap.size W8 W9 := h9 _
  clear h9
  have z9 : W8.heap.size ≤ W9.heap.size := b9.size
  have B9 : Hid (Below w.heap.size w W9) := B8.out.trans (b9.mono B8.out.size)
  have r_w09 : Hid (W9.heap[W2.heap.size]? = some (.cells #[.int .i64 n', .slice ao_wv L_wv cap_wv] 25 (0, 0))) := rowKeep r_w08.out b9
  have r_g09 : Hid (W9.heap[W5.heap.size]? = some (.cells #[.int .i64 n', .slice ao_gv L_gv cap_gv] 25 (0, 0))) := rowKeep r_g08.out b9
  have o_wv9 : Hid (Own W9 (W1.heap.size) (W2.heap.size) 9 (.slice ao_wv L_wv cap_wv) (ss R)) := Own.later o_wv8.out b9 (by omega)
  have o_x9 : Hid (Own W9 (W3.heap.size) (W4.heap.size) 9 (.slice ao_x L_x cap_x) (ss l)) := Own.later o_x8.out b9 (by omega)
  have o_gv9 : Hid (Own W9 (W4.heap.size) (W5.heap.size) 9 (.slice ao_gv L_gv cap_gv) (ss R)) := Own.later o_gv8.out b9 (by omega)
  have o_u9 : Hid (Own W9 (W7.heap.size) (W8.heap.size) 9 (.slice ao_u L_u cap_u) (ss l)) := Own.later o_u8.out b9 (by omega)
  have c_w09_0 : W9.cell? ⟨W2.heap.size, 0, none⟩ = some (.int .i64 n') := row_at r_w09.out 0
  have a_w09_0 : ∀ o, (W9.alloc o).cell? ⟨W2.heap.size, 0, none⟩ = some (.int .i64 n') := fun o => keepR c_w09_0 ((Below.refl _ _).alloc (Nat.le_refl _) o)
  have c_w09_1 : W9.cell? ⟨W2.heap.size, 1, none⟩ = some (.slice ao_wv L_wv cap_wv) := row_at r_w09.out 1
  have a_w09_1 : ∀ o, (W9.alloc o).cell? ⟨W2.heap.size, 1, none⟩ = some (.slice ao_wv L_wv cap_wv) := fun o => keepR c_w09_1 ((Below.refl _ _).alloc (Nat.le_refl _) o)
  have c_g09_0 : W9.cell? ⟨W5.heap.size, 0, none⟩ = some (.int .i64 n') := row_at r_g09.out 0
  have a_g09_0 : ∀ o, (W9.alloc o).cell? ⟨W5.heap.size, 0, none⟩ = some (.int .i64 n') := fun o => keepR c_g09_0 ((Below.refl _ _).alloc (Nat.le_refl _) o)
  have c_g09_1 : W9.cell? ⟨W5.heap.size, 1, none⟩ = some (.slice ao_gv L_gv cap_gv) := row_at r_g09.out 1
  have a_g09_1 : ∀ o, (W9.alloc o).cell? ⟨W5.heap.size, 1, none⟩ = some (.slice ao_gv L_gv cap_gv) := fun o => keepR c_g09_1 ((Below.refl _ _).alloc (Nat.le_refl _) o)
  clear r_w08 c_w08_0 c_w08_1 a_w08_0 a_w08_1 r_g08 c_g08_0 c_g08_1 a_g08_0 a_g08_1 o_wv8 o_x8 o_gv8 o_u8
  clear o_u9
  go_wp2_with fail
  refine (Strs.marks_any W9 _ (W3.heap.size) (W4.heap.size) l 1 o_x9.out (by omega) (by omega) (by omega) (by omega)).mono ?_
  rintro e W10 ⟨rfl, o_x10, p10⟩
  have o_x10 : Hid (Own W10 (W3.heap.size) (W4.heap.size) 9 (.slice ao_x L_x cap_x) (ss (Strs.mts 1 l.length))) := o_x10
  have z10 : W9.heap.size ≤ W10.heap.size := p10.size
  have B10 : Hid (Below w.heap.size w W10) := B9.out.trans (p10.below (by have := B9.out.size; omega) B9.out.size)
  have r_w010 : Hid (W10.heap[W2.heap.size]? = some (.cells #[.int .i64 n', .slice ao_wv L_wv cap_wv] 25 (0, 0))) := (p10.block (W2.heap.size) (by omega) (by omega)).trans r_w09.out
  have r_g010 : Hid (W10.heap[W5.heap.size]? = some (.cells #[.int .i64 n', .slice ao_gv L_gv cap_gv] 25 (0, 0))) := (p10.block (W5.heap.size) (by omega) (by omega)).trans r_g09.out
  have o_wv10 : Hid (Own W10 (W1.heap.size) (W2.heap.size) 9 (.slice ao_wv L_wv cap_wv) (ss R)) := Own.apart o_wv9.out p10 (by omega) (by omega)
  have o_gv10 : Hid (Own W10 (W4.heap.size) (W5.heap.size) 9 (.slice ao_gv L_gv cap_gv) (ss R)) := Own.apart o_gv9.out p10 (by omega) (by omega)
  have c_w010_0 : W10.cell? ⟨W2.heap.size, 0, none⟩ = some (.int .i64 n') := row_at r_w010.out 0
  have a_w010_0 : ∀ o, (W10.alloc o).cell? ⟨W2.heap.size, 0, none⟩ = some (.int .i64 n') := fun o => keepR c_w010_0 ((Below.refl _ _).alloc (Nat.le_refl _) o)
  have c_w010_1 : W10.cell? ⟨W2.heap.size, 1, none⟩ = some (.slice ao_wv L_wv cap_wv) := row_at r_w010.out 1
  have a_w010_1 : ∀ o, (W10.alloc o).cell? ⟨W2.heap.size, 1, none⟩ = some (.slice ao_wv L_wv cap_wv) := fun o => keepR c_w010_1 ((Below.refl _ _).alloc (Nat.le_refl _) o)
  have c_g010_0 : W10.cell? ⟨W5.heap.size, 0, none⟩ = some (.int .i64 n') := row_at r_g010.out 0
  have a_g010_0 : ∀ o, (W10.alloc o).cell? ⟨W5.heap.size, 0, none⟩ = some (.int .i64 n') := fun o => keepR c_g010_0 ((Below.refl _ _).alloc (Nat.le_refl _) o)
  have c_g010_1 : W10.cell? ⟨W5.heap.size, 1, none⟩ = some (.slice ao_gv L_gv cap_gv) := row_at r_g010.out 1
  have a_g010_1 : ∀ o, (W10.alloc o).cell? ⟨W5.heap.size, 1, none⟩ = some (.slice ao_gv L_gv cap_gv) := fun o => keepR c_g010_1 ((Below.refl _ _).alloc (Nat.le_refl _) o)
  clear r_w09 c_w09_0 c_w09_1 a_w09_0 a_w09_1 r_g09 c_g09_0 c_g09_1 a_g09_0 a_g09_1 o_wv9 o_x9 o_gv9
  clear o_x10
  go_wp2_with fail
  refine (eq_edge W10 n' _ _ R o_gv10.out.sl o_wv10.out.sl (by omega)).mono ?_
  rintro e W11 ⟨rfl, b11⟩
  have z11 : W10.heap.size ≤ W11.heap.size := b11.size
  have B11 : Hid (Below w.heap.size w W11) := B10.out.trans (b11.mono B10.out.size)
  have r_w011 : Hid (W11.heap[W2.heap.size]? = some (.cells #[.int .i64 n', .slice ao_wv L_wv cap_wv] 25 (0, 0))) := rowKeep r_w010.out b11
  have r_g011 : Hid (W11.heap[W5.heap.size]? = some (.cells #[.int .i64 n', .slice ao_gv L_gv cap_gv] 25 (0, 0))) := rowKeep r_g010.out b11
  have o_wv11 : Hid (Own W11 (W1.heap.size) (W2.heap.size) 9 (.slice ao_wv L_wv cap_wv) (ss R)) := Own.later o_wv10.out b11 (by omega)
  have o_gv11 : Hid (Own W11 (W4.heap.size) (W5.heap.size) 9 (.slice ao_gv L_gv cap_gv) (ss R)) := Own.later o_gv10.out b11 (by omega)
  have c_w011_0 : W11.cell? ⟨W2.heap.size, 0, none⟩ = some (.int .i64 n') := row_at r_w011.out 0
  have a_w011_0 : ∀ o, (W11.alloc o).cell? ⟨W2.heap.size, 0, none⟩ = some (.int .i64 n') := fun o => keepR c_w011_0 ((Below.refl _ _).alloc (Nat.le_refl _) o)
  have c_w011_1 : W11.cell? ⟨W2.heap.size, 1, none⟩ = some (.slice ao_wv L_wv cap_wv) := row_at r_w011.out 1
  have a_w011_1 : ∀ o, (W11.alloc o).cell? ⟨W2.heap.size, 1, none⟩ = some (.slice ao_wv L_wv cap_wv) := fun o => keepR c_w011_1 ((Below.refl _ _).alloc (Nat.le_refl _) o)
  have c_g011_0 : W11.cell? ⟨W5.heap.size, 0, none⟩ = some (.int .i64 n') := row_at r_g011.out 0
  have a_g011_0 : ∀ o, (W11.alloc o).cell? ⟨W5.heap.size, 0, none⟩ = some (.int .i64 n') := fun o => keepR c_g011_0 ((Below.refl _ _).alloc (Nat.le_refl _) o)
  have c_g011_1 : W11.cell? ⟨W5.heap.size, 1, none⟩ = some (.slice ao_gv L_gv cap_gv) := row_at r_g011.out 1
  have a_g011_1 : ∀ o, (W11.alloc o).cell? ⟨W5.heap.size, 1, none⟩ = some (.slice ao_gv L_gv cap_gv) := fun o => keepR c_g011_1 ((Below.refl _ _).alloc (Nat.le_refl _) o)
  clear r_w010 c_w010_0 c_w010_1 a_w010_0 a_w010_1 r_g010 c_g010_0 c_g010_1 a_g010_0 a_g010_1 o_wv10 o_gv10
  go_wp2_with fail
  refine (mark_edge W11 n' _ (W4.heap.size) (W5.heap.size) R 1 o_gv11.out (by omega) (by omega) (by omega) (by omega)).mono ?_
  rintro e W12 ⟨rfl, o_gv12, p12⟩
  have o_gv12 : Hid (Own W12 (W4.heap.size) (W5.heap.size) 9 (.slice ao_gv L_gv cap_gv) (ss (Strs.mts 1 R.length))) := o_gv12
  have z12 : W11.heap.size ≤ W12.heap.size := p12.size
  have B12 : Hid (Below w.heap.size w W12) := B11.out.trans (p12.below (by have := B11.out.size; omega) B11.out.size)
  have r_w012 : Hid (W12.heap[W2.heap.size]? = some (.cells #[.int .i64 n', .slice ao_wv L_wv cap_wv] 25 (0, 0))) := (p12.block (W2.heap.size) (by omega) (by omega)).trans r_w011.out
  have r_g012 : Hid (W12.heap[W5.heap.size]? = some (.cells #[.int .i64 n', .slice ao_gv L_gv cap_gv] 25 (0, 0))) := (p12.block (W5.heap.size) (by omega) (by omega)).trans r_g011.out
  have o_wv12 : Hid (Own W12 (W1.heap.size) (W2.heap.size) 9 (.slice ao_wv L_wv cap_wv) (ss R)) := Own.apart o_wv11.out p12 (by omega) (by omega)
  have c_w012_0 : W12.cell? ⟨W2.heap.size, 0, none⟩ = some (.int .i64 n') := row_at r_w012.out 0
  have a_w012_0 : ∀ o, (W12.alloc o).cell? ⟨W2.heap.size, 0, none⟩ = some (.int .i64 n') := fun o => keepR c_w012_0 ((Below.refl _ _).alloc (Nat.le_refl _) o)
  have c_w012_1 : W12.cell? ⟨W2.heap.size, 1, none⟩ = some (.slice ao_wv L_wv cap_wv) := row_at r_w012.out 1
  have a_w012_1 : ∀ o, (W12.alloc o).cell? ⟨W2.heap.size, 1, none⟩ = some (.slice ao_wv L_wv cap_wv) := fun o => keepR c_w012_1 ((Below.refl _ _).alloc (Nat.le_refl _) o)
  have c_g012_0 : W12.cell? ⟨W5.heap.size, 0, none⟩ = some (.int .i64 n') := row_at r_g012.out 0
  have a_g012_0 : ∀ o, (W12.alloc o).cell? ⟨W5.heap.size, 0, none⟩ = some (.int .i64 n') := fun o => keepR c_g012_0 ((Below.refl _ _).alloc (Nat.le_refl _) o)
  have c_g012_1 : W12.cell? ⟨W5.heap.size, 1, none⟩ = some (.slice ao_gv L_gv cap_gv) := row_at r_g012.out 1
  have a_g012_1 : ∀ o, (W12.alloc o).cell? ⟨W5.heap.size, 1, none⟩ = some (.slice ao_gv L_gv cap_gv) := fun o => keepR c_g012_1 ((Below.refl _ _).alloc (Nat.le_refl _) o)
  clear r_w011 c_w011_0 c_w011_1 a_w011_0 a_w011_1 r_g011 c_g011_0 c_g011_1 a_g011_0 a_g011_1 o_wv11 o_gv11
  go_wp2_with fail
  refine (held_edge W12 n' _ R.length 1 o_gv12.out.sl (by omega) (by omega) (by omega)).mono ?_
  rintro e W13 ⟨rfl, b13⟩
  have z13 : W12.heap.size ≤ W13.heap.size := b13.size
  have B13 : Hid (Below w.heap.size w W13) := B12.out.trans (b13.mono B12.out.size)
  have r_w013 : Hid (W13.heap[W2.heap.size]? = some (.cells #[.int .i64 n', .slice ao_wv L_wv cap_wv] 25 (0, 0))) := rowKeep r_w012.out b13
  have r_g013 : Hid (W13.heap[W5.heap.size]? = some (.cells #[.int .i64 n', .slice ao_gv L_gv cap_gv] 25 (0, 0))) := rowKeep r_g012.out b13
  have o_wv13 : Hid (Own W13 (W1.heap.size) (W2.heap.size) 9 (.slice ao_wv L_wv cap_wv) (ss R)) := Own.later o_wv12.out b13 (by omega)
  have o_gv13 : Hid (Own W13 (W4.heap.size) (W5.heap.size) 9 (.slice ao_gv L_gv cap_gv) (ss (Strs.mts 1 R.length))) := Own.later o_gv12.out b13 (by omega)
  have c_w013_0 : W13.cell? ⟨W2.heap.size, 0, none⟩ = some (.int .i64 n') := row_at r_w013.out 0
  have a_w013_0 : ∀ o, (W13.alloc o).cell? ⟨W2.heap.size, 0, none⟩ = some (.int .i64 n') := fun o => keepR c_w013_0 ((Below.refl _ _).alloc (Nat.le_refl _) o)
  have c_w013_1 : W13.cell? ⟨W2.heap.size, 1, none⟩ = some (.slice ao_wv L_wv cap_wv) := row_at r_w013.out 1
  have a_w013_1 : ∀ o, (W13.alloc o).cell? ⟨W2.heap.size, 1, none⟩ = some (.slice ao_wv L_wv cap_wv) := fun o => keepR c_w013_1 ((Below.refl _ _).alloc (Nat.le_refl _) o)
  have c_g013_0 : W13.cell? ⟨W5.heap.size, 0, none⟩ = some (.int .i64 n') := row_at r_g013.out 0
  have a_g013_0 : ∀ o, (W13.alloc o).cell? ⟨W5.heap.size, 0, none⟩ = some (.int .i64 n') := fun o => keepR c_g013_0 ((Below.refl _ _).alloc (Nat.le_refl _) o)
  have c_g013_1 : W13.cell? ⟨W5.heap.size, 1, none⟩ = some (.slice ao_gv L_gv cap_gv) := row_at r_g013.out 1
  have a_g013_1 : ∀ o, (W13.alloc o).cell? ⟨W5.heap.size, 1, none⟩ = some (.slice ao_gv L_gv cap_gv) := fun o => keepR c_g013_1 ((Below.refl _ _).alloc (Nat.le_refl _) o)
  clear r_w012 c_w012_0 c_w012_1 a_w012_0 a_w012_1 r_g012 c_g012_0 c_g012_1 a_g012_0 a_g012_1 o_wv12 o_gv12
  go_wp2_with fail
  refine (Strs.to_s W13 _ l (HS.out.later B13.out) (by omega)).mono ?_
  rintro e W14 ⟨v_y, rfl, o_y14, b14⟩
  obtain ⟨ao_y, L_y, cap_y, rfl, hL_y, hM_y⟩ := o_y14.form
  have o_y14 : Hid (Own W14 W13.heap.size W14.heap.size 9 (.slice ao_y L_y cap_y) (ss l)) := o_y14
  clear hL_y hM_y
  have z14 : W13.heap.size ≤ W14.heap.size := b14.size
  have B14 : Hid (Below w.heap.size w W14) := B13.out.trans (b14.mono B13.out.size)
  have r_w014 : Hid (W14.heap[W2.heap.size]? = some (.cells #[.int .i64 n', .slice ao_wv L_wv cap_wv] 25 (0, 0))) := rowKeep r_w013.out b14
  have r_g014 : Hid (W14.heap[W5.heap.size]? = some (.cells #[.int .i64 n', .slice ao_gv L_gv cap_gv] 25 (0, 0))) := rowKeep r_g013.out b14
  have o_wv14 : Hid (Own W14 (W1.heap.size) (W2.heap.size) 9 (.slice ao_wv L_wv cap_wv) (ss R)) := Own.later o_wv13.out b14 (by omega)
  have o_gv14 : Hid (Own W14 (W4.heap.size) (W5.heap.size) 9 (.slice ao_gv L_gv cap_gv) (ss (Strs.mts 1 R.length))) := Own.later o_gv13.out b14 (by omega)
  have c_w014_0 : W14.cell? ⟨W2.heap.size, 0, none⟩ = some (.int .i64 n') := row_at r_w014.out 0
  have a_w014_0 : ∀ o, (W14.alloc o).cell? ⟨W2.heap.size, 0, none⟩ = some (.int .i64 n') := fun o => keepR c_w014_0 ((Below.refl _ _).alloc (Nat.le_refl _) o)
  have c_w014_1 : W14.cell? ⟨W2.heap.size, 1, none⟩ = some (.slice ao_wv L_wv cap_wv) := row_at r_w014.out 1
  have a_w014_1 : ∀ o, (W14.alloc o).cell? ⟨W2.heap.size, 1, none⟩ = some (.slice ao_wv L_wv cap_wv) := fun o => keepR c_w014_1 ((Below.refl _ _).alloc (Nat.le_refl _) o)
  have c_g014_0 : W14.cell? ⟨W5.heap.size, 0, none⟩ = some (.int .i64 n') := row_at r_g014.out 0
  have a_g014_0 : ∀ o, (W14.alloc o).cell? ⟨W5.heap.size, 0, none⟩ = some (.int .i64 n') := fun o => keepR c_g014_0 ((Below.refl _ _).alloc (Nat.le_refl _) o)
  have c_g014_1 : W14.cell? ⟨W5.heap.size, 1, none⟩ = some (.slice ao_gv L_gv cap_gv) := row_at r_g014.out 1
  have a_g014_1 : ∀ o, (W14.alloc o).cell? ⟨W5.heap.size, 1, none⟩ = some (.slice ao_gv L_gv cap_gv) := fun o => keepR c_g014_1 ((Below.refl _ _).alloc (Nat.le_refl _) o)
  clear r_w013 c_w013_0 c_w013_1 a_w013_0 a_w013_1 r_g013 c_g013_0 c_g013_1 a_g013_0 a_g013_1 o_wv13 o_gv13
  go_wp2_with fail
  refine (q2 W14 _ B14.out o_y14.out.sl).mono ?_
  rintro e W15 ⟨v_hv, rfl, o_hv15, b15⟩
  obtain ⟨ao_hv, L_hv, cap_hv, rfl, hL_hv, hM_hv⟩ := o_hv15.form
  have o_hv15 : Hid (Own W15 W14.heap.size W15.heap.size 9 (.slice ao_hv L_hv cap_hv) (ss R)) := o_hv15
  clear hL_hv hM_hv
  have z15 : W14.heap.size ≤ W15.heap.size := b15.size
  have B15 : Hid (Below w.heap.size w W15) := B14.out.trans (b15.mono B14.out.size)
  have r_w015 : Hid (W15.heap[W2.heap.size]? = some (.cells #[.int .i64 n', .slice ao_wv L_wv cap_wv] 25 (0, 0))) := rowKeep r_w014.out b15
  have r_g015 : Hid (W15.heap[W5.heap.size]? = some (.cells #[.int .i64 n', .slice ao_gv L_gv cap_gv] 25 (0, 0))) := rowKeep r_g014.out b15
  have o_wv15 : Hid (Own W15 (W1.heap.size) (W2.heap.size) 9 (.slice ao_wv L_wv cap_wv) (ss R)) := Own.later o_wv14.out b15 (by omega)
  have o_gv15 : Hid (Own W15 (W4.heap.size) (W5.heap.size) 9 (.slice ao_gv L_gv cap_gv) (ss (Strs.mts 1 R.length))) := Own.later o_gv14.out b15 (by omega)
  have o_y15 : Hid (Own W15 (W13.heap.size) (W14.heap.size) 9 (.slice ao_y L_y cap_y) (ss l)) := Own.later o_y14.out b15 (by omega)
  have c_w015_0 : W15.cell? ⟨W2.heap.size, 0, none⟩ = some (.int .i64 n') := row_at r_w015.out 0
  have a_w015_0 : ∀ o, (W15.alloc o).cell? ⟨W2.heap.size, 0, none⟩ = some (.int .i64 n') := fun o => keepR c_w015_0 ((Below.refl _ _).alloc (Nat.le_refl _) o)
  have c_w015_1 : W15.cell? ⟨W2.heap.size, 1, none⟩ = some (.slice ao_wv L_wv cap_wv) := row_at r_w015.out 1
  have a_w015_1 : ∀ o, (W15.alloc o).cell? ⟨W2.heap.size, 1, none⟩ = some (.slice ao_wv L_wv cap_wv) := fun o => keepR c_w015_1 ((Below.refl _ _).alloc (Nat.le_refl _) o)
  have c_g015_0 : W15.cell? ⟨W5.heap.size, 0, none⟩ = some (.int .i64 n') := row_at r_g015.out 0
  have a_g015_0 : ∀ o, (W15.alloc o).cell? ⟨W5.heap.size, 0, none⟩ = some (.int .i64 n') := fun o => keepR c_g015_0 ((Below.refl _ _).alloc (Nat.le_refl _) o)
  have c_g015_1 : W15.cell? ⟨W5.heap.size, 1, none⟩ = some (.slice ao_gv L_gv cap_gv) := row_at r_g015.out 1
  have a_g015_1 : ∀ o, (W15.alloc o).cell? ⟨W5.heap.size, 1, none⟩ = some (.slice ao_gv L_gv cap_gv) := fun o => keepR c_g015_1 ((Below.refl _ _).alloc (Nat.le_refl _) o)
  clear r_w014 c_w014_0 c_w014_1 a_w014_0 a_w014_1 r_g014 c_g014_0 c_g014_1 a_g014_0 a_g014_1 o_wv14 o_gv14 o_y14
  clear o_y15
  obtain ⟨W16, HW16, b16, y16, r_h016⟩ : ∃ X, Hid ((W15.alloc (.cells #[.int .i64 n', .slice ao_hv L_hv cap_hv] 25)) = X) ∧ Below W15.heap.size W15 X ∧ W15.heap.size + 1 ≤ X.heap.size ∧ Hid (X.heap[W15.heap.size]? = some (.cells #[.int .i64 n', .slice ao_hv L_hv cap_hv] 25 (0, 0))) := ⟨_, rfl, (Below.refl _ _).alloc (Nat.le_refl _) _, by simp, heap_alloc_new _ _⟩
  have z16 : W15.heap.size ≤ W16.heap.size := b16.size
  have B16 : Hid (Below w.heap.size w W16) := B15.out.trans (b16.mono B15.out.size)
  have r_w016 : Hid (W16.heap[W2.heap.size]? = some (.cells #[.int .i64 n', .slice ao_wv L_wv cap_wv] 25 (0, 0))) := rowKeep r_w015.out b16
  have r_g016 : Hid (W16.heap[W5.heap.size]? = some (.cells #[.int .i64 n', .slice ao_gv L_gv cap_gv] 25 (0, 0))) := rowKeep r_g015.out b16
  have o_wv16 : Hid (Own W16 (W1.heap.size) (W2.heap.size) 9 (.slice ao_wv L_wv cap_wv) (ss R)) := Own.later o_wv15.out b16 (by omega)
  have o_gv16 : Hid (Own W16 (W4.heap.size) (W5.heap.size) 9 (.slice ao_gv L_gv cap_gv) (ss (Strs.mts 1 R.length))) := Own.later o_gv15.out b16 (by omega)
  have o_hv16 : Hid (Own W16 (W14.heap.size) (W15.heap.size) 9 (.slice ao_hv L_hv cap_hv) (ss R)) := Own.later o_hv15.out b16 (by omega)
  have c_w016_0 : W16.cell? ⟨W2.heap.size, 0, none⟩ = some (.int .i64 n') := row_at r_w016.out 0
  have a_w016_0 : ∀ o, (W16.alloc o).cell? ⟨W2.heap.size, 0, none⟩ = some (.int .i64 n') := fun o => keepR c_w016_0 ((Below.refl _ _).alloc (Nat.le_refl _) o)
  have c_w016_1 : W16.cell? ⟨W2.heap.size, 1, none⟩ = some (.slice ao_wv L_wv cap_wv) := row_at r_w016.out 1
  have a_w016_1 : ∀ o, (W16.alloc o).cell? ⟨W2.heap.size, 1, none⟩ = some (.slice ao_wv L_wv cap_wv) := fun o => keepR c_w016_1 ((Below.refl _ _).alloc (Nat.le_refl _) o)
  have c_g016_0 : W16.cell? ⟨W5.heap.size, 0, none⟩ = some (.int .i64 n') := row_at r_g016.out 0
  have a_g016_0 : ∀ o, (W16.alloc o).cell? ⟨W5.heap.size, 0, none⟩ = some (.int .i64 n') := fun o => keepR c_g016_0 ((Below.refl _ _).alloc (Nat.le_refl _) o)
  have c_g016_1 : W16.cell? ⟨W5.heap.size, 1, none⟩ = some (.slice ao_gv L_gv cap_gv) := row_at r_g016.out 1
  have a_g016_1 : ∀ o, (W16.alloc o).cell? ⟨W5.heap.size, 1, none⟩ = some (.slice ao_gv L_gv cap_gv) := fun o => keepR c_g016_1 ((Below.refl _ _).alloc (Nat.le_refl _) o)
  have c_h016_0 : W16.cell? ⟨W15.heap.size, 0, none⟩ = some (.int .i64 n') := row_at r_h016.out 0
  have a_h016_0 : ∀ o, (W16.alloc o).cell? ⟨W15.heap.size, 0, none⟩ = some (.int .i64 n') := fun o => keepR c_h016_0 ((Below.refl _ _).alloc (Nat.le_refl _) o)
  have c_h016_1 : W16.cell? ⟨W15.heap.size, 1, none⟩ = some (.slice ao_hv L_hv cap_hv) := row_at r_h016.out 1
  have a_h016_1 : ∀ o, (W16.alloc o).cell? ⟨W15.heap.size, 1, none⟩ = some (.slice ao_hv L_hv cap_hv) := fun o => keepR c_h016_1 ((Below.refl _ _).alloc (Nat.le_refl _) o)
  clear r_w015 c_w015_0 c_w015_1 r_g015 c_g015_0 c_g015_1 o_wv15 o_gv15 o_hv15
  go_wp2_with fail
  rw [HW16.out]
  clear a_w015_0 a_w015_1 a_g015_0 a_g015_1
  refine (eq_edge W16 n' _ _ R o_hv16.out.sl o_wv16.out.sl (by omega)).mono ?_
  rintro e W17 ⟨rfl, b17⟩
  have z17 : W16.heap.size ≤ W17.heap.size := b17.size
  have B17 : Hid (Below w.heap.size w W17) := B16.out.trans (b17.mono B16.out.size)
  have r_w017 : Hid (W17.heap[W2.heap.size]? = some (.cells #[.int .i64 n', .slice ao_wv L_wv cap_wv] 25 (0, 0))) := rowKeep r_w016.out b17
  have r_g017 : Hid (W17.heap[W5.heap.size]? = some (.cells #[.int .i64 n', .slice ao_gv L_gv cap_gv] 25 (0, 0))) := rowKeep r_g016.out b17
  have r_h017 : Hid (W17.heap[W15.heap.size]? = some (.cells #[.int .i64 n', .slice ao_hv L_hv cap_hv] 25 (0, 0))) := rowKeep r_h016.out b17
  have o_wv17 : Hid (Own W17 (W1.heap.size) (W2.heap.size) 9 (.slice ao_wv L_wv cap_wv) (ss R)) := Own.later o_wv16.out b17 (by omega)
  have o_gv17 : Hid (Own W17 (W4.heap.size) (W5.heap.size) 9 (.slice ao_gv L_gv cap_gv) (ss (Strs.mts 1 R.length))) := Own.later o_gv16.out b17 (by omega)
  have o_hv17 : Hid (Own W17 (W14.heap.size) (W15.heap.size) 9 (.slice ao_hv L_hv cap_hv) (ss R)) := Own.later o_hv16.out b17 (by omega)
  have c_w017_0 : W17.cell? ⟨W2.heap.size, 0, none⟩ = some (.int .i64 n') := row_at r_w017.out 0
  have a_w017_0 : ∀ o, (W17.alloc o).cell? ⟨W2.heap.size, 0, none⟩ = some (.int .i64 n') := fun o => keepR c_w017_0 ((Below.refl _ _).alloc (Nat.le_refl _) o)
  have c_w017_1 : W17.cell? ⟨W2.heap.size, 1, none⟩ = some (.slice ao_wv L_wv cap_wv) := row_at r_w017.out 1
  have a_w017_1 : ∀ o, (W17.alloc o).cell? ⟨W2.heap.size, 1, none⟩ = some (.slice ao_wv L_wv cap_wv) := fun o => keepR c_w017_1 ((Below.refl _ _).alloc (Nat.le_refl _) o)
  have c_g017_0 : W17.cell? ⟨W5.heap.size, 0, none⟩ = some (.int .i64 n') := row_at r_g017.out 0
  have a_g017_0 : ∀ o, (W17.alloc o).cell? ⟨W5.heap.size, 0, none⟩ = some (.int .i64 n') := fun o => keepR c_g017_0 ((Below.refl _ _).alloc (Nat.le_refl _) o)
  have c_g017_1 : W17.cell? ⟨W5.heap.size, 1, none⟩ = some (.slice ao_gv L_gv cap_gv) := row_at r_g017.out 1
  have a_g017_1 : ∀ o, (W17.alloc o).cell? ⟨W5.heap.size, 1, none⟩ = some (.slice ao_gv L_gv cap_gv) := fun o => keepR c_g017_1 ((Below.refl _ _).alloc (Nat.le_refl _) o)
  have c_h017_0 : W17.cell? ⟨W15.heap.size, 0, none⟩ = some (.int .i64 n') := row_at r_h017.out 0
  have a_h017_0 : ∀ o, (W17.alloc o).cell? ⟨W15.heap.size, 0, none⟩ = some (.int .i64 n') := fun o => keepR c_h017_0 ((Below.refl _ _).alloc (Nat.le_refl _) o)
  have c_h017_1 : W17.cell? ⟨W15.heap.size, 1, none⟩ = some (.slice ao_hv L_hv cap_hv) := row_at r_h017.out 1
  have a_h017_1 : ∀ o, (W17.alloc o).cell? ⟨W15.heap.size, 1, none⟩ = some (.slice ao_hv L_hv cap_hv) := fun o => keepR c_h017_1 ((Below.refl _ _).alloc (Nat.le_refl _) o)
  clear r_w016 c_w016_0 c_w016_1 a_w016_0 a_w016_1 r_g016 c_g016_0 c_g016_1 a_g016_0 a_g016_1 r_h016 c_h016_0 c_h016_1 a_h016_0 a_h016_1 o_wv16 o_gv16 o_hv16
  go_wp2_with fail
  refine (held_edge W17 n' _ R.length 1 o_gv17.out.sl (by omega) (by omega) (by omega)).mono ?_
  rintro e W18 ⟨rfl, b18⟩
  have z18 : W17.heap.size ≤ W18.heap.size := b18.size
  have B18 : Hid (Below w.heap.size w W18) := B17.out.trans (b18.mono B17.out.size)
  have r_w018 : Hid (W18.heap[W2.heap.size]? = some (.cells #[.int .i64 n', .slice ao_wv L_wv cap_wv] 25 (0, 0))) := rowKeep r_w017.out b18
  have r_g018 : Hid (W18.heap[W5.heap.size]? = some (.cells #[.int .i64 n', .slice ao_gv L_gv cap_gv] 25 (0, 0))) := rowKeep r_g017.out b18
  have r_h018 : Hid (W18.heap[W15.heap.size]? = some (.cells #[.int .i64 n', .slice ao_hv L_hv cap_hv] 25 (0, 0))) := rowKeep r_h017.out b18
  have o_wv18 : Hid (Own W18 (W1.heap.size) (W2.heap.size) 9 (.slice ao_wv L_wv cap_wv) (ss R)) := Own.later o_wv17.out b18 (by omega)
  have o_gv18 : Hid (Own W18 (W4.heap.size) (W5.heap.size) 9 (.slice ao_gv L_gv cap_gv) (ss (Strs.mts 1 R.length))) := Own.later o_gv17.out b18 (by omega)
  have o_hv18 : Hid (Own W18 (W14.heap.size) (W15.heap.size) 9 (.slice ao_hv L_hv cap_hv) (ss R)) := Own.later o_hv17.out b18 (by omega)
  have c_w018_0 : W18.cell? ⟨W2.heap.size, 0, none⟩ = some (.int .i64 n') := row_at r_w018.out 0
  have a_w018_0 : ∀ o, (W18.alloc o).cell? ⟨W2.heap.size, 0, none⟩ = some (.int .i64 n') := fun o => keepR c_w018_0 ((Below.refl _ _).alloc (Nat.le_refl _) o)
  have c_w018_1 : W18.cell? ⟨W2.heap.size, 1, none⟩ = some (.slice ao_wv L_wv cap_wv) := row_at r_w018.out 1
  have a_w018_1 : ∀ o, (W18.alloc o).cell? ⟨W2.heap.size, 1, none⟩ = some (.slice ao_wv L_wv cap_wv) := fun o => keepR c_w018_1 ((Below.refl _ _).alloc (Nat.le_refl _) o)
  have c_g018_0 : W18.cell? ⟨W5.heap.size, 0, none⟩ = some (.int .i64 n') := row_at r_g018.out 0
  have a_g018_0 : ∀ o, (W18.alloc o).cell? ⟨W5.heap.size, 0, none⟩ = some (.int .i64 n') := fun o => keepR c_g018_0 ((Below.refl _ _).alloc (Nat.le_refl _) o)
  have c_g018_1 : W18.cell? ⟨W5.heap.size, 1, none⟩ = some (.slice ao_gv L_gv cap_gv) := row_at r_g018.out 1
  have a_g018_1 : ∀ o, (W18.alloc o).cell? ⟨W5.heap.size, 1, none⟩ = some (.slice ao_gv L_gv cap_gv) := fun o => keepR c_g018_1 ((Below.refl _ _).alloc (Nat.le_refl _) o)
  have c_h018_0 : W18.cell? ⟨W15.heap.size, 0, none⟩ = some (.int .i64 n') := row_at r_h018.out 0
  have a_h018_0 : ∀ o, (W18.alloc o).cell? ⟨W15.heap.size, 0, none⟩ = some (.int .i64 n') := fun o => keepR c_h018_0 ((Below.refl _ _).alloc (Nat.le_refl _) o)
  have c_h018_1 : W18.cell? ⟨W15.heap.size, 1, none⟩ = some (.slice ao_hv L_hv cap_hv) := row_at r_h018.out 1
  have a_h018_1 : ∀ o, (W18.alloc o).cell? ⟨W15.heap.size, 1, none⟩ = some (.slice ao_hv L_hv cap_hv) := fun o => keepR c_h018_1 ((Below.refl _ _).alloc (Nat.le_refl _) o)
  clear r_w017 c_w017_0 c_w017_1 a_w017_0 a_w017_1 r_g017 c_g017_0 c_g017_1 a_g017_0 a_g017_1 r_h017 c_h017_0 c_h017_1 a_h017_0 a_h017_1 o_wv17 o_gv17 o_hv17
  go_wp2
  go_ret
  exact ⟨rfl, B18.out⟩

end Go.Proofs.YthbonifpdpknnacDoor.Ed
