/- Chapter 7: the law FnEdgesRight, over contracts of the landed functions. -/
import Derived.Test.YthbonifpdpknnaaDoorEdE
namespace Go.Proofs.YthbonifpdpknnaaDoor.Ed
open Go.RowKit Go.Proofs.YthbonifpdpknnaaDoor.Mem Go.Proofs.YthbonifpdpknnaaDoor.Laws Go.Proofs.YthbonifpdpknnaaDoor.Bytes Go.Proofs.YthbonifpdpknnaaDoor.Sha Go.Proofs.YthbonifpdpknnaaDoor.Tr Go.Proofs.YthbonifpdpknnaaDoor.Draw
set_option linter.unusedVariables false
set_option linter.unusedSimpArgs false

set_option maxRecDepth 1000000 in
set_option maxHeartbeats 16000000 in
theorem right7 (w : World) (v0 : Value) (xs0 : List Int) (h0 : Sl w v0 (bs xs0)) (y0 : Byt xs0) (m0 : xs0.length ≤ maxLen)
    (iAdd : ∀ W, Below w.heap.size w W → ∀ (v' : Value) (n : Int) (hs : List ByteArray) (s : ByteArray), Sl W v' (ss hs) → hs.length ≤ 1000 → (∀ s ∈ hs, s.size ≤ 1000) → s.size ≤ 1000 → Calls Tryd.prog 20 #[.agg #[.int .i64 n, v'], .string s] W fun e w' => ∃ v'', e = .returned (.tuple #[.agg #[.int .i64 (addE n hs s).1, v''], .bool (addE n hs s).2.2]) ∧ Own w' W.heap.size w'.heap.size 9 v'' (ss (addE n hs s).2.1) ∧ Below W.heap.size W w')
    (iOk : ∀ W, Below w.heap.size w W → ∀ (v' : Value) (n : Int) (hs : List ByteArray), Sl W v' (ss hs) → hs.length ≤ 1000 → (∀ s ∈ hs, s.size ≤ 1000) → Calls Tryd.prog 21 #[.agg #[.int .i64 n, v']] W fun e w' => e = .returned (.bool (okE n hs)) ∧ Below W.heap.size W w')
    (iER : ∀ W, Below w.heap.size w W → ∀ (v' : Value) (n : Int) (hs : List ByteArray), Sl W v' (ss hs) → hs.length ≤ 1000 → (∀ s ∈ hs, s.size ≤ 1000) → Calls Tryd.prog 22 #[.agg #[.int .i64 n, v']] W fun e w' => e = .returned (.string (rootE n hs)) ∧ Below W.heap.size W w') :
    Calls Tryd.prog 7 #[v0] w fun e w' => e = .returned (.bool true) ∧ Below w.heap.size w w' := by
  have hs0 := h0
  have hby := y0
  obtain ⟨ao0, cap0, rfl, -, -, -⟩ := h0
  rw [Mem.bs_len] at hs0 ⊢
  clear m0 y0
  by_cases hbig : 1048576 < xs0.length
  · have qb := big_yes w ao0 xs0.length cap0 hbig
    clear iAdd iOk iER
    go_enter Tryd.func7, Tryd.ntmps7
    go_wp2_with fail
    refine qb.mono ?_
    rintro e w1 ⟨rfl, rfl⟩
    go_wp2
    go_ret
    exact ⟨rfl, Below.refl _ _⟩
  have qb := big_no w ao0 xs0.length cap0 hbig
  have qd := draw_edge w _ xs0 hs0 hby (by omega)
  clear hbig hs0 hby
  go_enter Tryd.func7, Tryd.ntmps7
  go_wp2_with fail
  refine qb.mono ?_
  rintro e w1 ⟨rfl, rfl⟩
  go_wp2_with fail
  refine qd.mono ?_
  rintro e W1 ⟨n, v1, hs, s, rfl, ⟨hn, hl9, h32⟩, hs9, o1, b1⟩
  clear qb qd
  obtain ⟨ao_ev, L_ev, cap_ev, rfl, _, _⟩ := Mem.Own.form o1
  have qI : ∀ W v', Below w.heap.size w W → Sl W v' (ss hs) → _ := fun W v' hB h => iAdd W hB v' n hs s h (by omega) (fun t ht => by have := h32 t ht; omega) (by omega)
  have qS : ∀ W v', Sl W v' (ss hs) → _ := fun W v' h => add_spec W n v' hs s h (by omega) (by omega)
  by_cases hok : okE n hs = true ∧ n ≠ 200
  · have hA := addE_yes hok.1 hok.2 s
    have hK := addE_ok hok.1 hok.2 s
    obtain ⟨_, _, k32⟩ := okE_iff.1 hok.1
    have x32 := carry_sizes n.toNat hs (leafH s) k32 (leafH_size s)
    have x10 : (carry n.toNat hs (leafH s)).length ≤ 1000 := by
      have h1 := (okE_iff.1 hK).2.1
      have h2 := popc_le ⟨(n + 1).toNat, by omega⟩
      simp only at h2
      omega
    simp only [hA] at qI qS
    obtain ⟨X2, hX2⟩ : ∃ X2, carry n.toNat hs (leafH s) = X2 := ⟨_, rfl⟩
    simp only [hX2] at qI qS hK x32 x10
    have qK : ∀ W v', Below w.heap.size w W → Sl W v' (ss X2) → _ := fun W v' hB h => iOk W hB v' (n + 1) X2 h x10 (fun t ht => by have := x32 t ht; omega)
    rw [hK] at qK
    have qR1 : ∀ W v', Below w.heap.size w W → Sl W v' (ss X2) → _ := fun W v' hB h => iER W hB v' (n + 1) X2 h x10 (fun t ht => by have := x32 t ht; omega)
    have qR0 : ∀ W v', Below w.heap.size w W → Sl W v' (ss hs) → _ := fun W v' hB h => iER W hB v' n hs h (by omega) (fun t ht => by have := h32 t ht; omega)
    have e1 : (rootE (n + 1) X2).size = 32 := by unfold rootE; rw [if_pos hK]; exact eroot_size x32
    have e0 : (rootE n hs).size = 32 := by unfold rootE; rw [if_pos hok.1]; exact eroot_size k32
    obtain ⟨t1, ht1⟩ : ∃ t, rootE (n + 1) X2 = t := ⟨_, rfl⟩
    obtain ⟨t0, ht0⟩ : ∃ t, rootE n hs = t := ⟨_, rfl⟩
    simp only [ht1] at qR1 e1
    simp only [ht0] at qR0 e0
    have hwn : IntKind.i64.wrap (n + 1) = n + 1 := by rw [IntKind.wrap_i64]; omega
    have d1 : ((t1.size : Int) == 32) = true := by rw [e1]; rfl
    have d0 : ((t0.size : Int) == 32) = true := by rw [e0]; rfl
    have nn : (n + 1 == n + 1) = true := by simp
    clear hA hK hX2 ht1 ht0 e1 e0 hok k32 x32 h32 iAdd iOk iER
    have B1 : Hid (Below w.heap.size w W1) := b1
    have z1 : w.heap.size ≤ W1.heap.size := b1.size
    have o_ev1 : Hid (Own W1 w.heap.size W1.heap.size 9 (.slice ao_ev L_ev cap_ev) (ss hs)) := o1
    clear o1 b1
    obtain ⟨W2, HW2, b2, y2, r_e2⟩ : ∃ X, Hid ((W1.alloc (.cells #[.int .i64 n, .slice ao_ev L_ev cap_ev] 34)) = X) ∧ Below W1.heap.size W1 X ∧ W1.heap.size + 1 ≤ X.heap.size ∧ Hid (X.heap[W1.heap.size]? = some (.cells #[.int .i64 n, .slice ao_ev L_ev cap_ev] 34 (0, 0))) := ⟨_, rfl, (Below.refl _ _).alloc (Nat.le_refl _) _, by simp, heap_alloc_new _ _⟩
    have z2 : W1.heap.size ≤ W2.heap.size := b2.size
    have B2 : Hid (Below w.heap.size w W2) := B1.out.trans (b2.mono B1.out.size)
    have o_ev2 : Hid (Own W2 (w.heap.size) (W1.heap.size) 9 (.slice ao_ev L_ev cap_ev) (ss hs)) := Own.later o_ev1.out b2 (by omega)
    have c_e2_0 : W2.cell? ⟨W1.heap.size, 0, none⟩ = some (.int .i64 n) := row_at r_e2.out 0
    have a_e2_0 : ∀ o, (W2.alloc o).cell? ⟨W1.heap.size, 0, none⟩ = some (.int .i64 n) := fun o => keepR c_e2_0 ((Below.refl _ _).alloc (Nat.le_refl _) o)
    have c_e2_1 : W2.cell? ⟨W1.heap.size, 1, none⟩ = some (.slice ao_ev L_ev cap_ev) := row_at r_e2.out 1
    have a_e2_1 : ∀ o, (W2.alloc o).cell? ⟨W1.heap.size, 1, none⟩ = some (.slice ao_ev L_ev cap_ev) := fun o => keepR c_e2_1 ((Below.refl _ _).alloc (Nat.le_refl _) o)
    clear o_ev1
    go_wp2_with fail
    rw [HW2.out]
    refine (qI W2 _ B2.out o_ev2.out.sl).mono ?_
    rintro e W3 ⟨v_xv, rfl, o_xv3, b3⟩
    obtain ⟨ao_xv, L_xv, cap_xv, rfl, hL_xv, hM_xv⟩ := o_xv3.form
    have o_xv3 : Hid (Own W3 W2.heap.size W3.heap.size 9 (.slice ao_xv L_xv cap_xv) (ss X2)) := o_xv3
    clear hL_xv hM_xv
    have z3 : W2.heap.size ≤ W3.heap.size := b3.size
    have B3 : Hid (Below w.heap.size w W3) := B2.out.trans (b3.mono B2.out.size)
    have r_e3 : Hid (W3.heap[W1.heap.size]? = some (.cells #[.int .i64 n, .slice ao_ev L_ev cap_ev] 34 (0, 0))) := rowKeep r_e2.out b3
    have o_ev3 : Hid (Own W3 (w.heap.size) (W1.heap.size) 9 (.slice ao_ev L_ev cap_ev) (ss hs)) := Own.later o_ev2.out b3 (by omega)
    have c_e3_0 : W3.cell? ⟨W1.heap.size, 0, none⟩ = some (.int .i64 n) := row_at r_e3.out 0
    have a_e3_0 : ∀ o, (W3.alloc o).cell? ⟨W1.heap.size, 0, none⟩ = some (.int .i64 n) := fun o => keepR c_e3_0 ((Below.refl _ _).alloc (Nat.le_refl _) o)
    have c_e3_1 : W3.cell? ⟨W1.heap.size, 1, none⟩ = some (.slice ao_ev L_ev cap_ev) := row_at r_e3.out 1
    have a_e3_1 : ∀ o, (W3.alloc o).cell? ⟨W1.heap.size, 1, none⟩ = some (.slice ao_ev L_ev cap_ev) := fun o => keepR c_e3_1 ((Below.refl _ _).alloc (Nat.le_refl _) o)
    clear r_e2 c_e2_0 c_e2_1 a_e2_0 a_e2_1 o_ev2
    obtain ⟨W4, HW4, b4, y4, r_x4⟩ : ∃ X, Hid ((W3.alloc (.cells #[.int .i64 (n + 1), .slice ao_xv L_xv cap_xv] 34)) = X) ∧ Below W3.heap.size W3 X ∧ W3.heap.size + 1 ≤ X.heap.size ∧ Hid (X.heap[W3.heap.size]? = some (.cells #[.int .i64 (n + 1), .slice ao_xv L_xv cap_xv] 34 (0, 0))) := ⟨_, rfl, (Below.refl _ _).alloc (Nat.le_refl _) _, by simp, heap_alloc_new _ _⟩
    have z4 : W3.heap.size ≤ W4.heap.size := b4.size
    have B4 : Hid (Below w.heap.size w W4) := B3.out.trans (b4.mono B3.out.size)
    have r_e4 : Hid (W4.heap[W1.heap.size]? = some (.cells #[.int .i64 n, .slice ao_ev L_ev cap_ev] 34 (0, 0))) := rowKeep r_e3.out b4
    have o_ev4 : Hid (Own W4 (w.heap.size) (W1.heap.size) 9 (.slice ao_ev L_ev cap_ev) (ss hs)) := Own.later o_ev3.out b4 (by omega)
    have o_xv4 : Hid (Own W4 (W2.heap.size) (W3.heap.size) 9 (.slice ao_xv L_xv cap_xv) (ss X2)) := Own.later o_xv3.out b4 (by omega)
    have c_e4_0 : W4.cell? ⟨W1.heap.size, 0, none⟩ = some (.int .i64 n) := row_at r_e4.out 0
    have a_e4_0 : ∀ o, (W4.alloc o).cell? ⟨W1.heap.size, 0, none⟩ = some (.int .i64 n) := fun o => keepR c_e4_0 ((Below.refl _ _).alloc (Nat.le_refl _) o)
    have c_e4_1 : W4.cell? ⟨W1.heap.size, 1, none⟩ = some (.slice ao_ev L_ev cap_ev) := row_at r_e4.out 1
    have a_e4_1 : ∀ o, (W4.alloc o).cell? ⟨W1.heap.size, 1, none⟩ = some (.slice ao_ev L_ev cap_ev) := fun o => keepR c_e4_1 ((Below.refl _ _).alloc (Nat.le_refl _) o)
    have c_x4_0 : W4.cell? ⟨W3.heap.size, 0, none⟩ = some (.int .i64 (n + 1)) := row_at r_x4.out 0
    have a_x4_0 : ∀ o, (W4.alloc o).cell? ⟨W3.heap.size, 0, none⟩ = some (.int .i64 (n + 1)) := fun o => keepR c_x4_0 ((Below.refl _ _).alloc (Nat.le_refl _) o)
    have c_x4_1 : W4.cell? ⟨W3.heap.size, 1, none⟩ = some (.slice ao_xv L_xv cap_xv) := row_at r_x4.out 1
    have a_x4_1 : ∀ o, (W4.alloc o).cell? ⟨W3.heap.size, 1, none⟩ = some (.slice ao_xv L_xv cap_xv) := fun o => keepR c_x4_1 ((Below.refl _ _).alloc (Nat.le_refl _) o)
    clear r_e3 c_e3_0 c_e3_1 o_ev3 o_xv3
    go_wp2_with fail
    rw [HW4.out]
    clear a_e3_0 a_e3_1
    refine (qS W4 _ o_ev4.out.sl).mono ?_
    rintro e W5 ⟨v_mv, rfl, o_mv5, b5⟩
    obtain ⟨ao_mv, L_mv, cap_mv, rfl, hL_mv, hM_mv⟩ := o_mv5.form
    have o_mv5 : Hid (Own W5 W4.heap.size W5.heap.size 9 (.slice ao_mv L_mv cap_mv) (ss X2)) := o_mv5
    clear hL_mv hM_mv
    have z5 : W4.heap.size ≤ W5.heap.size := b5.size
    have B5 : Hid (Below w.heap.size w W5) := B4.out.trans (b5.mono B4.out.size)
    have r_e5 : Hid (W5.heap[W1.heap.size]? = some (.cells #[.int .i64 n, .slice ao_ev L_ev cap_ev] 34 (0, 0))) := rowKeep r_e4.out b5
    have r_x5 : Hid (W5.heap[W3.heap.size]? = some (.cells #[.int .i64 (n + 1), .slice ao_xv L_xv cap_xv] 34 (0, 0))) := rowKeep r_x4.out b5
    have o_ev5 : Hid (Own W5 (w.heap.size) (W1.heap.size) 9 (.slice ao_ev L_ev cap_ev) (ss hs)) := Own.later o_ev4.out b5 (by omega)
    have o_xv5 : Hid (Own W5 (W2.heap.size) (W3.heap.size) 9 (.slice ao_xv L_xv cap_xv) (ss X2)) := Own.later o_xv4.out b5 (by omega)
    have c_e5_0 : W5.cell? ⟨W1.heap.size, 0, none⟩ = some (.int .i64 n) := row_at r_e5.out 0
    have a_e5_0 : ∀ o, (W5.alloc o).cell? ⟨W1.heap.size, 0, none⟩ = some (.int .i64 n) := fun o => keepR c_e5_0 ((Below.refl _ _).alloc (Nat.le_refl _) o)
    have c_e5_1 : W5.cell? ⟨W1.heap.size, 1, none⟩ = some (.slice ao_ev L_ev cap_ev) := row_at r_e5.out 1
    have a_e5_1 : ∀ o, (W5.alloc o).cell? ⟨W1.heap.size, 1, none⟩ = some (.slice ao_ev L_ev cap_ev) := fun o => keepR c_e5_1 ((Below.refl _ _).alloc (Nat.le_refl _) o)
    have c_x5_0 : W5.cell? ⟨W3.heap.size, 0, none⟩ = some (.int .i64 (n + 1)) := row_at r_x5.out 0
    have a_x5_0 : ∀ o, (W5.alloc o).cell? ⟨W3.heap.size, 0, none⟩ = some (.int .i64 (n + 1)) := fun o => keepR c_x5_0 ((Below.refl _ _).alloc (Nat.le_refl _) o)
    have c_x5_1 : W5.cell? ⟨W3.heap.size, 1, none⟩ = some (.slice ao_xv L_xv cap_xv) := row_at r_x5.out 1
    have a_x5_1 : ∀ o, (W5.alloc o).cell? ⟨W3.heap.size, 1, none⟩ = some (.slice ao_xv L_xv cap_xv) := fun o => keepR c_x5_1 ((Below.refl _ _).alloc (Nat.le_refl _) o)
    clear r_e4 c_e4_0 c_e4_1 a_e4_0 a_e4_1 r_x4 c_x4_0 c_x4_1 a_x4_0 a_x4_1 o_ev4 o_xv4
    obtain ⟨W6, HW6, b6, y6, r_m6⟩ : ∃ X, Hid ((W5.alloc (.cells #[.int .i64 (n + 1), .slice ao_mv L_mv cap_mv] 34)) = X) ∧ Below W5.heap.size W5 X ∧ W5.heap.size + 1 ≤ X.heap.size ∧ Hid (X.heap[W5.heap.size]? = some (.cells #[.int .i64 (n + 1), .slice ao_mv L_mv cap_mv] 34 (0, 0))) := ⟨_, rfl, (Below.refl _ _).alloc (Nat.le_refl _) _, by simp, heap_alloc_new _ _⟩
    have z6 : W5.heap.size ≤ W6.heap.size := b6.size
    have B6 : Hid (Below w.heap.size w W6) := B5.out.trans (b6.mono B5.out.size)
    have r_e6 : Hid (W6.heap[W1.heap.size]? = some (.cells #[.int .i64 n, .slice ao_ev L_ev cap_ev] 34 (0, 0))) := rowKeep r_e5.out b6
    have r_x6 : Hid (W6.heap[W3.heap.size]? = some (.cells #[.int .i64 (n + 1), .slice ao_xv L_xv cap_xv] 34 (0, 0))) := rowKeep r_x5.out b6
    have o_ev6 : Hid (Own W6 (w.heap.size) (W1.heap.size) 9 (.slice ao_ev L_ev cap_ev) (ss hs)) := Own.later o_ev5.out b6 (by omega)
    have o_xv6 : Hid (Own W6 (W2.heap.size) (W3.heap.size) 9 (.slice ao_xv L_xv cap_xv) (ss X2)) := Own.later o_xv5.out b6 (by omega)
    have o_mv6 : Hid (Own W6 (W4.heap.size) (W5.heap.size) 9 (.slice ao_mv L_mv cap_mv) (ss X2)) := Own.later o_mv5.out b6 (by omega)
    have c_e6_0 : W6.cell? ⟨W1.heap.size, 0, none⟩ = some (.int .i64 n) := row_at r_e6.out 0
    have a_e6_0 : ∀ o, (W6.alloc o).cell? ⟨W1.heap.size, 0, none⟩ = some (.int .i64 n) := fun o => keepR c_e6_0 ((Below.refl _ _).alloc (Nat.le_refl _) o)
    have c_e6_1 : W6.cell? ⟨W1.heap.size, 1, none⟩ = some (.slice ao_ev L_ev cap_ev) := row_at r_e6.out 1
    have a_e6_1 : ∀ o, (W6.alloc o).cell? ⟨W1.heap.size, 1, none⟩ = some (.slice ao_ev L_ev cap_ev) := fun o => keepR c_e6_1 ((Below.refl _ _).alloc (Nat.le_refl _) o)
    have c_x6_0 : W6.cell? ⟨W3.heap.size, 0, none⟩ = some (.int .i64 (n + 1)) := row_at r_x6.out 0
    have a_x6_0 : ∀ o, (W6.alloc o).cell? ⟨W3.heap.size, 0, none⟩ = some (.int .i64 (n + 1)) := fun o => keepR c_x6_0 ((Below.refl _ _).alloc (Nat.le_refl _) o)
    have c_x6_1 : W6.cell? ⟨W3.heap.size, 1, none⟩ = some (.slice ao_xv L_xv cap_xv) := row_at r_x6.out 1
    have a_x6_1 : ∀ o, (W6.alloc o).cell? ⟨W3.heap.size, 1, none⟩ = some (.slice ao_xv L_xv cap_xv) := fun o => keepR c_x6_1 ((Below.refl _ _).alloc (Nat.le_refl _) o)
    have c_m6_0 : W6.cell? ⟨W5.heap.size, 0, none⟩ = some (.int .i64 (n + 1)) := row_at r_m6.out 0
    have a_m6_0 : ∀ o, (W6.alloc o).cell? ⟨W5.heap.size, 0, none⟩ = some (.int .i64 (n + 1)) := fun o => keepR c_m6_0 ((Below.refl _ _).alloc (Nat.le_refl _) o)
    have c_m6_1 : W6.cell? ⟨W5.heap.size, 1, none⟩ = some (.slice ao_mv L_mv cap_mv) := row_at r_m6.out 1
    have a_m6_1 : ∀ o, (W6.alloc o).cell? ⟨W5.heap.size, 1, none⟩ = some (.slice ao_mv L_mv cap_mv) := fun o => keepR c_m6_1 ((Below.refl _ _).alloc (Nat.le_refl _) o)
    clear r_e5 c_e5_0 c_e5_1 r_x5 c_x5_0 c_x5_1 o_ev5 o_xv5 o_mv5
    go_wp2_with fail
    rw [HW6.out]
    clear a_e5_0 a_e5_1 a_x5_0 a_x5_1
    refine (qK W6 _ B6.out o_xv6.out.sl).mono ?_
    rintro e W7 ⟨rfl, b7⟩
    have z7 : W6.heap.size ≤ W7.heap.size := b7.size
    have B7 : Hid (Below w.heap.size w W7) := B6.out.trans (b7.mono B6.out.size)
    have r_e7 : Hid (W7.heap[W1.heap.size]? = some (.cells #[.int .i64 n, .slice ao_ev L_ev cap_ev] 34 (0, 0))) := rowKeep r_e6.out b7
    have r_x7 : Hid (W7.heap[W3.heap.size]? = some (.cells #[.int .i64 (n + 1), .slice ao_xv L_xv cap_xv] 34 (0, 0))) := rowKeep r_x6.out b7
    have r_m7 : Hid (W7.heap[W5.heap.size]? = some (.cells #[.int .i64 (n + 1), .slice ao_mv L_mv cap_mv] 34 (0, 0))) := rowKeep r_m6.out b7
    have o_ev7 : Hid (Own W7 (w.heap.size) (W1.heap.size) 9 (.slice ao_ev L_ev cap_ev) (ss hs)) := Own.later o_ev6.out b7 (by omega)
    have o_xv7 : Hid (Own W7 (W2.heap.size) (W3.heap.size) 9 (.slice ao_xv L_xv cap_xv) (ss X2)) := Own.later o_xv6.out b7 (by omega)
    have o_mv7 : Hid (Own W7 (W4.heap.size) (W5.heap.size) 9 (.slice ao_mv L_mv cap_mv) (ss X2)) := Own.later o_mv6.out b7 (by omega)
    have c_e7_0 : W7.cell? ⟨W1.heap.size, 0, none⟩ = some (.int .i64 n) := row_at r_e7.out 0
    have a_e7_0 : ∀ o, (W7.alloc o).cell? ⟨W1.heap.size, 0, none⟩ = some (.int .i64 n) := fun o => keepR c_e7_0 ((Below.refl _ _).alloc (Nat.le_refl _) o)
    have c_e7_1 : W7.cell? ⟨W1.heap.size, 1, none⟩ = some (.slice ao_ev L_ev cap_ev) := row_at r_e7.out 1
    have a_e7_1 : ∀ o, (W7.alloc o).cell? ⟨W1.heap.size, 1, none⟩ = some (.slice ao_ev L_ev cap_ev) := fun o => keepR c_e7_1 ((Below.refl _ _).alloc (Nat.le_refl _) o)
    have c_x7_0 : W7.cell? ⟨W3.heap.size, 0, none⟩ = some (.int .i64 (n + 1)) := row_at r_x7.out 0
    have a_x7_0 : ∀ o, (W7.alloc o).cell? ⟨W3.heap.size, 0, none⟩ = some (.int .i64 (n + 1)) := fun o => keepR c_x7_0 ((Below.refl _ _).alloc (Nat.le_refl _) o)
    have c_x7_1 : W7.cell? ⟨W3.heap.size, 1, none⟩ = some (.slice ao_xv L_xv cap_xv) := row_at r_x7.out 1
    have a_x7_1 : ∀ o, (W7.alloc o).cell? ⟨W3.heap.size, 1, none⟩ = some (.slice ao_xv L_xv cap_xv) := fun o => keepR c_x7_1 ((Below.refl _ _).alloc (Nat.le_refl _) o)
    have c_m7_0 : W7.cell? ⟨W5.heap.size, 0, none⟩ = some (.int .i64 (n + 1)) := row_at r_m7.out 0
    have a_m7_0 : ∀ o, (W7.alloc o).cell? ⟨W5.heap.size, 0, none⟩ = some (.int .i64 (n + 1)) := fun o => keepR c_m7_0 ((Below.refl _ _).alloc (Nat.le_refl _) o)
    have c_m7_1 : W7.cell? ⟨W5.heap.size, 1, none⟩ = some (.slice ao_mv L_mv cap_mv) := row_at r_m7.out 1
    have a_m7_1 : ∀ o, (W7.alloc o).cell? ⟨W5.heap.size, 1, none⟩ = some (.slice ao_mv L_mv cap_mv) := fun o => keepR c_m7_1 ((Below.refl _ _).alloc (Nat.le_refl _) o)
    clear r_e6 c_e6_0 c_e6_1 a_e6_0 a_e6_1 r_x6 c_x6_0 c_x6_1 a_x6_0 a_x6_1 r_m6 c_m6_0 c_m6_1 a_m6_0 a_m6_1 o_ev6 o_xv6 o_mv6
    go_wp2_with fail
    refine (qR1 W7 _ B7.out o_xv7.out.sl).mono ?_
    rintro e W8 ⟨rfl, b8⟩
    have z8 : W7.heap.size ≤ W8.heap.size := b8.size
    have B8 : Hid (Below w.heap.size w W8) := B7.out.trans (b8.mono B7.out.size)
    have r_e8 : Hid (W8.heap[W1.heap.size]? = some (.cells #[.int .i64 n, .slice ao_ev L_ev cap_ev] 34 (0, 0))) := rowKeep r_e7.out b8
    have r_x8 : Hid (W8.heap[W3.heap.size]? = some (.cells #[.int .i64 (n + 1), .slice ao_xv L_xv cap_xv] 34 (0, 0))) := rowKeep r_x7.out b8
    have r_m8 : Hid (W8.heap[W5.heap.size]? = some (.cells #[.int .i64 (n + 1), .slice ao_mv L_mv cap_mv] 34 (0, 0))) := rowKeep r_m7.out b8
    have o_ev8 : Hid (Own W8 (w.heap.size) (W1.heap.size) 9 (.slice ao_ev L_ev cap_ev) (ss hs)) := Own.later o_ev7.out b8 (by omega)
    have o_xv8 : Hid (Own W8 (W2.heap.size) (W3.heap.size) 9 (.slice ao_xv L_xv cap_xv) (ss X2)) := Own.later o_xv7.out b8 (by omega)
    have o_mv8 : Hid (Own W8 (W4.heap.size) (W5.heap.size) 9 (.slice ao_mv L_mv cap_mv) (ss X2)) := Own.later o_mv7.out b8 (by omega)
    have c_e8_0 : W8.cell? ⟨W1.heap.size, 0, none⟩ = some (.int .i64 n) := row_at r_e8.out 0
    have a_e8_0 : ∀ o, (W8.alloc o).cell? ⟨W1.heap.size, 0, none⟩ = some (.int .i64 n) := fun o => keepR c_e8_0 ((Below.refl _ _).alloc (Nat.le_refl _) o)
    have c_e8_1 : W8.cell? ⟨W1.heap.size, 1, none⟩ = some (.slice ao_ev L_ev cap_ev) := row_at r_e8.out 1
    have a_e8_1 : ∀ o, (W8.alloc o).cell? ⟨W1.heap.size, 1, none⟩ = some (.slice ao_ev L_ev cap_ev) := fun o => keepR c_e8_1 ((Below.refl _ _).alloc (Nat.le_refl _) o)
    have c_x8_0 : W8.cell? ⟨W3.heap.size, 0, none⟩ = some (.int .i64 (n + 1)) := row_at r_x8.out 0
    have a_x8_0 : ∀ o, (W8.alloc o).cell? ⟨W3.heap.size, 0, none⟩ = some (.int .i64 (n + 1)) := fun o => keepR c_x8_0 ((Below.refl _ _).alloc (Nat.le_refl _) o)
    have c_x8_1 : W8.cell? ⟨W3.heap.size, 1, none⟩ = some (.slice ao_xv L_xv cap_xv) := row_at r_x8.out 1
    have a_x8_1 : ∀ o, (W8.alloc o).cell? ⟨W3.heap.size, 1, none⟩ = some (.slice ao_xv L_xv cap_xv) := fun o => keepR c_x8_1 ((Below.refl _ _).alloc (Nat.le_refl _) o)
    have c_m8_0 : W8.cell? ⟨W5.heap.size, 0, none⟩ = some (.int .i64 (n + 1)) := row_at r_m8.out 0
    have a_m8_0 : ∀ o, (W8.alloc o).cell? ⟨W5.heap.size, 0, none⟩ = some (.int .i64 (n + 1)) := fun o => keepR c_m8_0 ((Below.refl _ _).alloc (Nat.le_refl _) o)
    have c_m8_1 : W8.cell? ⟨W5.heap.size, 1, none⟩ = some (.slice ao_mv L_mv cap_mv) := row_at r_m8.out 1
    have a_m8_1 : ∀ o, (W8.alloc o).cell? ⟨W5.heap.size, 1, none⟩ = some (.slice ao_mv L_mv cap_mv) := fun o => keepR c_m8_1 ((Below.refl _ _).alloc (Nat.le_refl _) o)
    clear r_e7 c_e7_0 c_e7_1 a_e7_0 a_e7_1 r_x7 c_x7_0 c_x7_1 a_x7_0 a_x7_1 r_m7 c_m7_0 c_m7_1 a_m7_0 a_m7_1 o_ev7 o_xv7 o_mv7
    go_wp2_with fail
    refine (qR0 W8 _ B8.out o_ev8.out.sl).mono ?_
    rintro e W9 ⟨rfl, b9⟩
    have z9 : W8.heap.size ≤ W9.heap.size := b9.size
    have B9 : Hid (Below w.heap.size w W9) := B8.out.trans (b9.mono B8.out.size)
    have r_e9 : Hid (W9.heap[W1.heap.size]? = some (.cells #[.int .i64 n, .slice ao_ev L_ev cap_ev] 34 (0, 0))) := rowKeep r_e8.out b9
    have r_x9 : Hid (W9.heap[W3.heap.size]? = some (.cells #[.int .i64 (n + 1), .slice ao_xv L_xv cap_xv] 34 (0, 0))) := rowKeep r_x8.out b9
    have r_m9 : Hid (W9.heap[W5.heap.size]? = some (.cells #[.int .i64 (n + 1), .slice ao_mv L_mv cap_mv] 34 (0, 0))) := rowKeep r_m8.out b9
    have o_ev9 : Hid (Own W9 (w.heap.size) (W1.heap.size) 9 (.slice ao_ev L_ev cap_ev) (ss hs)) := Own.later o_ev8.out b9 (by omega)
    have o_xv9 : Hid (Own W9 (W2.heap.size) (W3.heap.size) 9 (.slice ao_xv L_xv cap_xv) (ss X2)) := Own.later o_xv8.out b9 (by omega)
    have o_mv9 : Hid (Own W9 (W4.heap.size) (W5.heap.size) 9 (.slice ao_mv L_mv cap_mv) (ss X2)) := Own.later o_mv8.out b9 (by omega)
    have c_e9_0 : W9.cell? ⟨W1.heap.size, 0, none⟩ = some (.int .i64 n) := row_at r_e9.out 0
    have a_e9_0 : ∀ o, (W9.alloc o).cell? ⟨W1.heap.size, 0, none⟩ = some (.int .i64 n) := fun o => keepR c_e9_0 ((Below.refl _ _).alloc (Nat.le_refl _) o)
    have c_e9_1 : W9.cell? ⟨W1.heap.size, 1, none⟩ = some (.slice ao_ev L_ev cap_ev) := row_at r_e9.out 1
    have a_e9_1 : ∀ o, (W9.alloc o).cell? ⟨W1.heap.size, 1, none⟩ = some (.slice ao_ev L_ev cap_ev) := fun o => keepR c_e9_1 ((Below.refl _ _).alloc (Nat.le_refl _) o)
    have c_x9_0 : W9.cell? ⟨W3.heap.size, 0, none⟩ = some (.int .i64 (n + 1)) := row_at r_x9.out 0
    have a_x9_0 : ∀ o, (W9.alloc o).cell? ⟨W3.heap.size, 0, none⟩ = some (.int .i64 (n + 1)) := fun o => keepR c_x9_0 ((Below.refl _ _).alloc (Nat.le_refl _) o)
    have c_x9_1 : W9.cell? ⟨W3.heap.size, 1, none⟩ = some (.slice ao_xv L_xv cap_xv) := row_at r_x9.out 1
    have a_x9_1 : ∀ o, (W9.alloc o).cell? ⟨W3.heap.size, 1, none⟩ = some (.slice ao_xv L_xv cap_xv) := fun o => keepR c_x9_1 ((Below.refl _ _).alloc (Nat.le_refl _) o)
    have c_m9_0 : W9.cell? ⟨W5.heap.size, 0, none⟩ = some (.int .i64 (n + 1)) := row_at r_m9.out 0
    have a_m9_0 : ∀ o, (W9.alloc o).cell? ⟨W5.heap.size, 0, none⟩ = some (.int .i64 (n + 1)) := fun o => keepR c_m9_0 ((Below.refl _ _).alloc (Nat.le_refl _) o)
    have c_m9_1 : W9.cell? ⟨W5.heap.size, 1, none⟩ = some (.slice ao_mv L_mv cap_mv) := row_at r_m9.out 1
    have a_m9_1 : ∀ o, (W9.alloc o).cell? ⟨W5.heap.size, 1, none⟩ = some (.slice ao_mv L_mv cap_mv) := fun o => keepR c_m9_1 ((Below.refl _ _).alloc (Nat.le_refl _) o)
    clear r_e8 c_e8_0 c_e8_1 a_e8_0 a_e8_1 r_x8 c_x8_0 c_x8_1 a_x8_0 a_x8_1 r_m8 c_m8_0 c_m8_1 a_m8_0 a_m8_1 o_ev8 o_xv8 o_mv8
    go_wp2
    go_ret
    exact ⟨rfl, B9.out⟩
  · have hA := addE_no hok s
    simp only [hA] at qI qS
    have nn : (n == n) = true := by simp
    clear hA hok h32 iAdd iOk iER
    have B1 : Hid (Below w.heap.size w W1) := b1
    have z1 : w.heap.size ≤ W1.heap.size := b1.size
    have o_ev1 : Hid (Own W1 w.heap.size W1.heap.size 9 (.slice ao_ev L_ev cap_ev) (ss hs)) := o1
    clear o1 b1
    obtain ⟨W2, HW2, b2, y2, r_e2⟩ : ∃ X, Hid ((W1.alloc (.cells #[.int .i64 n, .slice ao_ev L_ev cap_ev] 34)) = X) ∧ Below W1.heap.size W1 X ∧ W1.heap.size + 1 ≤ X.heap.size ∧ Hid (X.heap[W1.heap.size]? = some (.cells #[.int .i64 n, .slice ao_ev L_ev cap_ev] 34 (0, 0))) := ⟨_, rfl, (Below.refl _ _).alloc (Nat.le_refl _) _, by simp, heap_alloc_new _ _⟩
    have z2 : W1.heap.size ≤ W2.heap.size := b2.size
    have B2 : Hid (Below w.heap.size w W2) := B1.out.trans (b2.mono B1.out.size)
    have o_ev2 : Hid (Own W2 (w.heap.size) (W1.heap.size) 9 (.slice ao_ev L_ev cap_ev) (ss hs)) := Own.later o_ev1.out b2 (by omega)
    have c_e2_0 : W2.cell? ⟨W1.heap.size, 0, none⟩ = some (.int .i64 n) := row_at r_e2.out 0
    have a_e2_0 : ∀ o, (W2.alloc o).cell? ⟨W1.heap.size, 0, none⟩ = some (.int .i64 n) := fun o => keepR c_e2_0 ((Below.refl _ _).alloc (Nat.le_refl _) o)
    have c_e2_1 : W2.cell? ⟨W1.heap.size, 1, none⟩ = some (.slice ao_ev L_ev cap_ev) := row_at r_e2.out 1
    have a_e2_1 : ∀ o, (W2.alloc o).cell? ⟨W1.heap.size, 1, none⟩ = some (.slice ao_ev L_ev cap_ev) := fun o => keepR c_e2_1 ((Below.refl _ _).alloc (Nat.le_refl _) o)
    clear o_ev1
    go_wp2_with fail
    rw [HW2.out]
    refine (qI W2 _ B2.out o_ev2.out.sl).mono ?_
    rintro e W3 ⟨v_xv, rfl, o_xv3, b3⟩
    obtain ⟨ao_xv, L_xv, cap_xv, rfl, hL_xv, hM_xv⟩ := o_xv3.form
    have o_xv3 : Hid (Own W3 W2.heap.size W3.heap.size 9 (.slice ao_xv L_xv cap_xv) (ss hs)) := o_xv3
    clear hL_xv hM_xv
    have z3 : W2.heap.size ≤ W3.heap.size := b3.size
    have B3 : Hid (Below w.heap.size w W3) := B2.out.trans (b3.mono B2.out.size)
    have r_e3 : Hid (W3.heap[W1.heap.size]? = some (.cells #[.int .i64 n, .slice ao_ev L_ev cap_ev] 34 (0, 0))) := rowKeep r_e2.out b3
    have o_ev3 : Hid (Own W3 (w.heap.size) (W1.heap.size) 9 (.slice ao_ev L_ev cap_ev) (ss hs)) := Own.later o_ev2.out b3 (by omega)
    have c_e3_0 : W3.cell? ⟨W1.heap.size, 0, none⟩ = some (.int .i64 n) := row_at r_e3.out 0
    have a_e3_0 : ∀ o, (W3.alloc o).cell? ⟨W1.heap.size, 0, none⟩ = some (.int .i64 n) := fun o => keepR c_e3_0 ((Below.refl _ _).alloc (Nat.le_refl _) o)
    have c_e3_1 : W3.cell? ⟨W1.heap.size, 1, none⟩ = some (.slice ao_ev L_ev cap_ev) := row_at r_e3.out 1
    have a_e3_1 : ∀ o, (W3.alloc o).cell? ⟨W1.heap.size, 1, none⟩ = some (.slice ao_ev L_ev cap_ev) := fun o => keepR c_e3_1 ((Below.refl _ _).alloc (Nat.le_refl _) o)
    clear r_e2 c_e2_0 c_e2_1 a_e2_0 a_e2_1 o_ev2
    obtain ⟨W4, HW4, b4, y4, r_x4⟩ : ∃ X, Hid ((W3.alloc (.cells #[.int .i64 n, .slice ao_xv L_xv cap_xv] 34)) = X) ∧ Below W3.heap.size W3 X ∧ W3.heap.size + 1 ≤ X.heap.size ∧ Hid (X.heap[W3.heap.size]? = some (.cells #[.int .i64 n, .slice ao_xv L_xv cap_xv] 34 (0, 0))) := ⟨_, rfl, (Below.refl _ _).alloc (Nat.le_refl _) _, by simp, heap_alloc_new _ _⟩
    have z4 : W3.heap.size ≤ W4.heap.size := b4.size
    have B4 : Hid (Below w.heap.size w W4) := B3.out.trans (b4.mono B3.out.size)
    have r_e4 : Hid (W4.heap[W1.heap.size]? = some (.cells #[.int .i64 n, .slice ao_ev L_ev cap_ev] 34 (0, 0))) := rowKeep r_e3.out b4
    have o_ev4 : Hid (Own W4 (w.heap.size) (W1.heap.size) 9 (.slice ao_ev L_ev cap_ev) (ss hs)) := Own.later o_ev3.out b4 (by omega)
    have o_xv4 : Hid (Own W4 (W2.heap.size) (W3.heap.size) 9 (.slice ao_xv L_xv cap_xv) (ss hs)) := Own.later o_xv3.out b4 (by omega)
    have c_e4_0 : W4.cell? ⟨W1.heap.size, 0, none⟩ = some (.int .i64 n) := row_at r_e4.out 0
    have a_e4_0 : ∀ o, (W4.alloc o).cell? ⟨W1.heap.size, 0, none⟩ = some (.int .i64 n) := fun o => keepR c_e4_0 ((Below.refl _ _).alloc (Nat.le_refl _) o)
    have c_e4_1 : W4.cell? ⟨W1.heap.size, 1, none⟩ = some (.slice ao_ev L_ev cap_ev) := row_at r_e4.out 1
    have a_e4_1 : ∀ o, (W4.alloc o).cell? ⟨W1.heap.size, 1, none⟩ = some (.slice ao_ev L_ev cap_ev) := fun o => keepR c_e4_1 ((Below.refl _ _).alloc (Nat.le_refl _) o)
    have c_x4_0 : W4.cell? ⟨W3.heap.size, 0, none⟩ = some (.int .i64 n) := row_at r_x4.out 0
    have a_x4_0 : ∀ o, (W4.alloc o).cell? ⟨W3.heap.size, 0, none⟩ = some (.int .i64 n) := fun o => keepR c_x4_0 ((Below.refl _ _).alloc (Nat.le_refl _) o)
    have c_x4_1 : W4.cell? ⟨W3.heap.size, 1, none⟩ = some (.slice ao_xv L_xv cap_xv) := row_at r_x4.out 1
    have a_x4_1 : ∀ o, (W4.alloc o).cell? ⟨W3.heap.size, 1, none⟩ = some (.slice ao_xv L_xv cap_xv) := fun o => keepR c_x4_1 ((Below.refl _ _).alloc (Nat.le_refl _) o)
    clear r_e3 c_e3_0 c_e3_1 o_ev3 o_xv3
    go_wp2_with fail
    rw [HW4.out]
    clear a_e3_0 a_e3_1
    refine (qS W4 _ o_ev4.out.sl).mono ?_
    rintro e W5 ⟨v_mv, rfl, o_mv5, b5⟩
    obtain ⟨ao_mv, L_mv, cap_mv, rfl, hL_mv, hM_mv⟩ := o_mv5.form
    have o_mv5 : Hid (Own W5 W4.heap.size W5.heap.size 9 (.slice ao_mv L_mv cap_mv) (ss hs)) := o_mv5
    clear hL_mv hM_mv
    have z5 : W4.heap.size ≤ W5.heap.size := b5.size
    have B5 : Hid (Below w.heap.size w W5) := B4.out.trans (b5.mono B4.out.size)
    have r_e5 : Hid (W5.heap[W1.heap.size]? = some (.cells #[.int .i64 n, .slice ao_ev L_ev cap_ev] 34 (0, 0))) := rowKeep r_e4.out b5
    have r_x5 : Hid (W5.heap[W3.heap.size]? = some (.cells #[.int .i64 n, .slice ao_xv L_xv cap_xv] 34 (0, 0))) := rowKeep r_x4.out b5
    have o_ev5 : Hid (Own W5 (w.heap.size) (W1.heap.size) 9 (.slice ao_ev L_ev cap_ev) (ss hs)) := Own.later o_ev4.out b5 (by omega)
    have o_xv5 : Hid (Own W5 (W2.heap.size) (W3.heap.size) 9 (.slice ao_xv L_xv cap_xv) (ss hs)) := Own.later o_xv4.out b5 (by omega)
    have c_e5_0 : W5.cell? ⟨W1.heap.size, 0, none⟩ = some (.int .i64 n) := row_at r_e5.out 0
    have a_e5_0 : ∀ o, (W5.alloc o).cell? ⟨W1.heap.size, 0, none⟩ = some (.int .i64 n) := fun o => keepR c_e5_0 ((Below.refl _ _).alloc (Nat.le_refl _) o)
    have c_e5_1 : W5.cell? ⟨W1.heap.size, 1, none⟩ = some (.slice ao_ev L_ev cap_ev) := row_at r_e5.out 1
    have a_e5_1 : ∀ o, (W5.alloc o).cell? ⟨W1.heap.size, 1, none⟩ = some (.slice ao_ev L_ev cap_ev) := fun o => keepR c_e5_1 ((Below.refl _ _).alloc (Nat.le_refl _) o)
    have c_x5_0 : W5.cell? ⟨W3.heap.size, 0, none⟩ = some (.int .i64 n) := row_at r_x5.out 0
    have a_x5_0 : ∀ o, (W5.alloc o).cell? ⟨W3.heap.size, 0, none⟩ = some (.int .i64 n) := fun o => keepR c_x5_0 ((Below.refl _ _).alloc (Nat.le_refl _) o)
    have c_x5_1 : W5.cell? ⟨W3.heap.size, 1, none⟩ = some (.slice ao_xv L_xv cap_xv) := row_at r_x5.out 1
    have a_x5_1 : ∀ o, (W5.alloc o).cell? ⟨W3.heap.size, 1, none⟩ = some (.slice ao_xv L_xv cap_xv) := fun o => keepR c_x5_1 ((Below.refl _ _).alloc (Nat.le_refl _) o)
    clear r_e4 c_e4_0 c_e4_1 a_e4_0 a_e4_1 r_x4 c_x4_0 c_x4_1 a_x4_0 a_x4_1 o_ev4 o_xv4
    obtain ⟨W6, HW6, b6, y6, r_m6⟩ : ∃ X, Hid ((W5.alloc (.cells #[.int .i64 n, .slice ao_mv L_mv cap_mv] 34)) = X) ∧ Below W5.heap.size W5 X ∧ W5.heap.size + 1 ≤ X.heap.size ∧ Hid (X.heap[W5.heap.size]? = some (.cells #[.int .i64 n, .slice ao_mv L_mv cap_mv] 34 (0, 0))) := ⟨_, rfl, (Below.refl _ _).alloc (Nat.le_refl _) _, by simp, heap_alloc_new _ _⟩
    have z6 : W5.heap.size ≤ W6.heap.size := b6.size
    have B6 : Hid (Below w.heap.size w W6) := B5.out.trans (b6.mono B5.out.size)
    have r_e6 : Hid (W6.heap[W1.heap.size]? = some (.cells #[.int .i64 n, .slice ao_ev L_ev cap_ev] 34 (0, 0))) := rowKeep r_e5.out b6
    have r_x6 : Hid (W6.heap[W3.heap.size]? = some (.cells #[.int .i64 n, .slice ao_xv L_xv cap_xv] 34 (0, 0))) := rowKeep r_x5.out b6
    have o_ev6 : Hid (Own W6 (w.heap.size) (W1.heap.size) 9 (.slice ao_ev L_ev cap_ev) (ss hs)) := Own.later o_ev5.out b6 (by omega)
    have o_xv6 : Hid (Own W6 (W2.heap.size) (W3.heap.size) 9 (.slice ao_xv L_xv cap_xv) (ss hs)) := Own.later o_xv5.out b6 (by omega)
    have o_mv6 : Hid (Own W6 (W4.heap.size) (W5.heap.size) 9 (.slice ao_mv L_mv cap_mv) (ss hs)) := Own.later o_mv5.out b6 (by omega)
    have c_e6_0 : W6.cell? ⟨W1.heap.size, 0, none⟩ = some (.int .i64 n) := row_at r_e6.out 0
    have a_e6_0 : ∀ o, (W6.alloc o).cell? ⟨W1.heap.size, 0, none⟩ = some (.int .i64 n) := fun o => keepR c_e6_0 ((Below.refl _ _).alloc (Nat.le_refl _) o)
    have c_e6_1 : W6.cell? ⟨W1.heap.size, 1, none⟩ = some (.slice ao_ev L_ev cap_ev) := row_at r_e6.out 1
    have a_e6_1 : ∀ o, (W6.alloc o).cell? ⟨W1.heap.size, 1, none⟩ = some (.slice ao_ev L_ev cap_ev) := fun o => keepR c_e6_1 ((Below.refl _ _).alloc (Nat.le_refl _) o)
    have c_x6_0 : W6.cell? ⟨W3.heap.size, 0, none⟩ = some (.int .i64 n) := row_at r_x6.out 0
    have a_x6_0 : ∀ o, (W6.alloc o).cell? ⟨W3.heap.size, 0, none⟩ = some (.int .i64 n) := fun o => keepR c_x6_0 ((Below.refl _ _).alloc (Nat.le_refl _) o)
    have c_x6_1 : W6.cell? ⟨W3.heap.size, 1, none⟩ = some (.slice ao_xv L_xv cap_xv) := row_at r_x6.out 1
    have a_x6_1 : ∀ o, (W6.alloc o).cell? ⟨W3.heap.size, 1, none⟩ = some (.slice ao_xv L_xv cap_xv) := fun o => keepR c_x6_1 ((Below.refl _ _).alloc (Nat.le_refl _) o)
    have c_m6_0 : W6.cell? ⟨W5.heap.size, 0, none⟩ = some (.int .i64 n) := row_at r_m6.out 0
    have a_m6_0 : ∀ o, (W6.alloc o).cell? ⟨W5.heap.size, 0, none⟩ = some (.int .i64 n) := fun o => keepR c_m6_0 ((Below.refl _ _).alloc (Nat.le_refl _) o)
    have c_m6_1 : W6.cell? ⟨W5.heap.size, 1, none⟩ = some (.slice ao_mv L_mv cap_mv) := row_at r_m6.out 1
    have a_m6_1 : ∀ o, (W6.alloc o).cell? ⟨W5.heap.size, 1, none⟩ = some (.slice ao_mv L_mv cap_mv) := fun o => keepR c_m6_1 ((Below.refl _ _).alloc (Nat.le_refl _) o)
    clear r_e5 c_e5_0 c_e5_1 r_x5 c_x5_0 c_x5_1 o_ev5 o_xv5 o_mv5
    go_wp2_with fail
    rw [HW6.out]
    clear a_e5_0 a_e5_1 a_x5_0 a_x5_1
    refine (same_true W6 _ _ hs o_xv6.out.sl o_ev6.out.sl (by omega)).mono ?_
    rintro e W7 ⟨rfl, h7, _⟩
    have b7 : Below W6.heap.size W6 W7 := h7 _
    clear h7
    have z7 : W6.heap.size ≤ W7.heap.size := b7.size
    have B7 : Hid (Below w.heap.size w W7) := B6.out.trans (b7.mono B6.out.size)
    have r_e7 : Hid (W7.heap[W1.heap.size]? = some (.cells #[.int .i64 n, .slice ao_ev L_ev cap_ev] 34 (0, 0))) := rowKeep r_e6.out b7
    have r_x7 : Hid (W7.heap[W3.heap.size]? = some (.cells #[.int .i64 n, .slice ao_xv L_xv cap_xv] 34 (0, 0))) := rowKeep r_x6.out b7
    have r_m7 : Hid (W7.heap[W5.heap.size]? = some (.cells #[.int .i64 n, .slice ao_mv L_mv cap_mv] 34 (0, 0))) := rowKeep r_m6.out b7
    have o_ev7 : Hid (Own W7 (w.heap.size) (W1.heap.size) 9 (.slice ao_ev L_ev cap_ev) (ss hs)) := Own.later o_ev6.out b7 (by omega)
    have o_xv7 : Hid (Own W7 (W2.heap.size) (W3.heap.size) 9 (.slice ao_xv L_xv cap_xv) (ss hs)) := Own.later o_xv6.out b7 (by omega)
    have o_mv7 : Hid (Own W7 (W4.heap.size) (W5.heap.size) 9 (.slice ao_mv L_mv cap_mv) (ss hs)) := Own.later o_mv6.out b7 (by omega)
    have c_e7_0 : W7.cell? ⟨W1.heap.size, 0, none⟩ = some (.int .i64 n) := row_at r_e7.out 0
    have a_e7_0 : ∀ o, (W7.alloc o).cell? ⟨W1.heap.size, 0, none⟩ = some (.int .i64 n) := fun o => keepR c_e7_0 ((Below.refl _ _).alloc (Nat.le_refl _) o)
    have c_e7_1 : W7.cell? ⟨W1.heap.size, 1, none⟩ = some (.slice ao_ev L_ev cap_ev) := row_at r_e7.out 1
    have a_e7_1 : ∀ o, (W7.alloc o).cell? ⟨W1.heap.size, 1, none⟩ = some (.slice ao_ev L_ev cap_ev) := fun o => keepR c_e7_1 ((Below.refl _ _).alloc (Nat.le_refl _) o)
    have c_x7_0 : W7.cell? ⟨W3.heap.size, 0, none⟩ = some (.int .i64 n) := row_at r_x7.out 0
    have a_x7_0 : ∀ o, (W7.alloc o).cell? ⟨W3.heap.size, 0, none⟩ = some (.int .i64 n) := fun o => keepR c_x7_0 ((Below.refl _ _).alloc (Nat.le_refl _) o)
    have c_x7_1 : W7.cell? ⟨W3.heap.size, 1, none⟩ = some (.slice ao_xv L_xv cap_xv) := row_at r_x7.out 1
    have a_x7_1 : ∀ o, (W7.alloc o).cell? ⟨W3.heap.size, 1, none⟩ = some (.slice ao_xv L_xv cap_xv) := fun o => keepR c_x7_1 ((Below.refl _ _).alloc (Nat.le_refl _) o)
    have c_m7_0 : W7.cell? ⟨W5.heap.size, 0, none⟩ = some (.int .i64 n) := row_at r_m7.out 0
    have a_m7_0 : ∀ o, (W7.alloc o).cell? ⟨W5.heap.size, 0, none⟩ = some (.int .i64 n) := fun o => keepR c_m7_0 ((Below.refl _ _).alloc (Nat.le_refl _) o)
    have c_m7_1 : W7.cell? ⟨W5.heap.size, 1, none⟩ = some (.slice ao_mv L_mv cap_mv) := row_at r_m7.out 1
    have a_m7_1 : ∀ o, (W7.alloc o).cell? ⟨W5.heap.size, 1, none⟩ = some (.slice ao_mv L_mv cap_mv) := fun o => keepR c_m7_1 ((Below.refl _ _).alloc (Nat.le_refl _) o)
    clear r_e6 c_e6_0 c_e6_1 a_e6_0 a_e6_1 r_x6 c_x6_0 c_x6_1 a_x6_0 a_x6_1 r_m6 c_m6_0 c_m6_1 a_m6_0 a_m6_1 o_ev6 o_xv6 o_mv6
    go_wp2
    go_ret
    exact ⟨rfl, B7.out⟩

end Go.Proofs.YthbonifpdpknnaaDoor.Ed
