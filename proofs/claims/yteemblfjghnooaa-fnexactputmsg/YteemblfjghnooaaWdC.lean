/- Chapter 13, the landed code: a word's bytes. -/
import Derived.Test.YteemblfjghnooaaWdB
import Derived.Test.YteemblfjghnooaaPuts3
namespace Go.Proofs.Yteemblfjghnooaa.Wd
open Go.Proofs.Yteemblfjghnooaa.Mg
open Go.RowKit Go.Proofs.Yteemblfjghnooaa.Mem Go.Proofs.Yteemblfjghnooaa.Laws Go.Proofs.Yteemblfjghnooaa.Bytes Go.Proofs.Yteemblfjghnooaa.Sha Go.Proofs.Yteemblfjghnooaa.Tr Go.Proofs.Yteemblfjghnooaa.He
set_option linter.unusedVariables false
set_option linter.unusedSimpArgs false

theorem nil5 (w : World) (lo hi : Nat) : Own w lo hi 5 (.slice none 0 0) (bs []) := ⟨⟨rfl, Or.inl ⟨rfl, rfl⟩⟩, fun g hg => by simp [Value.ownBlock] at hg⟩
theorem rowLater {w w' : World} {g : Nat} {o : Obj} (h : w.heap[g]? = some o) (hb : Below w.heap.size w w') : w'.heap[g]? = some o := (hb.block g (Array.getElem?_eq_some_iff.1 h).1).trans h
theorem nums4 (w : World) (g : Nat) (a b c d : Int) (hrow : w.heap[g]? = some (.cells #[.int .i64 a, .int .i64 b, .int .i64 c, .int .i64 d] 3 (0, 0))) :
    Calls Try.prog 28 #[.slice none 0 0, .slice (some ⟨g, 0, none⟩) 4 4] w fun e w' => ∃ v', e = .returned v' ∧ Own w' w.heap.size w'.heap.size 5 v' (bs (Puts.numsB [a, b, c, d])) ∧ Below w.heap.size w w' := by
  refine (Puts.nums_keep w w.heap.size (.slice none 0 0) [] g 0 4 [a, b, c, d] (nil5 _ _ _) (Nat.le_refl _) (by simp) (by simp) ?_).mono ?_
  · intro w' hk j n hj
    have hr := hk g _ _ _ (by decide) hrow
    match j, hj with
    | 0, hj => simp at hj; subst hj; exact row_at hr 0
    | 1, hj => simp at hj; subst hj; exact row_at hr 1
    | 2, hj => simp at hj; subst hj; exact row_at hr 2
    | 3, hj => simp at hj; subst hj; exact row_at hr 3
  · rintro e w' ⟨v', rfl, ho, hb, _⟩
    exact ⟨v', rfl, ho, hb⟩

set_option maxRecDepth 1000000 in
set_option maxHeartbeats 4000000 in
theorem putm_impl (w : World) (v : Value) (m : Ms) (hs : Sl w v (ss m.x)) (hl : m.x.length ≤ 1000000000) (ht : Puts.tot m.x ≤ 100000000000) (hr : m.h.r.size ≤ 100000000000) :
    Calls Try.prog 9 #[.agg #[.int .i64 m.k, .int .i64 m.f, .int .i64 m.t, .int .i64 m.h.n, .string m.h.r, .int .i64 m.n, v]] w fun e w' => ∃ u, e = .returned u ∧ Own w' w.heap.size w'.heap.size 5 u (bs (putM m)) ∧ Below w.heap.size w w' := by
  obtain ⟨R, hR⟩ : ∃ R, putM m = R := ⟨_, rfl⟩
  have HR : Hid (R = if msgOk m = true then bytesM m else []) := by show _ = _; rw [← hR]; rfl
  rw [hR]
  clear hR
  obtain ⟨k, f, t, h, n, x⟩ := m
  simp only at *
  have HS : Hid (Sl w v (ss x)) := hs
  obtain ⟨ao0, cap0, rfl, hc0⟩ := hs.form
  simp only [ss_len] at *
  clear hs
  have B0 : Hid (Below w.heap.size w w) := Below.refl _ _
  have htl := Puts.txs_len x
  have nn := (Puts.num_len n).2
  have nr := Puts.tx_len h.r
  have n4 : (Puts.numsB [k, f, t, h.n]).length ≤ 20 := Puts.numsB_len [k, f, t, h.n]
  have HT : Hid ((Puts.txs x).length ≤ 5 * x.length + Puts.tot x) := htl
  clear htl
  obtain ⟨W1, HW1, b1, y1, hS1, r_a1⟩ : ∃ X, Hid ((w.alloc (.cells #[.int .i64 k, .int .i64 f, .int .i64 t, .int .i64 h.n, .string h.r, .int .i64 n, .slice ao0 x.length cap0] 28)) = X) ∧ Below w.heap.size w X ∧ w.heap.size + 1 ≤ X.heap.size ∧ Hid (X.heap.size = w.heap.size + 1) ∧ Hid (X.heap[w.heap.size]? = some (.cells #[.int .i64 k, .int .i64 f, .int .i64 t, .int .i64 h.n, .string h.r, .int .i64 n, .slice ao0 x.length cap0] 28 (0, 0))) := ⟨_, rfl, ((Below.refl _ _).alloc (Nat.le_refl _) _), by simp, by show _ = _; simp, (by show _ = _; exact alloc_nth1_0 w _)⟩
  have z1 : w.heap.size ≤ W1.heap.size := b1.size
  have B1 : Hid (Below w.heap.size w W1) := B0.out.trans (b1.mono B0.out.size)
  have c_a1_0 : W1.cell? ⟨w.heap.size, 0, none⟩ = some (.int .i64 k) := row_at r_a1.out 0
  have c_a1_1 : W1.cell? ⟨w.heap.size, 1, none⟩ = some (.int .i64 f) := row_at r_a1.out 1
  have c_a1_2 : W1.cell? ⟨w.heap.size, 2, none⟩ = some (.int .i64 t) := row_at r_a1.out 2
  have c_a1_3 : W1.cell? ⟨w.heap.size, 3, none⟩ = some (.int .i64 h.n) := row_at r_a1.out 3
  have c_a1_4 : W1.cell? ⟨w.heap.size, 4, none⟩ = some (.string h.r) := row_at r_a1.out 4
  have c_a1_5 : W1.cell? ⟨w.heap.size, 5, none⟩ = some (.int .i64 n) := row_at r_a1.out 5
  have c_a1_6 : W1.cell? ⟨w.heap.size, 6, none⟩ = some (.slice ao0 x.length cap0) := row_at r_a1.out 6
  have q1 : ∀ W v1, Sl W v1 (ss x) → _ := fun W v1 h1 => msgok_impl W v1 ⟨k, f, t, h, n, x⟩ h1 (by simp only; omega) (by simp only; omega)
  obtain ⟨A, hA⟩ : ∃ A, msgOk ⟨k, f, t, h, n, x⟩ = A := ⟨_, rfl⟩
  simp only [hA] at q1
  have HP : Hid (R = if A = true then bytesM ⟨k, f, t, h, n, x⟩ else []) := by show _ = _; rw [HR.out, hA]
  clear hA HR
  go_enter Try.func9, Try.ntmps9
  go_wp2_with fail
  rw [HW1.out]
  refine (q1 W1 _ (HS.out.later B1.out)).mono ?_
  rintro e W2 ⟨rfl, b2⟩
  have z2 : W1.heap.size ≤ W2.heap.size := b2.size
  have B2 : Hid (Below w.heap.size w W2) := B1.out.trans (b2.mono B1.out.size)
  have r_a2 : Hid (W2.heap[w.heap.size]? = some (.cells #[.int .i64 k, .int .i64 f, .int .i64 t, .int .i64 h.n, .string h.r, .int .i64 n, .slice ao0 x.length cap0] 28 (0, 0))) := rowKeep r_a1.out b2
  have c_a2_0 : W2.cell? ⟨w.heap.size, 0, none⟩ = some (.int .i64 k) := row_at r_a2.out 0
  have c_a2_1 : W2.cell? ⟨w.heap.size, 1, none⟩ = some (.int .i64 f) := row_at r_a2.out 1
  have c_a2_2 : W2.cell? ⟨w.heap.size, 2, none⟩ = some (.int .i64 t) := row_at r_a2.out 2
  have c_a2_3 : W2.cell? ⟨w.heap.size, 3, none⟩ = some (.int .i64 h.n) := row_at r_a2.out 3
  have c_a2_4 : W2.cell? ⟨w.heap.size, 4, none⟩ = some (.string h.r) := row_at r_a2.out 4
  have c_a2_5 : W2.cell? ⟨w.heap.size, 5, none⟩ = some (.int .i64 n) := row_at r_a2.out 5
  have c_a2_6 : W2.cell? ⟨w.heap.size, 6, none⟩ = some (.slice ao0 x.length cap0) := row_at r_a2.out 6
  clear r_a1 c_a1_0 c_a1_1 c_a1_2 c_a1_3 c_a1_4 c_a1_5 c_a1_6
  clear q1
  cases A
  · have e9 : R = [] := by rw [HP.out]; rfl
    subst e9
    go_wp2
    go_ret
    exact ⟨_, rfl, nil5 _ _ _, B2.out⟩
  · have ke_0 := c_a2_0
    have ke_1 := c_a2_1
    have ke_2 := c_a2_2
    have ke_3 := c_a2_3
    have ke_4 := c_a2_4
    have ke_5 := c_a2_5
    have ke_6 := c_a2_6
    have a_a2_0 : ∀ o, (W2.alloc o).cell? ⟨w.heap.size, 0, none⟩ = some (.int .i64 k) := fun o => keepR c_a2_0 ((Below.refl _ _).alloc (Nat.le_refl _) o)
    have a_a2_1 : ∀ o, (W2.alloc o).cell? ⟨w.heap.size, 1, none⟩ = some (.int .i64 f) := fun o => keepR c_a2_1 ((Below.refl _ _).alloc (Nat.le_refl _) o)
    have a_a2_2 : ∀ o, (W2.alloc o).cell? ⟨w.heap.size, 2, none⟩ = some (.int .i64 t) := fun o => keepR c_a2_2 ((Below.refl _ _).alloc (Nat.le_refl _) o)
    have a_a2_3 : ∀ o, (W2.alloc o).cell? ⟨w.heap.size, 3, none⟩ = some (.int .i64 h.n) := fun o => keepR c_a2_3 ((Below.refl _ _).alloc (Nat.le_refl _) o)
    have a_a2_4 : ∀ o, (W2.alloc o).cell? ⟨w.heap.size, 4, none⟩ = some (.string h.r) := fun o => keepR c_a2_4 ((Below.refl _ _).alloc (Nat.le_refl _) o)
    have a_a2_5 : ∀ o, (W2.alloc o).cell? ⟨w.heap.size, 5, none⟩ = some (.int .i64 n) := fun o => keepR c_a2_5 ((Below.refl _ _).alloc (Nat.le_refl _) o)
    have a_a2_6 : ∀ o, (W2.alloc o).cell? ⟨w.heap.size, 6, none⟩ = some (.slice ao0 x.length cap0) := fun o => keepR c_a2_6 ((Below.refl _ _).alloc (Nat.le_refl _) o)
    obtain ⟨W3, HW3, b3, y3, hS3, r_i43⟩ : ∃ X, Hid ((W2.alloc (.cells #[.int .i64 k, .int .i64 f, .int .i64 t, .int .i64 h.n] 3)) = X) ∧ Below W2.heap.size W2 X ∧ W2.heap.size + 1 ≤ X.heap.size ∧ Hid (X.heap.size = W2.heap.size + 1) ∧ Hid (X.heap[W2.heap.size]? = some (.cells #[.int .i64 k, .int .i64 f, .int .i64 t, .int .i64 h.n] 3 (0, 0))) := ⟨_, rfl, ((Below.refl _ _).alloc (Nat.le_refl _) _), by simp, by show _ = _; simp, (by show _ = _; exact alloc_nth1_0 W2 _)⟩
    have z3 : W2.heap.size ≤ W3.heap.size := b3.size
    have B3 : Hid (Below w.heap.size w W3) := B2.out.trans (b3.mono B2.out.size)
    have r_a3 : Hid (W3.heap[w.heap.size]? = some (.cells #[.int .i64 k, .int .i64 f, .int .i64 t, .int .i64 h.n, .string h.r, .int .i64 n, .slice ao0 x.length cap0] 28 (0, 0))) := rowKeep r_a2.out b3
    have c_a3_0 : W3.cell? ⟨w.heap.size, 0, none⟩ = some (.int .i64 k) := row_at r_a3.out 0
    have c_a3_1 : W3.cell? ⟨w.heap.size, 1, none⟩ = some (.int .i64 f) := row_at r_a3.out 1
    have c_a3_2 : W3.cell? ⟨w.heap.size, 2, none⟩ = some (.int .i64 t) := row_at r_a3.out 2
    have c_a3_3 : W3.cell? ⟨w.heap.size, 3, none⟩ = some (.int .i64 h.n) := row_at r_a3.out 3
    have c_a3_4 : W3.cell? ⟨w.heap.size, 4, none⟩ = some (.string h.r) := row_at r_a3.out 4
    have c_a3_5 : W3.cell? ⟨w.heap.size, 5, none⟩ = some (.int .i64 n) := row_at r_a3.out 5
    have c_a3_6 : W3.cell? ⟨w.heap.size, 6, none⟩ = some (.slice ao0 x.length cap0) := row_at r_a3.out 6
    have c_i43_0 : W3.cell? ⟨W2.heap.size, 0, none⟩ = some (.int .i64 k) := row_at r_i43.out 0
    have c_i43_1 : W3.cell? ⟨W2.heap.size, 1, none⟩ = some (.int .i64 f) := row_at r_i43.out 1
    have c_i43_2 : W3.cell? ⟨W2.heap.size, 2, none⟩ = some (.int .i64 t) := row_at r_i43.out 2
    have c_i43_3 : W3.cell? ⟨W2.heap.size, 3, none⟩ = some (.int .i64 h.n) := row_at r_i43.out 3
    clear r_a2 c_a2_0 c_a2_1 c_a2_2 c_a2_3 c_a2_4 c_a2_5 c_a2_6
    go_wp2_with fail
    rw [HW3.out]
    clear a_a2_0 a_a2_1 a_a2_2 a_a2_3 a_a2_4 a_a2_5 a_a2_6
    refine (nums4 W3 _ k f t h.n r_i43.out).mono ?_
    rintro e W4 ⟨v_b, rfl, o_b4, b4⟩
    obtain ⟨ao_b, L_b, cap_b, rfl, hL_b, hM_b⟩ := o_b4.form
    have o_b4 : Hid (Own W4 W3.heap.size W4.heap.size 5 (.slice ao_b L_b cap_b) (bs (Puts.numsB [k, f, t, h.n]))) := o_b4
    clear hL_b hM_b
    have z4 : W3.heap.size ≤ W4.heap.size := b4.size
    have B4 : Hid (Below w.heap.size w W4) := B3.out.trans (b4.mono B3.out.size)
    have r_a4 : Hid (W4.heap[w.heap.size]? = some (.cells #[.int .i64 k, .int .i64 f, .int .i64 t, .int .i64 h.n, .string h.r, .int .i64 n, .slice ao0 x.length cap0] 28 (0, 0))) := rowKeep r_a3.out b4
    have r_i44 : Hid (W4.heap[W2.heap.size]? = some (.cells #[.int .i64 k, .int .i64 f, .int .i64 t, .int .i64 h.n] 3 (0, 0))) := rowKeep r_i43.out b4
    have c_a4_0 : W4.cell? ⟨w.heap.size, 0, none⟩ = some (.int .i64 k) := row_at r_a4.out 0
    have c_a4_1 : W4.cell? ⟨w.heap.size, 1, none⟩ = some (.int .i64 f) := row_at r_a4.out 1
    have c_a4_2 : W4.cell? ⟨w.heap.size, 2, none⟩ = some (.int .i64 t) := row_at r_a4.out 2
    have c_a4_3 : W4.cell? ⟨w.heap.size, 3, none⟩ = some (.int .i64 h.n) := row_at r_a4.out 3
    have c_a4_4 : W4.cell? ⟨w.heap.size, 4, none⟩ = some (.string h.r) := row_at r_a4.out 4
    have c_a4_5 : W4.cell? ⟨w.heap.size, 5, none⟩ = some (.int .i64 n) := row_at r_a4.out 5
    have c_a4_6 : W4.cell? ⟨w.heap.size, 6, none⟩ = some (.slice ao0 x.length cap0) := row_at r_a4.out 6
    have c_i44_0 : W4.cell? ⟨W2.heap.size, 0, none⟩ = some (.int .i64 k) := row_at r_i44.out 0
    have c_i44_1 : W4.cell? ⟨W2.heap.size, 1, none⟩ = some (.int .i64 f) := row_at r_i44.out 1
    have c_i44_2 : W4.cell? ⟨W2.heap.size, 2, none⟩ = some (.int .i64 t) := row_at r_i44.out 2
    have c_i44_3 : W4.cell? ⟨W2.heap.size, 3, none⟩ = some (.int .i64 h.n) := row_at r_i44.out 3
    clear r_a3 c_a3_0 c_a3_1 c_a3_2 c_a3_3 c_a3_4 c_a3_5 c_a3_6 r_i43 c_i43_0 c_i43_1 c_i43_2 c_i43_3
    clear r_i44 c_i44_0 c_i44_1 c_i44_2 c_i44_3
    clear ke_0 ke_1 ke_2 ke_3 ke_4 ke_5 ke_6
    go_wp2_with fail
    refine wp_region_held_drew (S := fun w' => w'.cell? ⟨w.heap.size, 0, none⟩ = some (.int .i64 k) ∧ w'.cell? ⟨w.heap.size, 1, none⟩ = some (.int .i64 f) ∧ w'.cell? ⟨w.heap.size, 2, none⟩ = some (.int .i64 t) ∧ w'.cell? ⟨w.heap.size, 3, none⟩ = some (.int .i64 h.n) ∧ w'.cell? ⟨w.heap.size, 4, none⟩ = some (.string h.r) ∧ w'.cell? ⟨w.heap.size, 5, none⟩ = some (.int .i64 n) ∧ w'.cell? ⟨w.heap.size, 6, none⟩ = some (.slice ao0 x.length cap0)) (by kernel_rfl) ⟨c_a4_0, c_a4_1, c_a4_2, c_a4_3, c_a4_4, c_a4_5, c_a4_6⟩ (fun hHeld => ?_)
    (refine wpAnyH_take (i := 0) (v := ?v0x20) rfl (by kernel_rfl) (by kernel_rfl) (by kernel_rfl) (fun _ _ _ h => h) (Or.inl ⟨by rfl, ?hy0x20⟩) (by assumption) ?rest0x20; case hy0x20 => (intro w hSw; (try dsimp only at hSw); go_split_ands; go_simp; (try with_reducible rfl)))
    try simp only [Act.put, List.setIfInBounds_toArray, List.set_cons_zero, List.set_cons_succ, List.getElem_toArray, List.getElem_cons_zero, List.getElem_cons_succ]
    (refine wpAnyH_take (i := 1) (v := ?v1x21) rfl (by kernel_rfl) (by kernel_rfl) (by kernel_rfl) (fun _ _ _ h => h) (Or.inl ⟨by rfl, ?hy1x21⟩) (by assumption) ?rest1x21; case hy1x21 => (intro w hSw; (try dsimp only at hSw); go_split_ands; go_simp; (try with_reducible rfl)))
    try simp only [Act.put, List.setIfInBounds_toArray, List.set_cons_zero, List.set_cons_succ, List.getElem_toArray, List.getElem_cons_zero, List.getElem_cons_succ]
    (refine wpAnyH_take (i := 2) (v := ?v2x22) rfl (by kernel_rfl) (by kernel_rfl) (by kernel_rfl) (fun _ _ _ h => h) (Or.inl ⟨by rfl, ?hy2x22⟩) (by assumption) ?rest2x22; case hy2x22 => (intro w hSw; (try dsimp only at hSw); go_split_ands; go_simp; (try with_reducible rfl)))
    try simp only [Act.put, List.setIfInBounds_toArray, List.set_cons_zero, List.set_cons_succ, List.getElem_toArray, List.getElem_cons_zero, List.getElem_cons_succ]
    (refine wpAnyH_take (i := 3) (v := ?v3x23) rfl (by kernel_rfl) (by kernel_rfl) (by kernel_rfl) (fun _ _ _ h => h) (Or.inl ⟨by rfl, ?hy3x23⟩) (by assumption) ?rest3x23; case hy3x23 => (intro w hSw; (try dsimp only at hSw); go_split_ands; go_simp; (try with_reducible rfl)))
    try simp only [Act.put, List.setIfInBounds_toArray, List.set_cons_zero, List.set_cons_succ, List.getElem_toArray, List.getElem_cons_zero, List.getElem_cons_succ]
    (refine wpAnyH_take (i := 6) (v := ?v6x24) rfl (by kernel_rfl) (by kernel_rfl) (by kernel_rfl) (fun _ _ _ h => h) (Or.inl ⟨by rfl, ?hy6x24⟩) (by assumption) ?rest6x24; case hy6x24 => (intro w hSw; (try dsimp only at hSw); go_split_ands; go_simp; (try with_reducible rfl)))
    try simp only [Act.put, List.setIfInBounds_toArray, List.set_cons_zero, List.set_cons_succ, List.getElem_toArray, List.getElem_cons_zero, List.getElem_cons_succ]
    (refine wpAnyH_take (i := 7) (v := ?v7x25) rfl (by kernel_rfl) (by kernel_rfl) (by kernel_rfl) (fun _ _ _ h => h) (Or.inl ⟨by rfl, ?hy7x25⟩) (by assumption) ?rest7x25; case hy7x25 => (intro w hSw; (try dsimp only at hSw); go_split_ands; go_simp; (try with_reducible rfl)))
    try simp only [Act.put, List.setIfInBounds_toArray, List.set_cons_zero, List.set_cons_succ, List.getElem_toArray, List.getElem_cons_zero, List.getElem_cons_succ]
    (refine wpAnyH_take (i := 10) (v := ?v10x26) rfl (by kernel_rfl) (by kernel_rfl) (by kernel_rfl) (fun _ _ _ h => h) (Or.inl ⟨by rfl, ?hy10x26⟩) (by assumption) ?rest10x26; case hy10x26 => (intro w hSw; (try dsimp only at hSw); go_split_ands; go_simp; (try with_reducible rfl)))
    try simp only [Act.put, List.setIfInBounds_toArray, List.set_cons_zero, List.set_cons_succ, List.getElem_toArray, List.getElem_cons_zero, List.getElem_cons_succ]
    (refine wpAnyH_take (i := 11) (v := ?v11x27) rfl (by kernel_rfl) (by kernel_rfl) (by kernel_rfl) (fun _ _ _ h => h) (Or.inl ⟨by rfl, ?hy11x27⟩) (by assumption) ?rest11x27; case hy11x27 => (intro w hSw; (try dsimp only at hSw); go_split_ands; go_simp; (try with_reducible rfl)))
    try simp only [Act.put, List.setIfInBounds_toArray, List.set_cons_zero, List.set_cons_succ, List.getElem_toArray, List.getElem_cons_zero, List.getElem_cons_succ]
    refine wpAnyH_ready (rs := [4, 8]) (by kernel_rfl) (by simp) ?_
    refine AllReadyH.cons rfl (fun K hK => ?_) (AllReadyH.cons rfl (fun K hK => ?_) AllReadyH.nil)
    · go_simp
      refine hK.out _ _ ⟨(keepR (W := W4.drew) hHeld.1 ((Below.refl _ _).alloc (Nat.le_refl _) _)), (keepR (W := W4.drew) hHeld.2.1 ((Below.refl _ _).alloc (Nat.le_refl _) _)), (keepR (W := W4.drew) hHeld.2.2.1 ((Below.refl _ _).alloc (Nat.le_refl _) _)), (keepR (W := W4.drew) hHeld.2.2.2.1 ((Below.refl _ _).alloc (Nat.le_refl _) _)), (keepR (W := W4.drew) hHeld.2.2.2.2.1 ((Below.refl _ _).alloc (Nat.le_refl _) _)), (keepR (W := W4.drew) hHeld.2.2.2.2.2.1 ((Below.refl _ _).alloc (Nat.le_refl _) _)), (keepR (W := W4.drew) hHeld.2.2.2.2.2.2 ((Below.refl _ _).alloc (Nat.le_refl _) _))⟩ (fun hHeld => ?_)
      clear hK K
      try simp only [Act.put, List.setIfInBounds_toArray, List.set_cons_zero, List.set_cons_succ, List.getElem_toArray, List.getElem_cons_zero, List.getElem_cons_succ]
      obtain ⟨W5, HW5, b5, ff5⟩ : ∃ X, Hid ((W4.alloc (.cells #[.string h.r] 9)).drew = X) ∧ Below W4.heap.size W4 X ∧ Hid (Sl X (.slice (some ⟨W4.heap.size, 0, none⟩) 1 1) (ss [h.r])) := ⟨_, rfl, (Below.drew ((Below.refl _ _).alloc (Nat.le_refl _) _)), Puts.Sl.oneStr W4 _ _⟩
      have HHW5 := HW5.out
      rw [HHW5] at hHeld ⊢
      clear HHW5
      have z5 : W4.heap.size ≤ W5.heap.size := b5.size
      have B5 : Hid (Below w.heap.size w W5) := B4.out.trans (b5.mono B4.out.size)
      have r_a5 : Hid (W5.heap[w.heap.size]? = some (.cells #[.int .i64 k, .int .i64 f, .int .i64 t, .int .i64 h.n, .string h.r, .int .i64 n, .slice ao0 x.length cap0] 28 (0, 0))) := rowKeep r_a4.out b5
      have o_b5 : Hid (Own W5 (W3.heap.size) (W4.heap.size) 5 (.slice ao_b L_b cap_b) (bs (Puts.numsB [k, f, t, h.n]))) := Own.later o_b4.out b5 (by omega)
      have c_a5_0 : W5.cell? ⟨w.heap.size, 0, none⟩ = some (.int .i64 k) := row_at r_a5.out 0
      have c_a5_1 : W5.cell? ⟨w.heap.size, 1, none⟩ = some (.int .i64 f) := row_at r_a5.out 1
      have c_a5_2 : W5.cell? ⟨w.heap.size, 2, none⟩ = some (.int .i64 t) := row_at r_a5.out 2
      have c_a5_3 : W5.cell? ⟨w.heap.size, 3, none⟩ = some (.int .i64 h.n) := row_at r_a5.out 3
      have c_a5_4 : W5.cell? ⟨w.heap.size, 4, none⟩ = some (.string h.r) := row_at r_a5.out 4
      have c_a5_5 : W5.cell? ⟨w.heap.size, 5, none⟩ = some (.int .i64 n) := row_at r_a5.out 5
      have c_a5_6 : W5.cell? ⟨w.heap.size, 6, none⟩ = some (.slice ao0 x.length cap0) := row_at r_a5.out 6
      clear r_a4 c_a4_0 c_a4_1 c_a4_2 c_a4_3 c_a4_4 c_a4_5 c_a4_6 o_b4
      have f_t5 : Hid (Sl W5 (.slice (some ⟨W4.heap.size, 0, none⟩) 1 1) (ss [h.r])) := ff5.out
      clear ff5
      refine wpAnyH_ready (rs := [5, 8]) (by kernel_rfl) (by simp) ?_
      refine AllReadyH.cons rfl (fun K hK => ?_) (AllReadyH.cons rfl (fun K hK => ?_) AllReadyH.nil)
      · go_simp
        refine (Puts.texts_keep W5 (W3.heap.size) _ (Puts.numsB [k, f, t, h.n]) _ [h.r] (Own.mono o_b5.out (Nat.le_refl _) (by omega)) (by omega) f_t5.out (fun _ _ h9 => by simp at h9) (by simp [Puts.txs]; omega) (by simp)).mono ?_
        rintro e W6 ⟨v_c, rfl, o_c6, q6, kr6⟩
        refine hK.out _ _ ⟨((q6.cell (p := ⟨w.heap.size, 0, none⟩) (by show w.heap.size < W3.heap.size; omega)).trans hHeld.1), ((q6.cell (p := ⟨w.heap.size, 1, none⟩) (by show w.heap.size < W3.heap.size; omega)).trans hHeld.2.1), ((q6.cell (p := ⟨w.heap.size, 2, none⟩) (by show w.heap.size < W3.heap.size; omega)).trans hHeld.2.2.1), ((q6.cell (p := ⟨w.heap.size, 3, none⟩) (by show w.heap.size < W3.heap.size; omega)).trans hHeld.2.2.2.1), ((q6.cell (p := ⟨w.heap.size, 4, none⟩) (by show w.heap.size < W3.heap.size; omega)).trans hHeld.2.2.2.2.1), ((q6.cell (p := ⟨w.heap.size, 5, none⟩) (by show w.heap.size < W3.heap.size; omega)).trans hHeld.2.2.2.2.2.1), ((q6.cell (p := ⟨w.heap.size, 6, none⟩) (by show w.heap.size < W3.heap.size; omega)).trans hHeld.2.2.2.2.2.2)⟩ (fun hHeld => ?_)
        clear hK K
        try simp only [Act.put, List.setIfInBounds_toArray, List.set_cons_zero, List.set_cons_succ, List.getElem_toArray, List.getElem_cons_zero, List.getElem_cons_succ]
        obtain ⟨ao_c, L_c, cap_c, rfl, _, _⟩ := Mem.Own.form o_c6
        have o_c6 : Hid (Own W6 (W3.heap.size) W6.heap.size 5 (.slice ao_c L_c cap_c) (bs (Puts.numsB [k, f, t, h.n] ++ Puts.txs [h.r]))) := o_c6
        have z6 : W5.heap.size ≤ W6.heap.size := q6.size
        have B6 : Hid (Below w.heap.size w W6) := B5.out.trans (q6.mono (by have := B5.out.size; omega))
        have r_a6 : Hid (W6.heap[w.heap.size]? = some (.cells #[.int .i64 k, .int .i64 f, .int .i64 t, .int .i64 h.n, .string h.r, .int .i64 n, .slice ao0 x.length cap0] 28 (0, 0))) := (q6.block (w.heap.size) (by omega)).trans r_a5.out
        have c_a6_0 : W6.cell? ⟨w.heap.size, 0, none⟩ = some (.int .i64 k) := row_at r_a6.out 0
        have c_a6_1 : W6.cell? ⟨w.heap.size, 1, none⟩ = some (.int .i64 f) := row_at r_a6.out 1
        have c_a6_2 : W6.cell? ⟨w.heap.size, 2, none⟩ = some (.int .i64 t) := row_at r_a6.out 2
        have c_a6_3 : W6.cell? ⟨w.heap.size, 3, none⟩ = some (.int .i64 h.n) := row_at r_a6.out 3
        have c_a6_4 : W6.cell? ⟨w.heap.size, 4, none⟩ = some (.string h.r) := row_at r_a6.out 4
        have c_a6_5 : W6.cell? ⟨w.heap.size, 5, none⟩ = some (.int .i64 n) := row_at r_a6.out 5
        have c_a6_6 : W6.cell? ⟨w.heap.size, 6, none⟩ = some (.slice ao0 x.length cap0) := row_at r_a6.out 6
        clear r_a5 c_a5_0 c_a5_1 c_a5_2 c_a5_3 c_a5_4 c_a5_5 c_a5_6 o_b5
        clear f_t5
        clear q6 kr6
        refine wpAnyH_ready (rs := [8]) (by kernel_rfl) (by simp) ?_
        refine AllReadyH.cons rfl (fun K hK => ?_) AllReadyH.nil
        go_simp
        refine hK.out _ _ ⟨(keepR (W := W6) hHeld.1 ((Below.refl _ _).alloc (Nat.le_refl _) _)), (keepR (W := W6) hHeld.2.1 ((Below.refl _ _).alloc (Nat.le_refl _) _)), (keepR (W := W6) hHeld.2.2.1 ((Below.refl _ _).alloc (Nat.le_refl _) _)), (keepR (W := W6) hHeld.2.2.2.1 ((Below.refl _ _).alloc (Nat.le_refl _) _)), (keepR (W := W6) hHeld.2.2.2.2.1 ((Below.refl _ _).alloc (Nat.le_refl _) _)), (keepR (W := W6) hHeld.2.2.2.2.2.1 ((Below.refl _ _).alloc (Nat.le_refl _) _)), (keepR (W := W6) hHeld.2.2.2.2.2.2 ((Below.refl _ _).alloc (Nat.le_refl _) _))⟩ (fun hHeld => ?_)
        clear hK K
        try simp only [Act.put, List.setIfInBounds_toArray, List.set_cons_zero, List.set_cons_succ, List.getElem_toArray, List.getElem_cons_zero, List.getElem_cons_succ]
        obtain ⟨W7, HW7, b7, ff7⟩ : ∃ X, Hid ((W6.alloc (.cells #[.int .i64 n] 3)) = X) ∧ Below W6.heap.size W6 X ∧ Hid (X.heap[W6.heap.size]? = some (.cells #[.int .i64 n] 3 (0, 0))) := ⟨_, rfl, ((Below.refl _ _).alloc (Nat.le_refl _) _), Puts.new_row W6 _ _⟩
        have HHW7 := HW7.out
        rw [HHW7] at hHeld ⊢
        clear HHW7
        have z7 : W6.heap.size ≤ W7.heap.size := b7.size
        have B7 : Hid (Below w.heap.size w W7) := B6.out.trans (b7.mono B6.out.size)
        have r_a7 : Hid (W7.heap[w.heap.size]? = some (.cells #[.int .i64 k, .int .i64 f, .int .i64 t, .int .i64 h.n, .string h.r, .int .i64 n, .slice ao0 x.length cap0] 28 (0, 0))) := rowKeep r_a6.out b7
        have o_c7 : Hid (Own W7 (W3.heap.size) (W6.heap.size) 5 (.slice ao_c L_c cap_c) (bs (Puts.numsB [k, f, t, h.n] ++ Puts.txs [h.r]))) := Own.later o_c6.out b7 (by omega)
        have c_a7_0 : W7.cell? ⟨w.heap.size, 0, none⟩ = some (.int .i64 k) := row_at r_a7.out 0
        have c_a7_1 : W7.cell? ⟨w.heap.size, 1, none⟩ = some (.int .i64 f) := row_at r_a7.out 1
        have c_a7_2 : W7.cell? ⟨w.heap.size, 2, none⟩ = some (.int .i64 t) := row_at r_a7.out 2
        have c_a7_3 : W7.cell? ⟨w.heap.size, 3, none⟩ = some (.int .i64 h.n) := row_at r_a7.out 3
        have c_a7_4 : W7.cell? ⟨w.heap.size, 4, none⟩ = some (.string h.r) := row_at r_a7.out 4
        have c_a7_5 : W7.cell? ⟨w.heap.size, 5, none⟩ = some (.int .i64 n) := row_at r_a7.out 5
        have c_a7_6 : W7.cell? ⟨w.heap.size, 6, none⟩ = some (.slice ao0 x.length cap0) := row_at r_a7.out 6
        clear r_a6 c_a6_0 c_a6_1 c_a6_2 c_a6_3 c_a6_4 c_a6_5 c_a6_6 o_c6
        have f_n7 : Hid (W7.heap[W6.heap.size]? = some (.cells #[.int .i64 n] 3 (0, 0))) := ff7.out
        clear ff7
        refine wpAnyH_ready (rs := [9]) (by kernel_rfl) (by simp) ?_
        refine AllReadyH.cons rfl (fun K hK => ?_) AllReadyH.nil
        go_simp
        refine (Puts.nums_keep1 W7 (W3.heap.size) _ (Puts.numsB [k, f, t, h.n] ++ Puts.txs [h.r]) _ n (Own.mono o_c7.out (Nat.le_refl _) (by omega)) (Array.getElem?_eq_some_iff.1 f_n7.out).1 (by omega) (by simp [Puts.txs]; omega) f_n7.out).mono ?_
        rintro e W8 ⟨v_d, rfl, o_d8, q8, kr8⟩
        refine hK.out _ _ ⟨((q8.cell (p := ⟨w.heap.size, 0, none⟩) (by show w.heap.size < W3.heap.size; omega)).trans hHeld.1), ((q8.cell (p := ⟨w.heap.size, 1, none⟩) (by show w.heap.size < W3.heap.size; omega)).trans hHeld.2.1), ((q8.cell (p := ⟨w.heap.size, 2, none⟩) (by show w.heap.size < W3.heap.size; omega)).trans hHeld.2.2.1), ((q8.cell (p := ⟨w.heap.size, 3, none⟩) (by show w.heap.size < W3.heap.size; omega)).trans hHeld.2.2.2.1), ((q8.cell (p := ⟨w.heap.size, 4, none⟩) (by show w.heap.size < W3.heap.size; omega)).trans hHeld.2.2.2.2.1), ((q8.cell (p := ⟨w.heap.size, 5, none⟩) (by show w.heap.size < W3.heap.size; omega)).trans hHeld.2.2.2.2.2.1), ((q8.cell (p := ⟨w.heap.size, 6, none⟩) (by show w.heap.size < W3.heap.size; omega)).trans hHeld.2.2.2.2.2.2)⟩ (fun hHeld => ?_)
        clear hK K
        try simp only [Act.put, List.setIfInBounds_toArray, List.set_cons_zero, List.set_cons_succ, List.getElem_toArray, List.getElem_cons_zero, List.getElem_cons_succ]
        obtain ⟨ao_d, L_d, cap_d, rfl, _, _⟩ := Mem.Own.form o_d8
        have o_d8 : Hid (Own W8 (W3.heap.size) W8.heap.size 5 (.slice ao_d L_d cap_d) (bs (Puts.numsB [k, f, t, h.n] ++ Puts.txs [h.r] ++ Puts.num n))) := o_d8
        have z8 : W7.heap.size ≤ W8.heap.size := q8.size
        have B8 : Hid (Below w.heap.size w W8) := B7.out.trans (q8.mono (by have := B7.out.size; omega))
        have r_a8 : Hid (W8.heap[w.heap.size]? = some (.cells #[.int .i64 k, .int .i64 f, .int .i64 t, .int .i64 h.n, .string h.r, .int .i64 n, .slice ao0 x.length cap0] 28 (0, 0))) := (q8.block (w.heap.size) (by omega)).trans r_a7.out
        have f_n8 : Hid (W8.heap[W6.heap.size]? = some (.cells #[.int .i64 n] 3 (0, 0))) := kr8 _ _ _ _ (by decide) f_n7.out
        have c_a8_0 : W8.cell? ⟨w.heap.size, 0, none⟩ = some (.int .i64 k) := row_at r_a8.out 0
        have c_a8_1 : W8.cell? ⟨w.heap.size, 1, none⟩ = some (.int .i64 f) := row_at r_a8.out 1
        have c_a8_2 : W8.cell? ⟨w.heap.size, 2, none⟩ = some (.int .i64 t) := row_at r_a8.out 2
        have c_a8_3 : W8.cell? ⟨w.heap.size, 3, none⟩ = some (.int .i64 h.n) := row_at r_a8.out 3
        have c_a8_4 : W8.cell? ⟨w.heap.size, 4, none⟩ = some (.string h.r) := row_at r_a8.out 4
        have c_a8_5 : W8.cell? ⟨w.heap.size, 5, none⟩ = some (.int .i64 n) := row_at r_a8.out 5
        have c_a8_6 : W8.cell? ⟨w.heap.size, 6, none⟩ = some (.slice ao0 x.length cap0) := row_at r_a8.out 6
        clear r_a7 c_a7_0 c_a7_1 c_a7_2 c_a7_3 c_a7_4 c_a7_5 c_a7_6 o_c7
        clear f_n7
        clear q8 kr8
        refine wpAnyH_ready (rs := [12]) (by kernel_rfl) (by simp) ?_
        refine AllReadyH.cons rfl (fun K hK => ?_) AllReadyH.nil
        go_simp
        refine (Puts.putts_impl W8 _ _ (Puts.numsB [k, f, t, h.n] ++ Puts.txs [h.r] ++ Puts.num n) x o_d8.out.sl (HS.out.later B8.out) (by have := HT.out; simp only [Puts.txs, List.append_nil, List.length_append]; omega) (by omega)).mono ?_
        rintro e W9 ⟨v_e, rfl, o_e9, b9⟩
        refine hK.out _ _ ⟨(keepR (W := W8) hHeld.1 b9), (keepR (W := W8) hHeld.2.1 b9), (keepR (W := W8) hHeld.2.2.1 b9), (keepR (W := W8) hHeld.2.2.2.1 b9), (keepR (W := W8) hHeld.2.2.2.2.1 b9), (keepR (W := W8) hHeld.2.2.2.2.2.1 b9), (keepR (W := W8) hHeld.2.2.2.2.2.2 b9)⟩ (fun hHeld => ?_)
        clear hK K
        try simp only [Act.put, List.setIfInBounds_toArray, List.set_cons_zero, List.set_cons_succ, List.getElem_toArray, List.getElem_cons_zero, List.getElem_cons_succ]
        obtain ⟨ao_e, L_e, cap_e, rfl, hL_e, hM_e⟩ := o_e9.form
        have o_e9 : Hid (Own W9 W8.heap.size W9.heap.size 5 (.slice ao_e L_e cap_e) (bs (Puts.numsB [k, f, t, h.n] ++ Puts.txs [h.r] ++ Puts.num n ++ Puts.num (x.length : Int) ++ Puts.txs x))) := o_e9
        clear hL_e hM_e
        have z9 : W8.heap.size ≤ W9.heap.size := b9.size
        have B9 : Hid (Below w.heap.size w W9) := B8.out.trans (b9.mono B8.out.size)
        have r_a9 : Hid (W9.heap[w.heap.size]? = some (.cells #[.int .i64 k, .int .i64 f, .int .i64 t, .int .i64 h.n, .string h.r, .int .i64 n, .slice ao0 x.length cap0] 28 (0, 0))) := rowKeep r_a8.out b9
        have o_d9 : Hid (Own W9 (W3.heap.size) (W8.heap.size) 5 (.slice ao_d L_d cap_d) (bs (Puts.numsB [k, f, t, h.n] ++ Puts.txs [h.r] ++ Puts.num n))) := Own.later o_d8.out b9 (by omega)
        have c_a9_0 : W9.cell? ⟨w.heap.size, 0, none⟩ = some (.int .i64 k) := row_at r_a9.out 0
        have c_a9_1 : W9.cell? ⟨w.heap.size, 1, none⟩ = some (.int .i64 f) := row_at r_a9.out 1
        have c_a9_2 : W9.cell? ⟨w.heap.size, 2, none⟩ = some (.int .i64 t) := row_at r_a9.out 2
        have c_a9_3 : W9.cell? ⟨w.heap.size, 3, none⟩ = some (.int .i64 h.n) := row_at r_a9.out 3
        have c_a9_4 : W9.cell? ⟨w.heap.size, 4, none⟩ = some (.string h.r) := row_at r_a9.out 4
        have c_a9_5 : W9.cell? ⟨w.heap.size, 5, none⟩ = some (.int .i64 n) := row_at r_a9.out 5
        have c_a9_6 : W9.cell? ⟨w.heap.size, 6, none⟩ = some (.slice ao0 x.length cap0) := row_at r_a9.out 6
        clear r_a8 c_a8_0 c_a8_1 c_a8_2 c_a8_3 c_a8_4 c_a8_5 c_a8_6 o_d8
        have f_n9 : Hid (W9.heap[W6.heap.size]? = some (.cells #[.int .i64 n] 3 (0, 0))) := rowLater f_n8.out b9
        clear f_n8
        (refine wpAnyH_take (i := 13) (v := ?v13x28) rfl (by kernel_rfl) (by kernel_rfl) (by kernel_rfl) (fun _ _ _ h => h) (Or.inl ⟨by rfl, ?hy13x28⟩) (by assumption) ?rest13x28; case hy13x28 => (intro w hSw; (try dsimp only at hSw); go_split_ands; go_simp; (try with_reducible rfl)))
        try simp only [Act.put, List.setIfInBounds_toArray, List.set_cons_zero, List.set_cons_succ, List.getElem_toArray, List.getElem_cons_zero, List.getElem_cons_succ]
        refine wpAnyH_done (by kernel_rfl) ?_ _
        clear hHeld
        have e8 : Puts.numsB [k, f, t, h.n] ++ Puts.txs [h.r] ++ Puts.num n ++ Puts.num (x.length : Int) ++ Puts.txs x = R := by rw [show R = bytesM ⟨k, f, t, h, n, x⟩ from HP.out]; unfold bytesM Puts.numsB; simp [Puts.txs, List.append_assoc]
        have o9 := o_e9.out
        rw [e8] at o9
        have HO9 : Hid _ := o9
        clear o9 e8
        go_wp2
        go_ret
        exact ⟨_, rfl, Own.mono HO9.out (by omega) (Nat.le_refl _), B9.out⟩
      · go_simp
        refine hK.out _ _ ⟨(keepR (W := W5) hHeld.1 ((Below.refl _ _).alloc (Nat.le_refl _) _)), (keepR (W := W5) hHeld.2.1 ((Below.refl _ _).alloc (Nat.le_refl _) _)), (keepR (W := W5) hHeld.2.2.1 ((Below.refl _ _).alloc (Nat.le_refl _) _)), (keepR (W := W5) hHeld.2.2.2.1 ((Below.refl _ _).alloc (Nat.le_refl _) _)), (keepR (W := W5) hHeld.2.2.2.2.1 ((Below.refl _ _).alloc (Nat.le_refl _) _)), (keepR (W := W5) hHeld.2.2.2.2.2.1 ((Below.refl _ _).alloc (Nat.le_refl _) _)), (keepR (W := W5) hHeld.2.2.2.2.2.2 ((Below.refl _ _).alloc (Nat.le_refl _) _))⟩ (fun hHeld => ?_)
        clear hK K
        try simp only [Act.put, List.setIfInBounds_toArray, List.set_cons_zero, List.set_cons_succ, List.getElem_toArray, List.getElem_cons_zero, List.getElem_cons_succ]
        obtain ⟨W6, HW6, b6, ff6⟩ : ∃ X, Hid ((W5.alloc (.cells #[.int .i64 n] 3)) = X) ∧ Below W5.heap.size W5 X ∧ Hid (X.heap[W5.heap.size]? = some (.cells #[.int .i64 n] 3 (0, 0))) := ⟨_, rfl, ((Below.refl _ _).alloc (Nat.le_refl _) _), Puts.new_row W5 _ _⟩
        have HHW6 := HW6.out
        rw [HHW6] at hHeld ⊢
        clear HHW6
        have z6 : W5.heap.size ≤ W6.heap.size := b6.size
        have B6 : Hid (Below w.heap.size w W6) := B5.out.trans (b6.mono B5.out.size)
        have r_a6 : Hid (W6.heap[w.heap.size]? = some (.cells #[.int .i64 k, .int .i64 f, .int .i64 t, .int .i64 h.n, .string h.r, .int .i64 n, .slice ao0 x.length cap0] 28 (0, 0))) := rowKeep r_a5.out b6
        have o_b6 : Hid (Own W6 (W3.heap.size) (W4.heap.size) 5 (.slice ao_b L_b cap_b) (bs (Puts.numsB [k, f, t, h.n]))) := Own.later o_b5.out b6 (by omega)
        have c_a6_0 : W6.cell? ⟨w.heap.size, 0, none⟩ = some (.int .i64 k) := row_at r_a6.out 0
        have c_a6_1 : W6.cell? ⟨w.heap.size, 1, none⟩ = some (.int .i64 f) := row_at r_a6.out 1
        have c_a6_2 : W6.cell? ⟨w.heap.size, 2, none⟩ = some (.int .i64 t) := row_at r_a6.out 2
        have c_a6_3 : W6.cell? ⟨w.heap.size, 3, none⟩ = some (.int .i64 h.n) := row_at r_a6.out 3
        have c_a6_4 : W6.cell? ⟨w.heap.size, 4, none⟩ = some (.string h.r) := row_at r_a6.out 4
        have c_a6_5 : W6.cell? ⟨w.heap.size, 5, none⟩ = some (.int .i64 n) := row_at r_a6.out 5
        have c_a6_6 : W6.cell? ⟨w.heap.size, 6, none⟩ = some (.slice ao0 x.length cap0) := row_at r_a6.out 6
        clear r_a5 c_a5_0 c_a5_1 c_a5_2 c_a5_3 c_a5_4 c_a5_5 c_a5_6 o_b5
        have f_t6 : Hid (Sl W6 (.slice (some ⟨W4.heap.size, 0, none⟩) 1 1) (ss [h.r])) := Sl.later f_t5.out b6
        clear f_t5
        have f_n6 : Hid (W6.heap[W5.heap.size]? = some (.cells #[.int .i64 n] 3 (0, 0))) := ff6.out
        clear ff6
        refine wpAnyH_ready (rs := [5]) (by kernel_rfl) (by simp) ?_
        refine AllReadyH.cons rfl (fun K hK => ?_) AllReadyH.nil
        go_simp
        refine (Puts.texts_keep W6 (W3.heap.size) _ (Puts.numsB [k, f, t, h.n]) _ [h.r] (Own.mono o_b6.out (Nat.le_refl _) (by omega)) (by omega) f_t6.out (fun _ _ h9 => by simp at h9) (by simp [Puts.txs]; omega) (by simp)).mono ?_
        rintro e W7 ⟨v_c, rfl, o_c7, q7, kr7⟩
        refine hK.out _ _ ⟨((q7.cell (p := ⟨w.heap.size, 0, none⟩) (by show w.heap.size < W3.heap.size; omega)).trans hHeld.1), ((q7.cell (p := ⟨w.heap.size, 1, none⟩) (by show w.heap.size < W3.heap.size; omega)).trans hHeld.2.1), ((q7.cell (p := ⟨w.heap.size, 2, none⟩) (by show w.heap.size < W3.heap.size; omega)).trans hHeld.2.2.1), ((q7.cell (p := ⟨w.heap.size, 3, none⟩) (by show w.heap.size < W3.heap.size; omega)).trans hHeld.2.2.2.1), ((q7.cell (p := ⟨w.heap.size, 4, none⟩) (by show w.heap.size < W3.heap.size; omega)).trans hHeld.2.2.2.2.1), ((q7.cell (p := ⟨w.heap.size, 5, none⟩) (by show w.heap.size < W3.heap.size; omega)).trans hHeld.2.2.2.2.2.1), ((q7.cell (p := ⟨w.heap.size, 6, none⟩) (by show w.heap.size < W3.heap.size; omega)).trans hHeld.2.2.2.2.2.2)⟩ (fun hHeld => ?_)
        clear hK K
        try simp only [Act.put, List.setIfInBounds_toArray, List.set_cons_zero, List.set_cons_succ, List.getElem_toArray, List.getElem_cons_zero, List.getElem_cons_succ]
        obtain ⟨ao_c, L_c, cap_c, rfl, _, _⟩ := Mem.Own.form o_c7
        have o_c7 : Hid (Own W7 (W3.heap.size) W7.heap.size 5 (.slice ao_c L_c cap_c) (bs (Puts.numsB [k, f, t, h.n] ++ Puts.txs [h.r]))) := o_c7
        have z7 : W6.heap.size ≤ W7.heap.size := q7.size
        have B7 : Hid (Below w.heap.size w W7) := B6.out.trans (q7.mono (by have := B6.out.size; omega))
        have r_a7 : Hid (W7.heap[w.heap.size]? = some (.cells #[.int .i64 k, .int .i64 f, .int .i64 t, .int .i64 h.n, .string h.r, .int .i64 n, .slice ao0 x.length cap0] 28 (0, 0))) := (q7.block (w.heap.size) (by omega)).trans r_a6.out
        have f_n7 : Hid (W7.heap[W5.heap.size]? = some (.cells #[.int .i64 n] 3 (0, 0))) := kr7 _ _ _ _ (by decide) f_n6.out
        have c_a7_0 : W7.cell? ⟨w.heap.size, 0, none⟩ = some (.int .i64 k) := row_at r_a7.out 0
        have c_a7_1 : W7.cell? ⟨w.heap.size, 1, none⟩ = some (.int .i64 f) := row_at r_a7.out 1
        have c_a7_2 : W7.cell? ⟨w.heap.size, 2, none⟩ = some (.int .i64 t) := row_at r_a7.out 2
        have c_a7_3 : W7.cell? ⟨w.heap.size, 3, none⟩ = some (.int .i64 h.n) := row_at r_a7.out 3
        have c_a7_4 : W7.cell? ⟨w.heap.size, 4, none⟩ = some (.string h.r) := row_at r_a7.out 4
        have c_a7_5 : W7.cell? ⟨w.heap.size, 5, none⟩ = some (.int .i64 n) := row_at r_a7.out 5
        have c_a7_6 : W7.cell? ⟨w.heap.size, 6, none⟩ = some (.slice ao0 x.length cap0) := row_at r_a7.out 6
        clear r_a6 c_a6_0 c_a6_1 c_a6_2 c_a6_3 c_a6_4 c_a6_5 c_a6_6 o_b6
        clear f_t6
        clear f_n6
        clear q7 kr7
        refine wpAnyH_ready (rs := [9]) (by kernel_rfl) (by simp) ?_
        refine AllReadyH.cons rfl (fun K hK => ?_) AllReadyH.nil
        go_simp
        refine (Puts.nums_keep1 W7 (W3.heap.size) _ (Puts.numsB [k, f, t, h.n] ++ Puts.txs [h.r]) _ n (Own.mono o_c7.out (Nat.le_refl _) (by omega)) (Array.getElem?_eq_some_iff.1 f_n7.out).1 (by omega) (by simp [Puts.txs]; omega) f_n7.out).mono ?_
        rintro e W8 ⟨v_d, rfl, o_d8, q8, kr8⟩
        refine hK.out _ _ ⟨((q8.cell (p := ⟨w.heap.size, 0, none⟩) (by show w.heap.size < W3.heap.size; omega)).trans hHeld.1), ((q8.cell (p := ⟨w.heap.size, 1, none⟩) (by show w.heap.size < W3.heap.size; omega)).trans hHeld.2.1), ((q8.cell (p := ⟨w.heap.size, 2, none⟩) (by show w.heap.size < W3.heap.size; omega)).trans hHeld.2.2.1), ((q8.cell (p := ⟨w.heap.size, 3, none⟩) (by show w.heap.size < W3.heap.size; omega)).trans hHeld.2.2.2.1), ((q8.cell (p := ⟨w.heap.size, 4, none⟩) (by show w.heap.size < W3.heap.size; omega)).trans hHeld.2.2.2.2.1), ((q8.cell (p := ⟨w.heap.size, 5, none⟩) (by show w.heap.size < W3.heap.size; omega)).trans hHeld.2.2.2.2.2.1), ((q8.cell (p := ⟨w.heap.size, 6, none⟩) (by show w.heap.size < W3.heap.size; omega)).trans hHeld.2.2.2.2.2.2)⟩ (fun hHeld => ?_)
        clear hK K
        try simp only [Act.put, List.setIfInBounds_toArray, List.set_cons_zero, List.set_cons_succ, List.getElem_toArray, List.getElem_cons_zero, List.getElem_cons_succ]
        obtain ⟨ao_d, L_d, cap_d, rfl, _, _⟩ := Mem.Own.form o_d8
        have o_d8 : Hid (Own W8 (W3.heap.size) W8.heap.size 5 (.slice ao_d L_d cap_d) (bs (Puts.numsB [k, f, t, h.n] ++ Puts.txs [h.r] ++ Puts.num n))) := o_d8
        have z8 : W7.heap.size ≤ W8.heap.size := q8.size
        have B8 : Hid (Below w.heap.size w W8) := B7.out.trans (q8.mono (by have := B7.out.size; omega))
        have r_a8 : Hid (W8.heap[w.heap.size]? = some (.cells #[.int .i64 k, .int .i64 f, .int .i64 t, .int .i64 h.n, .string h.r, .int .i64 n, .slice ao0 x.length cap0] 28 (0, 0))) := (q8.block (w.heap.size) (by omega)).trans r_a7.out
        have f_n8 : Hid (W8.heap[W5.heap.size]? = some (.cells #[.int .i64 n] 3 (0, 0))) := kr8 _ _ _ _ (by decide) f_n7.out
        have c_a8_0 : W8.cell? ⟨w.heap.size, 0, none⟩ = some (.int .i64 k) := row_at r_a8.out 0
        have c_a8_1 : W8.cell? ⟨w.heap.size, 1, none⟩ = some (.int .i64 f) := row_at r_a8.out 1
        have c_a8_2 : W8.cell? ⟨w.heap.size, 2, none⟩ = some (.int .i64 t) := row_at r_a8.out 2
        have c_a8_3 : W8.cell? ⟨w.heap.size, 3, none⟩ = some (.int .i64 h.n) := row_at r_a8.out 3
        have c_a8_4 : W8.cell? ⟨w.heap.size, 4, none⟩ = some (.string h.r) := row_at r_a8.out 4
        have c_a8_5 : W8.cell? ⟨w.heap.size, 5, none⟩ = some (.int .i64 n) := row_at r_a8.out 5
        have c_a8_6 : W8.cell? ⟨w.heap.size, 6, none⟩ = some (.slice ao0 x.length cap0) := row_at r_a8.out 6
        clear r_a7 c_a7_0 c_a7_1 c_a7_2 c_a7_3 c_a7_4 c_a7_5 c_a7_6 o_c7
        clear f_n7
        clear q8 kr8
        refine wpAnyH_ready (rs := [12]) (by kernel_rfl) (by simp) ?_
        refine AllReadyH.cons rfl (fun K hK => ?_) AllReadyH.nil
        go_simp
        refine (Puts.putts_impl W8 _ _ (Puts.numsB [k, f, t, h.n] ++ Puts.txs [h.r] ++ Puts.num n) x o_d8.out.sl (HS.out.later B8.out) (by have := HT.out; simp only [Puts.txs, List.append_nil, List.length_append]; omega) (by omega)).mono ?_
        rintro e W9 ⟨v_e, rfl, o_e9, b9⟩
        refine hK.out _ _ ⟨(keepR (W := W8) hHeld.1 b9), (keepR (W := W8) hHeld.2.1 b9), (keepR (W := W8) hHeld.2.2.1 b9), (keepR (W := W8) hHeld.2.2.2.1 b9), (keepR (W := W8) hHeld.2.2.2.2.1 b9), (keepR (W := W8) hHeld.2.2.2.2.2.1 b9), (keepR (W := W8) hHeld.2.2.2.2.2.2 b9)⟩ (fun hHeld => ?_)
        clear hK K
        try simp only [Act.put, List.setIfInBounds_toArray, List.set_cons_zero, List.set_cons_succ, List.getElem_toArray, List.getElem_cons_zero, List.getElem_cons_succ]
        obtain ⟨ao_e, L_e, cap_e, rfl, hL_e, hM_e⟩ := o_e9.form
        have o_e9 : Hid (Own W9 W8.heap.size W9.heap.size 5 (.slice ao_e L_e cap_e) (bs (Puts.numsB [k, f, t, h.n] ++ Puts.txs [h.r] ++ Puts.num n ++ Puts.num (x.length : Int) ++ Puts.txs x))) := o_e9
        clear hL_e hM_e
        have z9 : W8.heap.size ≤ W9.heap.size := b9.size
        have B9 : Hid (Below w.heap.size w W9) := B8.out.trans (b9.mono B8.out.size)
        have r_a9 : Hid (W9.heap[w.heap.size]? = some (.cells #[.int .i64 k, .int .i64 f, .int .i64 t, .int .i64 h.n, .string h.r, .int .i64 n, .slice ao0 x.length cap0] 28 (0, 0))) := rowKeep r_a8.out b9
        have o_d9 : Hid (Own W9 (W3.heap.size) (W8.heap.size) 5 (.slice ao_d L_d cap_d) (bs (Puts.numsB [k, f, t, h.n] ++ Puts.txs [h.r] ++ Puts.num n))) := Own.later o_d8.out b9 (by omega)
        have c_a9_0 : W9.cell? ⟨w.heap.size, 0, none⟩ = some (.int .i64 k) := row_at r_a9.out 0
        have c_a9_1 : W9.cell? ⟨w.heap.size, 1, none⟩ = some (.int .i64 f) := row_at r_a9.out 1
        have c_a9_2 : W9.cell? ⟨w.heap.size, 2, none⟩ = some (.int .i64 t) := row_at r_a9.out 2
        have c_a9_3 : W9.cell? ⟨w.heap.size, 3, none⟩ = some (.int .i64 h.n) := row_at r_a9.out 3
        have c_a9_4 : W9.cell? ⟨w.heap.size, 4, none⟩ = some (.string h.r) := row_at r_a9.out 4
        have c_a9_5 : W9.cell? ⟨w.heap.size, 5, none⟩ = some (.int .i64 n) := row_at r_a9.out 5
        have c_a9_6 : W9.cell? ⟨w.heap.size, 6, none⟩ = some (.slice ao0 x.length cap0) := row_at r_a9.out 6
        clear r_a8 c_a8_0 c_a8_1 c_a8_2 c_a8_3 c_a8_4 c_a8_5 c_a8_6 o_d8
        have f_n9 : Hid (W9.heap[W5.heap.size]? = some (.cells #[.int .i64 n] 3 (0, 0))) := rowLater f_n8.out b9
        clear f_n8
        (refine wpAnyH_take (i := 13) (v := ?v13x29) rfl (by kernel_rfl) (by kernel_rfl) (by kernel_rfl) (fun _ _ _ h => h) (Or.inl ⟨by rfl, ?hy13x29⟩) (by assumption) ?rest13x29; case hy13x29 => (intro w hSw; (try dsimp only at hSw); go_split_ands; go_simp; (try with_reducible rfl)))
        try simp only [Act.put, List.setIfInBounds_toArray, List.set_cons_zero, List.set_cons_succ, List.getElem_toArray, List.getElem_cons_zero, List.getElem_cons_succ]
        refine wpAnyH_done (by kernel_rfl) ?_ _
        clear hHeld
        have e8 : Puts.numsB [k, f, t, h.n] ++ Puts.txs [h.r] ++ Puts.num n ++ Puts.num (x.length : Int) ++ Puts.txs x = R := by rw [show R = bytesM ⟨k, f, t, h, n, x⟩ from HP.out]; unfold bytesM Puts.numsB; simp [Puts.txs, List.append_assoc]
        have o9 := o_e9.out
        rw [e8] at o9
        have HO9 : Hid _ := o9
        clear o9 e8
        go_wp2
        go_ret
        exact ⟨_, rfl, Own.mono HO9.out (by omega) (Nat.le_refl _), B9.out⟩
    · go_simp
      refine hK.out _ _ ⟨(keepR (W := W4.drew) hHeld.1 ((Below.refl _ _).alloc (Nat.le_refl _) _)), (keepR (W := W4.drew) hHeld.2.1 ((Below.refl _ _).alloc (Nat.le_refl _) _)), (keepR (W := W4.drew) hHeld.2.2.1 ((Below.refl _ _).alloc (Nat.le_refl _) _)), (keepR (W := W4.drew) hHeld.2.2.2.1 ((Below.refl _ _).alloc (Nat.le_refl _) _)), (keepR (W := W4.drew) hHeld.2.2.2.2.1 ((Below.refl _ _).alloc (Nat.le_refl _) _)), (keepR (W := W4.drew) hHeld.2.2.2.2.2.1 ((Below.refl _ _).alloc (Nat.le_refl _) _)), (keepR (W := W4.drew) hHeld.2.2.2.2.2.2 ((Below.refl _ _).alloc (Nat.le_refl _) _))⟩ (fun hHeld => ?_)
      clear hK K
      try simp only [Act.put, List.setIfInBounds_toArray, List.set_cons_zero, List.set_cons_succ, List.getElem_toArray, List.getElem_cons_zero, List.getElem_cons_succ]
      obtain ⟨W5, HW5, b5, ff5⟩ : ∃ X, Hid ((W4.alloc (.cells #[.int .i64 n] 3)).drew = X) ∧ Below W4.heap.size W4 X ∧ Hid (X.heap[W4.heap.size]? = some (.cells #[.int .i64 n] 3 (0, 0))) := ⟨_, rfl, (Below.drew ((Below.refl _ _).alloc (Nat.le_refl _) _)), Puts.new_row W4 _ _⟩
      have HHW5 := HW5.out
      rw [HHW5] at hHeld ⊢
      clear HHW5
      have z5 : W4.heap.size ≤ W5.heap.size := b5.size
      have B5 : Hid (Below w.heap.size w W5) := B4.out.trans (b5.mono B4.out.size)
      have r_a5 : Hid (W5.heap[w.heap.size]? = some (.cells #[.int .i64 k, .int .i64 f, .int .i64 t, .int .i64 h.n, .string h.r, .int .i64 n, .slice ao0 x.length cap0] 28 (0, 0))) := rowKeep r_a4.out b5
      have o_b5 : Hid (Own W5 (W3.heap.size) (W4.heap.size) 5 (.slice ao_b L_b cap_b) (bs (Puts.numsB [k, f, t, h.n]))) := Own.later o_b4.out b5 (by omega)
      have c_a5_0 : W5.cell? ⟨w.heap.size, 0, none⟩ = some (.int .i64 k) := row_at r_a5.out 0
      have c_a5_1 : W5.cell? ⟨w.heap.size, 1, none⟩ = some (.int .i64 f) := row_at r_a5.out 1
      have c_a5_2 : W5.cell? ⟨w.heap.size, 2, none⟩ = some (.int .i64 t) := row_at r_a5.out 2
      have c_a5_3 : W5.cell? ⟨w.heap.size, 3, none⟩ = some (.int .i64 h.n) := row_at r_a5.out 3
      have c_a5_4 : W5.cell? ⟨w.heap.size, 4, none⟩ = some (.string h.r) := row_at r_a5.out 4
      have c_a5_5 : W5.cell? ⟨w.heap.size, 5, none⟩ = some (.int .i64 n) := row_at r_a5.out 5
      have c_a5_6 : W5.cell? ⟨w.heap.size, 6, none⟩ = some (.slice ao0 x.length cap0) := row_at r_a5.out 6
      clear r_a4 c_a4_0 c_a4_1 c_a4_2 c_a4_3 c_a4_4 c_a4_5 c_a4_6 o_b4
      have f_n5 : Hid (W5.heap[W4.heap.size]? = some (.cells #[.int .i64 n] 3 (0, 0))) := ff5.out
      clear ff5
      refine wpAnyH_ready (rs := [4]) (by kernel_rfl) (by simp) ?_
      refine AllReadyH.cons rfl (fun K hK => ?_) AllReadyH.nil
      go_simp
      refine hK.out _ _ ⟨(keepR (W := W5) hHeld.1 ((Below.refl _ _).alloc (Nat.le_refl _) _)), (keepR (W := W5) hHeld.2.1 ((Below.refl _ _).alloc (Nat.le_refl _) _)), (keepR (W := W5) hHeld.2.2.1 ((Below.refl _ _).alloc (Nat.le_refl _) _)), (keepR (W := W5) hHeld.2.2.2.1 ((Below.refl _ _).alloc (Nat.le_refl _) _)), (keepR (W := W5) hHeld.2.2.2.2.1 ((Below.refl _ _).alloc (Nat.le_refl _) _)), (keepR (W := W5) hHeld.2.2.2.2.2.1 ((Below.refl _ _).alloc (Nat.le_refl _) _)), (keepR (W := W5) hHeld.2.2.2.2.2.2 ((Below.refl _ _).alloc (Nat.le_refl _) _))⟩ (fun hHeld => ?_)
      clear hK K
      try simp only [Act.put, List.setIfInBounds_toArray, List.set_cons_zero, List.set_cons_succ, List.getElem_toArray, List.getElem_cons_zero, List.getElem_cons_succ]
      obtain ⟨W6, HW6, b6, ff6⟩ : ∃ X, Hid ((W5.alloc (.cells #[.string h.r] 9)) = X) ∧ Below W5.heap.size W5 X ∧ Hid (Sl X (.slice (some ⟨W5.heap.size, 0, none⟩) 1 1) (ss [h.r])) := ⟨_, rfl, ((Below.refl _ _).alloc (Nat.le_refl _) _), Puts.Sl.oneStr W5 _ _⟩
      have HHW6 := HW6.out
      rw [HHW6] at hHeld ⊢
      clear HHW6
      have z6 : W5.heap.size ≤ W6.heap.size := b6.size
      have B6 : Hid (Below w.heap.size w W6) := B5.out.trans (b6.mono B5.out.size)
      have r_a6 : Hid (W6.heap[w.heap.size]? = some (.cells #[.int .i64 k, .int .i64 f, .int .i64 t, .int .i64 h.n, .string h.r, .int .i64 n, .slice ao0 x.length cap0] 28 (0, 0))) := rowKeep r_a5.out b6
      have o_b6 : Hid (Own W6 (W3.heap.size) (W4.heap.size) 5 (.slice ao_b L_b cap_b) (bs (Puts.numsB [k, f, t, h.n]))) := Own.later o_b5.out b6 (by omega)
      have c_a6_0 : W6.cell? ⟨w.heap.size, 0, none⟩ = some (.int .i64 k) := row_at r_a6.out 0
      have c_a6_1 : W6.cell? ⟨w.heap.size, 1, none⟩ = some (.int .i64 f) := row_at r_a6.out 1
      have c_a6_2 : W6.cell? ⟨w.heap.size, 2, none⟩ = some (.int .i64 t) := row_at r_a6.out 2
      have c_a6_3 : W6.cell? ⟨w.heap.size, 3, none⟩ = some (.int .i64 h.n) := row_at r_a6.out 3
      have c_a6_4 : W6.cell? ⟨w.heap.size, 4, none⟩ = some (.string h.r) := row_at r_a6.out 4
      have c_a6_5 : W6.cell? ⟨w.heap.size, 5, none⟩ = some (.int .i64 n) := row_at r_a6.out 5
      have c_a6_6 : W6.cell? ⟨w.heap.size, 6, none⟩ = some (.slice ao0 x.length cap0) := row_at r_a6.out 6
      clear r_a5 c_a5_0 c_a5_1 c_a5_2 c_a5_3 c_a5_4 c_a5_5 c_a5_6 o_b5
      have f_n6 : Hid (W6.heap[W4.heap.size]? = some (.cells #[.int .i64 n] 3 (0, 0))) := rowLater f_n5.out b6
      clear f_n5
      have f_t6 : Hid (Sl W6 (.slice (some ⟨W5.heap.size, 0, none⟩) 1 1) (ss [h.r])) := ff6.out
      clear ff6
      refine wpAnyH_ready (rs := [5]) (by kernel_rfl) (by simp) ?_
      refine AllReadyH.cons rfl (fun K hK => ?_) AllReadyH.nil
      go_simp
      refine (Puts.texts_keep W6 (W3.heap.size) _ (Puts.numsB [k, f, t, h.n]) _ [h.r] (Own.mono o_b6.out (Nat.le_refl _) (by omega)) (by omega) f_t6.out (fun _ _ h9 => by simp at h9) (by simp [Puts.txs]; omega) (by simp)).mono ?_
      rintro e W7 ⟨v_c, rfl, o_c7, q7, kr7⟩
      refine hK.out _ _ ⟨((q7.cell (p := ⟨w.heap.size, 0, none⟩) (by show w.heap.size < W3.heap.size; omega)).trans hHeld.1), ((q7.cell (p := ⟨w.heap.size, 1, none⟩) (by show w.heap.size < W3.heap.size; omega)).trans hHeld.2.1), ((q7.cell (p := ⟨w.heap.size, 2, none⟩) (by show w.heap.size < W3.heap.size; omega)).trans hHeld.2.2.1), ((q7.cell (p := ⟨w.heap.size, 3, none⟩) (by show w.heap.size < W3.heap.size; omega)).trans hHeld.2.2.2.1), ((q7.cell (p := ⟨w.heap.size, 4, none⟩) (by show w.heap.size < W3.heap.size; omega)).trans hHeld.2.2.2.2.1), ((q7.cell (p := ⟨w.heap.size, 5, none⟩) (by show w.heap.size < W3.heap.size; omega)).trans hHeld.2.2.2.2.2.1), ((q7.cell (p := ⟨w.heap.size, 6, none⟩) (by show w.heap.size < W3.heap.size; omega)).trans hHeld.2.2.2.2.2.2)⟩ (fun hHeld => ?_)
      clear hK K
      try simp only [Act.put, List.setIfInBounds_toArray, List.set_cons_zero, List.set_cons_succ, List.getElem_toArray, List.getElem_cons_zero, List.getElem_cons_succ]
      obtain ⟨ao_c, L_c, cap_c, rfl, _, _⟩ := Mem.Own.form o_c7
      have o_c7 : Hid (Own W7 (W3.heap.size) W7.heap.size 5 (.slice ao_c L_c cap_c) (bs (Puts.numsB [k, f, t, h.n] ++ Puts.txs [h.r]))) := o_c7
      have z7 : W6.heap.size ≤ W7.heap.size := q7.size
      have B7 : Hid (Below w.heap.size w W7) := B6.out.trans (q7.mono (by have := B6.out.size; omega))
      have r_a7 : Hid (W7.heap[w.heap.size]? = some (.cells #[.int .i64 k, .int .i64 f, .int .i64 t, .int .i64 h.n, .string h.r, .int .i64 n, .slice ao0 x.length cap0] 28 (0, 0))) := (q7.block (w.heap.size) (by omega)).trans r_a6.out
      have f_n7 : Hid (W7.heap[W4.heap.size]? = some (.cells #[.int .i64 n] 3 (0, 0))) := kr7 _ _ _ _ (by decide) f_n6.out
      have c_a7_0 : W7.cell? ⟨w.heap.size, 0, none⟩ = some (.int .i64 k) := row_at r_a7.out 0
      have c_a7_1 : W7.cell? ⟨w.heap.size, 1, none⟩ = some (.int .i64 f) := row_at r_a7.out 1
      have c_a7_2 : W7.cell? ⟨w.heap.size, 2, none⟩ = some (.int .i64 t) := row_at r_a7.out 2
      have c_a7_3 : W7.cell? ⟨w.heap.size, 3, none⟩ = some (.int .i64 h.n) := row_at r_a7.out 3
      have c_a7_4 : W7.cell? ⟨w.heap.size, 4, none⟩ = some (.string h.r) := row_at r_a7.out 4
      have c_a7_5 : W7.cell? ⟨w.heap.size, 5, none⟩ = some (.int .i64 n) := row_at r_a7.out 5
      have c_a7_6 : W7.cell? ⟨w.heap.size, 6, none⟩ = some (.slice ao0 x.length cap0) := row_at r_a7.out 6
      clear r_a6 c_a6_0 c_a6_1 c_a6_2 c_a6_3 c_a6_4 c_a6_5 c_a6_6 o_b6
      clear f_n6
      clear f_t6
      clear q7 kr7
      refine wpAnyH_ready (rs := [9]) (by kernel_rfl) (by simp) ?_
      refine AllReadyH.cons rfl (fun K hK => ?_) AllReadyH.nil
      go_simp
      refine (Puts.nums_keep1 W7 (W3.heap.size) _ (Puts.numsB [k, f, t, h.n] ++ Puts.txs [h.r]) _ n (Own.mono o_c7.out (Nat.le_refl _) (by omega)) (Array.getElem?_eq_some_iff.1 f_n7.out).1 (by omega) (by simp [Puts.txs]; omega) f_n7.out).mono ?_
      rintro e W8 ⟨v_d, rfl, o_d8, q8, kr8⟩
      refine hK.out _ _ ⟨((q8.cell (p := ⟨w.heap.size, 0, none⟩) (by show w.heap.size < W3.heap.size; omega)).trans hHeld.1), ((q8.cell (p := ⟨w.heap.size, 1, none⟩) (by show w.heap.size < W3.heap.size; omega)).trans hHeld.2.1), ((q8.cell (p := ⟨w.heap.size, 2, none⟩) (by show w.heap.size < W3.heap.size; omega)).trans hHeld.2.2.1), ((q8.cell (p := ⟨w.heap.size, 3, none⟩) (by show w.heap.size < W3.heap.size; omega)).trans hHeld.2.2.2.1), ((q8.cell (p := ⟨w.heap.size, 4, none⟩) (by show w.heap.size < W3.heap.size; omega)).trans hHeld.2.2.2.2.1), ((q8.cell (p := ⟨w.heap.size, 5, none⟩) (by show w.heap.size < W3.heap.size; omega)).trans hHeld.2.2.2.2.2.1), ((q8.cell (p := ⟨w.heap.size, 6, none⟩) (by show w.heap.size < W3.heap.size; omega)).trans hHeld.2.2.2.2.2.2)⟩ (fun hHeld => ?_)
      clear hK K
      try simp only [Act.put, List.setIfInBounds_toArray, List.set_cons_zero, List.set_cons_succ, List.getElem_toArray, List.getElem_cons_zero, List.getElem_cons_succ]
      obtain ⟨ao_d, L_d, cap_d, rfl, _, _⟩ := Mem.Own.form o_d8
      have o_d8 : Hid (Own W8 (W3.heap.size) W8.heap.size 5 (.slice ao_d L_d cap_d) (bs (Puts.numsB [k, f, t, h.n] ++ Puts.txs [h.r] ++ Puts.num n))) := o_d8
      have z8 : W7.heap.size ≤ W8.heap.size := q8.size
      have B8 : Hid (Below w.heap.size w W8) := B7.out.trans (q8.mono (by have := B7.out.size; omega))
      have r_a8 : Hid (W8.heap[w.heap.size]? = some (.cells #[.int .i64 k, .int .i64 f, .int .i64 t, .int .i64 h.n, .string h.r, .int .i64 n, .slice ao0 x.length cap0] 28 (0, 0))) := (q8.block (w.heap.size) (by omega)).trans r_a7.out
      have f_n8 : Hid (W8.heap[W4.heap.size]? = some (.cells #[.int .i64 n] 3 (0, 0))) := kr8 _ _ _ _ (by decide) f_n7.out
      have c_a8_0 : W8.cell? ⟨w.heap.size, 0, none⟩ = some (.int .i64 k) := row_at r_a8.out 0
      have c_a8_1 : W8.cell? ⟨w.heap.size, 1, none⟩ = some (.int .i64 f) := row_at r_a8.out 1
      have c_a8_2 : W8.cell? ⟨w.heap.size, 2, none⟩ = some (.int .i64 t) := row_at r_a8.out 2
      have c_a8_3 : W8.cell? ⟨w.heap.size, 3, none⟩ = some (.int .i64 h.n) := row_at r_a8.out 3
      have c_a8_4 : W8.cell? ⟨w.heap.size, 4, none⟩ = some (.string h.r) := row_at r_a8.out 4
      have c_a8_5 : W8.cell? ⟨w.heap.size, 5, none⟩ = some (.int .i64 n) := row_at r_a8.out 5
      have c_a8_6 : W8.cell? ⟨w.heap.size, 6, none⟩ = some (.slice ao0 x.length cap0) := row_at r_a8.out 6
      clear r_a7 c_a7_0 c_a7_1 c_a7_2 c_a7_3 c_a7_4 c_a7_5 c_a7_6 o_c7
      clear f_n7
      clear q8 kr8
      refine wpAnyH_ready (rs := [12]) (by kernel_rfl) (by simp) ?_
      refine AllReadyH.cons rfl (fun K hK => ?_) AllReadyH.nil
      go_simp
      refine (Puts.putts_impl W8 _ _ (Puts.numsB [k, f, t, h.n] ++ Puts.txs [h.r] ++ Puts.num n) x o_d8.out.sl (HS.out.later B8.out) (by have := HT.out; simp only [Puts.txs, List.append_nil, List.length_append]; omega) (by omega)).mono ?_
      rintro e W9 ⟨v_e, rfl, o_e9, b9⟩
      refine hK.out _ _ ⟨(keepR (W := W8) hHeld.1 b9), (keepR (W := W8) hHeld.2.1 b9), (keepR (W := W8) hHeld.2.2.1 b9), (keepR (W := W8) hHeld.2.2.2.1 b9), (keepR (W := W8) hHeld.2.2.2.2.1 b9), (keepR (W := W8) hHeld.2.2.2.2.2.1 b9), (keepR (W := W8) hHeld.2.2.2.2.2.2 b9)⟩ (fun hHeld => ?_)
      clear hK K
      try simp only [Act.put, List.setIfInBounds_toArray, List.set_cons_zero, List.set_cons_succ, List.getElem_toArray, List.getElem_cons_zero, List.getElem_cons_succ]
      obtain ⟨ao_e, L_e, cap_e, rfl, hL_e, hM_e⟩ := o_e9.form
      have o_e9 : Hid (Own W9 W8.heap.size W9.heap.size 5 (.slice ao_e L_e cap_e) (bs (Puts.numsB [k, f, t, h.n] ++ Puts.txs [h.r] ++ Puts.num n ++ Puts.num (x.length : Int) ++ Puts.txs x))) := o_e9
      clear hL_e hM_e
      have z9 : W8.heap.size ≤ W9.heap.size := b9.size
      have B9 : Hid (Below w.heap.size w W9) := B8.out.trans (b9.mono B8.out.size)
      have r_a9 : Hid (W9.heap[w.heap.size]? = some (.cells #[.int .i64 k, .int .i64 f, .int .i64 t, .int .i64 h.n, .string h.r, .int .i64 n, .slice ao0 x.length cap0] 28 (0, 0))) := rowKeep r_a8.out b9
      have o_d9 : Hid (Own W9 (W3.heap.size) (W8.heap.size) 5 (.slice ao_d L_d cap_d) (bs (Puts.numsB [k, f, t, h.n] ++ Puts.txs [h.r] ++ Puts.num n))) := Own.later o_d8.out b9 (by omega)
      have c_a9_0 : W9.cell? ⟨w.heap.size, 0, none⟩ = some (.int .i64 k) := row_at r_a9.out 0
      have c_a9_1 : W9.cell? ⟨w.heap.size, 1, none⟩ = some (.int .i64 f) := row_at r_a9.out 1
      have c_a9_2 : W9.cell? ⟨w.heap.size, 2, none⟩ = some (.int .i64 t) := row_at r_a9.out 2
      have c_a9_3 : W9.cell? ⟨w.heap.size, 3, none⟩ = some (.int .i64 h.n) := row_at r_a9.out 3
      have c_a9_4 : W9.cell? ⟨w.heap.size, 4, none⟩ = some (.string h.r) := row_at r_a9.out 4
      have c_a9_5 : W9.cell? ⟨w.heap.size, 5, none⟩ = some (.int .i64 n) := row_at r_a9.out 5
      have c_a9_6 : W9.cell? ⟨w.heap.size, 6, none⟩ = some (.slice ao0 x.length cap0) := row_at r_a9.out 6
      clear r_a8 c_a8_0 c_a8_1 c_a8_2 c_a8_3 c_a8_4 c_a8_5 c_a8_6 o_d8
      have f_n9 : Hid (W9.heap[W4.heap.size]? = some (.cells #[.int .i64 n] 3 (0, 0))) := rowLater f_n8.out b9
      clear f_n8
      (refine wpAnyH_take (i := 13) (v := ?v13x30) rfl (by kernel_rfl) (by kernel_rfl) (by kernel_rfl) (fun _ _ _ h => h) (Or.inl ⟨by rfl, ?hy13x30⟩) (by assumption) ?rest13x30; case hy13x30 => (intro w hSw; (try dsimp only at hSw); go_split_ands; go_simp; (try with_reducible rfl)))
      try simp only [Act.put, List.setIfInBounds_toArray, List.set_cons_zero, List.set_cons_succ, List.getElem_toArray, List.getElem_cons_zero, List.getElem_cons_succ]
      refine wpAnyH_done (by kernel_rfl) ?_ _
      clear hHeld
      have e8 : Puts.numsB [k, f, t, h.n] ++ Puts.txs [h.r] ++ Puts.num n ++ Puts.num (x.length : Int) ++ Puts.txs x = R := by rw [show R = bytesM ⟨k, f, t, h, n, x⟩ from HP.out]; unfold bytesM Puts.numsB; simp [Puts.txs, List.append_assoc]
      have o9 := o_e9.out
      rw [e8] at o9
      have HO9 : Hid _ := o9
      clear o9 e8
      go_wp2
      go_ret
      exact ⟨_, rfl, Own.mono HO9.out (by omega) (Nat.le_refl _), B9.out⟩

end Go.Proofs.Yteemblfjghnooaa.Wd
