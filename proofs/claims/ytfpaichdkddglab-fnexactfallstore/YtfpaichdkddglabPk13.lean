/- Texts in one: SrJ. -/
import Derived.Test.YtfpaichdkddglabPk12
import Derived.Deep.DeepCutAuto
/- Chapter 12: what a crash leaves: the specification's side; the exact law over a contract of the landed function. -/
namespace Go.Proofs.Ytfpaichdkddglab.Sr
open Go.RowKit Go.Proofs.Ytfpaichdkddglab.Mem Go.Proofs.Ytfpaichdkddglab.Laws Go.Proofs.Ytfpaichdkddglab.Bytes Go.Proofs.Ytfpaichdkddglab.Sha Go.Proofs.Ytfpaichdkddglab.Tr Go.Proofs.Ytfpaichdkddglab.He Go.Proofs.Ytfpaichdkddglab.Lg
set_option linter.unusedVariables false
set_option linter.unusedSimpArgs false

theorem tot_mem : ∀ (l : List ByteArray) (s : ByteArray), s ∈ l → s.size ≤ Puts.tot l := by
  intro l
  induction l with
  | nil => intro s h; cases h
  | cons a r ih =>
    intro s h
    simp only [Puts.tot]
    rcases List.mem_cons.1 h with rfl | h
    · omega
    · have := ih s h; omega

set_option maxRecDepth 1000000 in
set_option maxHeartbeats 16000000 in
theorem fall_spec (w : World) (v vb : Value) (l : List ByteArray) (h : Hd) (b : List Int) (s keep : Int) (hs : Sl w v (ss l)) (hb : Sl w vb (bs b)) (hbl : b.length ≤ 1000000000) (hs1 : -9223372036854775808 ≤ s) (hs2 : s ≤ 9223372036854775807) (hk1 : -9223372036854775808 ≤ keep) (hk2 : keep ≤ 9223372036854775807) :
    Calls Try.prog 5 #[.agg #[v, .int .i64 h.n, .string h.r, vb, .int .i64 s], .int .i64 keep] w fun e w' => ∃ v', e = .returned v' ∧ Own w' w.heap.size w'.heap.size 5 v' (bs (b.take (fallN ⟨l, h, b, s⟩ keep))) ∧ Below w.heap.size w w' := by
  have HSB : Hid (Sl w vb (bs b)) := hb
  obtain ⟨ao0, cap0, rfl, hc0⟩ := hs.form
  obtain ⟨ao1, cap1, rfl, hc1⟩ := hb.form
  simp only [ss_len, bs_len] at *
  clear hs hb
  have B0 : Hid (Below w.heap.size w w) := Below.refl _ _
  obtain ⟨i5, hi5, hz5a, hz5b, hz5c⟩ := info_parts info5
  obtain ⟨W1, HW1, b1, y1, hS1, r_a1⟩ : ∃ X, Hid ((w.alloc (.cells #[.slice ao0 l.length cap0, .int .i64 h.n, .string h.r, .slice ao1 b.length cap1, .int .i64 s] 36)) = X) ∧ Below w.heap.size w X ∧ w.heap.size + 1 ≤ X.heap.size ∧ Hid (X.heap.size = w.heap.size + 1) ∧ Hid (X.heap[w.heap.size]? = some (.cells #[.slice ao0 l.length cap0, .int .i64 h.n, .string h.r, .slice ao1 b.length cap1, .int .i64 s] 36 (0, 0))) := ⟨_, rfl, ((Below.refl _ _).alloc (Nat.le_refl _) _), by simp, by show _ = _; simp, (by show _ = _; exact alloc_nth1_0 w _)⟩
  have z1 : w.heap.size ≤ W1.heap.size := b1.size
  have B1 : Hid (Below w.heap.size w W1) := B0.out.trans (b1.mono B0.out.size)
  have c_a1_0 : W1.cell? ⟨w.heap.size, 0, none⟩ = some (.slice ao0 l.length cap0) := row_at r_a1.out 0
  have c_a1_1 : W1.cell? ⟨w.heap.size, 1, none⟩ = some (.int .i64 h.n) := row_at r_a1.out 1
  have c_a1_2 : W1.cell? ⟨w.heap.size, 2, none⟩ = some (.string h.r) := row_at r_a1.out 2
  have c_a1_3 : W1.cell? ⟨w.heap.size, 3, none⟩ = some (.slice ao1 b.length cap1) := row_at r_a1.out 3
  have c_a1_4 : W1.cell? ⟨w.heap.size, 4, none⟩ = some (.int .i64 s) := row_at r_a1.out 4
  obtain ⟨K, hK⟩ : ∃ K, fallN ⟨l, h, b, s⟩ keep = K := ⟨_, rfl⟩
  rw [hK]
  unfold fallN at hK
  simp only at hK
  by_cases hs0 : s < 0
  · by_cases hk0 : 0 < keep
    · by_cases hk1 : (b.length : Int) - 0 < keep
      · have hKK : K = b.length := by omega
        have HKK : Hid (K = b.length) := hKK
        have hKb : b.length ≤ b.length := by omega
        clear hKK hK
        go_enter Try.func5, Try.ntmps5
        go_upto_region 10 with fail
        rw [HW1.out]
        have a_a1_0 : ∀ o, (W1.alloc o).cell? ⟨w.heap.size, 0, none⟩ = some (.slice ao0 l.length cap0) := fun o => keepR c_a1_0 ((Below.refl _ _).alloc (Nat.le_refl _) o)
        have a_a1_1 : ∀ o, (W1.alloc o).cell? ⟨w.heap.size, 1, none⟩ = some (.int .i64 h.n) := fun o => keepR c_a1_1 ((Below.refl _ _).alloc (Nat.le_refl _) o)
        have a_a1_2 : ∀ o, (W1.alloc o).cell? ⟨w.heap.size, 2, none⟩ = some (.string h.r) := fun o => keepR c_a1_2 ((Below.refl _ _).alloc (Nat.le_refl _) o)
        have a_a1_3 : ∀ o, (W1.alloc o).cell? ⟨w.heap.size, 3, none⟩ = some (.slice ao1 b.length cap1) := fun o => keepR c_a1_3 ((Below.refl _ _).alloc (Nat.le_refl _) o)
        have a_a1_4 : ∀ o, (W1.alloc o).cell? ⟨w.heap.size, 4, none⟩ = some (.int .i64 s) := fun o => keepR c_a1_4 ((Below.refl _ _).alloc (Nat.le_refl _) o)
        obtain ⟨W2, HW2, b2, o_e2⟩ : ∃ X, Hid ((W1.alloc (.cells #[] 5)) = X) ∧ Below W1.heap.size W1 X ∧ Hid (Own X W1.heap.size X.heap.size 5 (.slice (some ⟨W1.heap.size, 0, none⟩) 0 0) (bs [])) := ⟨_, rfl, (Below.refl _ _).alloc (Nat.le_refl _) _, Puts.Own.empty W1 W1.heap.size (Nat.le_refl _)⟩
        have z2 : W1.heap.size ≤ W2.heap.size := b2.size
        have B2 : Hid (Below w.heap.size w W2) := B1.out.trans (b2.mono B1.out.size)
        have r_a2 : Hid (W2.heap[w.heap.size]? = some (.cells #[.slice ao0 l.length cap0, .int .i64 h.n, .string h.r, .slice ao1 b.length cap1, .int .i64 s] 36 (0, 0))) := rowKeep r_a1.out b2
        have c_a2_0 : W2.cell? ⟨w.heap.size, 0, none⟩ = some (.slice ao0 l.length cap0) := row_at r_a2.out 0
        have c_a2_1 : W2.cell? ⟨w.heap.size, 1, none⟩ = some (.int .i64 h.n) := row_at r_a2.out 1
        have c_a2_2 : W2.cell? ⟨w.heap.size, 2, none⟩ = some (.string h.r) := row_at r_a2.out 2
        have c_a2_3 : W2.cell? ⟨w.heap.size, 3, none⟩ = some (.slice ao1 b.length cap1) := row_at r_a2.out 3
        have c_a2_4 : W2.cell? ⟨w.heap.size, 4, none⟩ = some (.int .i64 s) := row_at r_a2.out 4
        clear r_a1 c_a1_0 c_a1_1 c_a1_2 c_a1_3 c_a1_4
        have c6_3 : (bs []).length + (bs b).length ≤ maxLen := by rw [bs_len, bs_len]; unfold maxLen; (try simp only [List.length_nil]); omega
        have c7_3 : ((bs []).length + (bs b).length) * 1 ≤ 140737488355328 := by rw [bs_len, bs_len]; (try simp only [List.length_nil]); omega
        have sE3 : Hid (Sl W2 _ (bs b)) := (HSB.out.later B2.out)
        go_wp2_with (at_builtin; (try rw [HW2.out]); go_must (refine wpl_app _ rfl (.tmp 35) (.tmp 39) 27 rfl 5 i5 (.int .u8 0) 1 Try.underlying27 hi5 hz5a hz5b hz5c rfl (W1.heap.size) _ (bs []) rfl (Own.mono o_e2.out (Nat.le_refl _) (by omega)) _ rfl (bs b) sE3.out (bs_one b) c6_3 c7_3 (by omega) ?_))
        intro v_p W3 o_p3 _ g3
        clear a_a1_0 a_a1_1 a_a1_2 a_a1_3 a_a1_4
        have o_p3 : Own W3 (W1.heap.size) W3.heap.size 5 v_p (bs b) := o_p3
        have o_p3h : Hid (Own W3 (W1.heap.size) W3.heap.size 5 v_p (bs b)) := o_p3
        clear o_p3
        have o_p3 := o_p3h
        clear o_p3h
        obtain ⟨ao_p, L_p, cap_p, rfl, _, _⟩ := Mem.Own.form o_p3.out
        have z3 : W2.heap.size ≤ W3.heap.size := g3.size
        have B3 : Hid (Below w.heap.size w W3) := belowGro B2.out g3 B2.out.size (Own.low o_e2.out (by have := B2.out.size; omega))
        have r_a3 : Hid (W3.heap[w.heap.size]? = some (.cells #[.slice ao0 l.length cap0, .int .i64 h.n, .string h.r, .slice ao1 b.length cap1, .int .i64 s] 36 (0, 0))) := rowGro r_a2.out g3 (Own.neRow o_e2.out r_a2.out (by decide))
        have c_a3_0 : W3.cell? ⟨w.heap.size, 0, none⟩ = some (.slice ao0 l.length cap0) := row_at r_a3.out 0
        have c_a3_1 : W3.cell? ⟨w.heap.size, 1, none⟩ = some (.int .i64 h.n) := row_at r_a3.out 1
        have c_a3_2 : W3.cell? ⟨w.heap.size, 2, none⟩ = some (.string h.r) := row_at r_a3.out 2
        have c_a3_3 : W3.cell? ⟨w.heap.size, 3, none⟩ = some (.slice ao1 b.length cap1) := row_at r_a3.out 3
        have c_a3_4 : W3.cell? ⟨w.heap.size, 4, none⟩ = some (.int .i64 s) := row_at r_a3.out 4
        clear r_a2 c_a2_0 c_a2_1 c_a2_2 c_a2_3 c_a2_4 o_e2
        clear g3 sE3 c6_3 c7_3
        go_wp2
        go_ret
        refine ⟨_, rfl, ?_, B3.out⟩
        rw [HKK.out]
        rw [List.take_of_length_le (Nat.le_refl _)]
        exact Own.mono o_p3.out (by omega) (Nat.le_refl _)
      · obtain ⟨k, rfl⟩ : ∃ k : Nat, keep = (k : Int) := ⟨keep.toNat, by omega⟩
        have hKK : K = k := by omega
        have HKK : Hid (K = k) := hKK
        have hKb : k ≤ b.length := by omega
        clear hKK hK
        go_enter Try.func5, Try.ntmps5
        go_upto_region 10 with fail
        rw [HW1.out]
        have a_a1_0 : ∀ o, (W1.alloc o).cell? ⟨w.heap.size, 0, none⟩ = some (.slice ao0 l.length cap0) := fun o => keepR c_a1_0 ((Below.refl _ _).alloc (Nat.le_refl _) o)
        have a_a1_1 : ∀ o, (W1.alloc o).cell? ⟨w.heap.size, 1, none⟩ = some (.int .i64 h.n) := fun o => keepR c_a1_1 ((Below.refl _ _).alloc (Nat.le_refl _) o)
        have a_a1_2 : ∀ o, (W1.alloc o).cell? ⟨w.heap.size, 2, none⟩ = some (.string h.r) := fun o => keepR c_a1_2 ((Below.refl _ _).alloc (Nat.le_refl _) o)
        have a_a1_3 : ∀ o, (W1.alloc o).cell? ⟨w.heap.size, 3, none⟩ = some (.slice ao1 b.length cap1) := fun o => keepR c_a1_3 ((Below.refl _ _).alloc (Nat.le_refl _) o)
        have a_a1_4 : ∀ o, (W1.alloc o).cell? ⟨w.heap.size, 4, none⟩ = some (.int .i64 s) := fun o => keepR c_a1_4 ((Below.refl _ _).alloc (Nat.le_refl _) o)
        obtain ⟨W2, HW2, b2, o_e2⟩ : ∃ X, Hid ((W1.alloc (.cells #[] 5)) = X) ∧ Below W1.heap.size W1 X ∧ Hid (Own X W1.heap.size X.heap.size 5 (.slice (some ⟨W1.heap.size, 0, none⟩) 0 0) (bs [])) := ⟨_, rfl, (Below.refl _ _).alloc (Nat.le_refl _) _, Puts.Own.empty W1 W1.heap.size (Nat.le_refl _)⟩
        have z2 : W1.heap.size ≤ W2.heap.size := b2.size
        have B2 : Hid (Below w.heap.size w W2) := B1.out.trans (b2.mono B1.out.size)
        have r_a2 : Hid (W2.heap[w.heap.size]? = some (.cells #[.slice ao0 l.length cap0, .int .i64 h.n, .string h.r, .slice ao1 b.length cap1, .int .i64 s] 36 (0, 0))) := rowKeep r_a1.out b2
        have c_a2_0 : W2.cell? ⟨w.heap.size, 0, none⟩ = some (.slice ao0 l.length cap0) := row_at r_a2.out 0
        have c_a2_1 : W2.cell? ⟨w.heap.size, 1, none⟩ = some (.int .i64 h.n) := row_at r_a2.out 1
        have c_a2_2 : W2.cell? ⟨w.heap.size, 2, none⟩ = some (.string h.r) := row_at r_a2.out 2
        have c_a2_3 : W2.cell? ⟨w.heap.size, 3, none⟩ = some (.slice ao1 b.length cap1) := row_at r_a2.out 3
        have c_a2_4 : W2.cell? ⟨w.heap.size, 4, none⟩ = some (.int .i64 s) := row_at r_a2.out 4
        clear r_a1 c_a1_0 c_a1_1 c_a1_2 c_a1_3 c_a1_4
        have c6_3 : (bs []).length + (bs (b.take (k))).length ≤ maxLen := by rw [bs_len, bs_len]; unfold maxLen; (try simp only [List.length_nil]); rw [List.length_take]; omega
        have c7_3 : ((bs []).length + (bs (b.take (k))).length) * 1 ≤ 140737488355328 := by rw [bs_len, bs_len]; (try simp only [List.length_nil]); rw [List.length_take]; omega
        have sE3 : Hid (Sl W2 _ (bs (b.take (k)))) := (by have h9 := Sl.front ((HSB.out.later B2.out)) (k) (by rw [bs_len]; omega); have e9 : bs (b.take (k)) = (bs b).take (k) := by { unfold bs; rw [List.map_take] }; rw [e9]; exact h9)
        go_wp2_with (at_builtin; (try rw [HW2.out]); go_must (refine wpl_app _ rfl (.tmp 35) (.tmp 39) 27 rfl 5 i5 (.int .u8 0) 1 Try.underlying27 hi5 hz5a hz5b hz5c rfl (W1.heap.size) _ (bs []) rfl (Own.mono o_e2.out (Nat.le_refl _) (by omega)) _ rfl (bs (b.take (k))) sE3.out (bs_one (b.take (k))) c6_3 c7_3 (by omega) ?_))
        intro v_p W3 o_p3 _ g3
        clear a_a1_0 a_a1_1 a_a1_2 a_a1_3 a_a1_4
        have o_p3 : Own W3 (W1.heap.size) W3.heap.size 5 v_p (bs (b.take (k))) := o_p3
        have o_p3h : Hid (Own W3 (W1.heap.size) W3.heap.size 5 v_p (bs (b.take (k)))) := o_p3
        clear o_p3
        have o_p3 := o_p3h
        clear o_p3h
        obtain ⟨ao_p, L_p, cap_p, rfl, _, _⟩ := Mem.Own.form o_p3.out
        have z3 : W2.heap.size ≤ W3.heap.size := g3.size
        have B3 : Hid (Below w.heap.size w W3) := belowGro B2.out g3 B2.out.size (Own.low o_e2.out (by have := B2.out.size; omega))
        have r_a3 : Hid (W3.heap[w.heap.size]? = some (.cells #[.slice ao0 l.length cap0, .int .i64 h.n, .string h.r, .slice ao1 b.length cap1, .int .i64 s] 36 (0, 0))) := rowGro r_a2.out g3 (Own.neRow o_e2.out r_a2.out (by decide))
        have c_a3_0 : W3.cell? ⟨w.heap.size, 0, none⟩ = some (.slice ao0 l.length cap0) := row_at r_a3.out 0
        have c_a3_1 : W3.cell? ⟨w.heap.size, 1, none⟩ = some (.int .i64 h.n) := row_at r_a3.out 1
        have c_a3_2 : W3.cell? ⟨w.heap.size, 2, none⟩ = some (.string h.r) := row_at r_a3.out 2
        have c_a3_3 : W3.cell? ⟨w.heap.size, 3, none⟩ = some (.slice ao1 b.length cap1) := row_at r_a3.out 3
        have c_a3_4 : W3.cell? ⟨w.heap.size, 4, none⟩ = some (.int .i64 s) := row_at r_a3.out 4
        clear r_a2 c_a2_0 c_a2_1 c_a2_2 c_a2_3 c_a2_4 o_e2
        clear g3 sE3 c6_3 c7_3
        go_wp2
        go_ret
        refine ⟨_, rfl, ?_, B3.out⟩
        rw [HKK.out]
        exact Own.mono o_p3.out (by omega) (Nat.le_refl _)
    · have hKK : K = 0 := by omega
      have HKK : Hid (K = 0) := hKK
      have hKb : 0 ≤ b.length := by omega
      clear hKK hK
      go_enter Try.func5, Try.ntmps5
      go_upto_region 10 with fail
      rw [HW1.out]
      have a_a1_0 : ∀ o, (W1.alloc o).cell? ⟨w.heap.size, 0, none⟩ = some (.slice ao0 l.length cap0) := fun o => keepR c_a1_0 ((Below.refl _ _).alloc (Nat.le_refl _) o)
      have a_a1_1 : ∀ o, (W1.alloc o).cell? ⟨w.heap.size, 1, none⟩ = some (.int .i64 h.n) := fun o => keepR c_a1_1 ((Below.refl _ _).alloc (Nat.le_refl _) o)
      have a_a1_2 : ∀ o, (W1.alloc o).cell? ⟨w.heap.size, 2, none⟩ = some (.string h.r) := fun o => keepR c_a1_2 ((Below.refl _ _).alloc (Nat.le_refl _) o)
      have a_a1_3 : ∀ o, (W1.alloc o).cell? ⟨w.heap.size, 3, none⟩ = some (.slice ao1 b.length cap1) := fun o => keepR c_a1_3 ((Below.refl _ _).alloc (Nat.le_refl _) o)
      have a_a1_4 : ∀ o, (W1.alloc o).cell? ⟨w.heap.size, 4, none⟩ = some (.int .i64 s) := fun o => keepR c_a1_4 ((Below.refl _ _).alloc (Nat.le_refl _) o)
      obtain ⟨W2, HW2, b2, o_e2⟩ : ∃ X, Hid ((W1.alloc (.cells #[] 5)) = X) ∧ Below W1.heap.size W1 X ∧ Hid (Own X W1.heap.size X.heap.size 5 (.slice (some ⟨W1.heap.size, 0, none⟩) 0 0) (bs [])) := ⟨_, rfl, (Below.refl _ _).alloc (Nat.le_refl _) _, Puts.Own.empty W1 W1.heap.size (Nat.le_refl _)⟩
      have z2 : W1.heap.size ≤ W2.heap.size := b2.size
      have B2 : Hid (Below w.heap.size w W2) := B1.out.trans (b2.mono B1.out.size)
      have r_a2 : Hid (W2.heap[w.heap.size]? = some (.cells #[.slice ao0 l.length cap0, .int .i64 h.n, .string h.r, .slice ao1 b.length cap1, .int .i64 s] 36 (0, 0))) := rowKeep r_a1.out b2
      have c_a2_0 : W2.cell? ⟨w.heap.size, 0, none⟩ = some (.slice ao0 l.length cap0) := row_at r_a2.out 0
      have c_a2_1 : W2.cell? ⟨w.heap.size, 1, none⟩ = some (.int .i64 h.n) := row_at r_a2.out 1
      have c_a2_2 : W2.cell? ⟨w.heap.size, 2, none⟩ = some (.string h.r) := row_at r_a2.out 2
      have c_a2_3 : W2.cell? ⟨w.heap.size, 3, none⟩ = some (.slice ao1 b.length cap1) := row_at r_a2.out 3
      have c_a2_4 : W2.cell? ⟨w.heap.size, 4, none⟩ = some (.int .i64 s) := row_at r_a2.out 4
      clear r_a1 c_a1_0 c_a1_1 c_a1_2 c_a1_3 c_a1_4
      have c6_3 : (bs []).length + (bs (b.take (0))).length ≤ maxLen := by rw [bs_len, bs_len]; unfold maxLen; (try simp only [List.length_nil]); rw [List.length_take]; omega
      have c7_3 : ((bs []).length + (bs (b.take (0))).length) * 1 ≤ 140737488355328 := by rw [bs_len, bs_len]; (try simp only [List.length_nil]); rw [List.length_take]; omega
      have sE3 : Hid (Sl W2 _ (bs (b.take (0)))) := (by have h9 := Sl.front ((HSB.out.later B2.out)) (0) (by rw [bs_len]; omega); have e9 : bs (b.take (0)) = (bs b).take (0) := by { unfold bs; rw [List.map_take] }; rw [e9]; exact h9)
      go_wp2_with (at_builtin; (try rw [HW2.out]); go_must (refine wpl_app _ rfl (.tmp 35) (.tmp 39) 27 rfl 5 i5 (.int .u8 0) 1 Try.underlying27 hi5 hz5a hz5b hz5c rfl (W1.heap.size) _ (bs []) rfl (Own.mono o_e2.out (Nat.le_refl _) (by omega)) _ rfl (bs (b.take (0))) sE3.out (bs_one (b.take (0))) c6_3 c7_3 (by omega) ?_))
      intro v_p W3 o_p3 _ g3
      clear a_a1_0 a_a1_1 a_a1_2 a_a1_3 a_a1_4
      have o_p3 : Own W3 (W1.heap.size) W3.heap.size 5 v_p (bs (b.take (0))) := o_p3
      have o_p3h : Hid (Own W3 (W1.heap.size) W3.heap.size 5 v_p (bs (b.take (0)))) := o_p3
      clear o_p3
      have o_p3 := o_p3h
      clear o_p3h
      obtain ⟨ao_p, L_p, cap_p, rfl, _, _⟩ := Mem.Own.form o_p3.out
      have z3 : W2.heap.size ≤ W3.heap.size := g3.size
      have B3 : Hid (Below w.heap.size w W3) := belowGro B2.out g3 B2.out.size (Own.low o_e2.out (by have := B2.out.size; omega))
      have r_a3 : Hid (W3.heap[w.heap.size]? = some (.cells #[.slice ao0 l.length cap0, .int .i64 h.n, .string h.r, .slice ao1 b.length cap1, .int .i64 s] 36 (0, 0))) := rowGro r_a2.out g3 (Own.neRow o_e2.out r_a2.out (by decide))
      have c_a3_0 : W3.cell? ⟨w.heap.size, 0, none⟩ = some (.slice ao0 l.length cap0) := row_at r_a3.out 0
      have c_a3_1 : W3.cell? ⟨w.heap.size, 1, none⟩ = some (.int .i64 h.n) := row_at r_a3.out 1
      have c_a3_2 : W3.cell? ⟨w.heap.size, 2, none⟩ = some (.string h.r) := row_at r_a3.out 2
      have c_a3_3 : W3.cell? ⟨w.heap.size, 3, none⟩ = some (.slice ao1 b.length cap1) := row_at r_a3.out 3
      have c_a3_4 : W3.cell? ⟨w.heap.size, 4, none⟩ = some (.int .i64 s) := row_at r_a3.out 4
      clear r_a2 c_a2_0 c_a2_1 c_a2_2 c_a2_3 c_a2_4 o_e2
      clear g3 sE3 c6_3 c7_3
      go_wp2
      go_ret
      refine ⟨_, rfl, ?_, B3.out⟩
      rw [HKK.out]
      exact Own.mono o_p3.out (by omega) (Nat.le_refl _)
  · by_cases hs1 : (b.length : Int) < s
    · by_cases hk0 : 0 < keep
      · have g1 : (b.length : Int) - (b.length : Int) < keep := by omega
        have hKK : K = b.length := by omega
        have HKK : Hid (K = b.length) := hKK
        have hKb : b.length ≤ b.length := by omega
        clear hKK hK
        go_enter Try.func5, Try.ntmps5
        go_upto_region 10 with fail
        rw [HW1.out]
        have a_a1_0 : ∀ o, (W1.alloc o).cell? ⟨w.heap.size, 0, none⟩ = some (.slice ao0 l.length cap0) := fun o => keepR c_a1_0 ((Below.refl _ _).alloc (Nat.le_refl _) o)
        have a_a1_1 : ∀ o, (W1.alloc o).cell? ⟨w.heap.size, 1, none⟩ = some (.int .i64 h.n) := fun o => keepR c_a1_1 ((Below.refl _ _).alloc (Nat.le_refl _) o)
        have a_a1_2 : ∀ o, (W1.alloc o).cell? ⟨w.heap.size, 2, none⟩ = some (.string h.r) := fun o => keepR c_a1_2 ((Below.refl _ _).alloc (Nat.le_refl _) o)
        have a_a1_3 : ∀ o, (W1.alloc o).cell? ⟨w.heap.size, 3, none⟩ = some (.slice ao1 b.length cap1) := fun o => keepR c_a1_3 ((Below.refl _ _).alloc (Nat.le_refl _) o)
        have a_a1_4 : ∀ o, (W1.alloc o).cell? ⟨w.heap.size, 4, none⟩ = some (.int .i64 s) := fun o => keepR c_a1_4 ((Below.refl _ _).alloc (Nat.le_refl _) o)
        obtain ⟨W2, HW2, b2, o_e2⟩ : ∃ X, Hid ((W1.alloc (.cells #[] 5)) = X) ∧ Below W1.heap.size W1 X ∧ Hid (Own X W1.heap.size X.heap.size 5 (.slice (some ⟨W1.heap.size, 0, none⟩) 0 0) (bs [])) := ⟨_, rfl, (Below.refl _ _).alloc (Nat.le_refl _) _, Puts.Own.empty W1 W1.heap.size (Nat.le_refl _)⟩
        have z2 : W1.heap.size ≤ W2.heap.size := b2.size
        have B2 : Hid (Below w.heap.size w W2) := B1.out.trans (b2.mono B1.out.size)
        have r_a2 : Hid (W2.heap[w.heap.size]? = some (.cells #[.slice ao0 l.length cap0, .int .i64 h.n, .string h.r, .slice ao1 b.length cap1, .int .i64 s] 36 (0, 0))) := rowKeep r_a1.out b2
        have c_a2_0 : W2.cell? ⟨w.heap.size, 0, none⟩ = some (.slice ao0 l.length cap0) := row_at r_a2.out 0
        have c_a2_1 : W2.cell? ⟨w.heap.size, 1, none⟩ = some (.int .i64 h.n) := row_at r_a2.out 1
        have c_a2_2 : W2.cell? ⟨w.heap.size, 2, none⟩ = some (.string h.r) := row_at r_a2.out 2
        have c_a2_3 : W2.cell? ⟨w.heap.size, 3, none⟩ = some (.slice ao1 b.length cap1) := row_at r_a2.out 3
        have c_a2_4 : W2.cell? ⟨w.heap.size, 4, none⟩ = some (.int .i64 s) := row_at r_a2.out 4
        clear r_a1 c_a1_0 c_a1_1 c_a1_2 c_a1_3 c_a1_4
        have c6_3 : (bs []).length + (bs b).length ≤ maxLen := by rw [bs_len, bs_len]; unfold maxLen; (try simp only [List.length_nil]); omega
        have c7_3 : ((bs []).length + (bs b).length) * 1 ≤ 140737488355328 := by rw [bs_len, bs_len]; (try simp only [List.length_nil]); omega
        have sE3 : Hid (Sl W2 _ (bs b)) := (HSB.out.later B2.out)
        go_wp2_with (at_builtin; (try rw [HW2.out]); go_must (refine wpl_app _ rfl (.tmp 35) (.tmp 39) 27 rfl 5 i5 (.int .u8 0) 1 Try.underlying27 hi5 hz5a hz5b hz5c rfl (W1.heap.size) _ (bs []) rfl (Own.mono o_e2.out (Nat.le_refl _) (by omega)) _ rfl (bs b) sE3.out (bs_one b) c6_3 c7_3 (by omega) ?_))
        intro v_p W3 o_p3 _ g3
        clear a_a1_0 a_a1_1 a_a1_2 a_a1_3 a_a1_4
        have o_p3 : Own W3 (W1.heap.size) W3.heap.size 5 v_p (bs b) := o_p3
        have o_p3h : Hid (Own W3 (W1.heap.size) W3.heap.size 5 v_p (bs b)) := o_p3
        clear o_p3
        have o_p3 := o_p3h
        clear o_p3h
        obtain ⟨ao_p, L_p, cap_p, rfl, _, _⟩ := Mem.Own.form o_p3.out
        have z3 : W2.heap.size ≤ W3.heap.size := g3.size
        have B3 : Hid (Below w.heap.size w W3) := belowGro B2.out g3 B2.out.size (Own.low o_e2.out (by have := B2.out.size; omega))
        have r_a3 : Hid (W3.heap[w.heap.size]? = some (.cells #[.slice ao0 l.length cap0, .int .i64 h.n, .string h.r, .slice ao1 b.length cap1, .int .i64 s] 36 (0, 0))) := rowGro r_a2.out g3 (Own.neRow o_e2.out r_a2.out (by decide))
        have c_a3_0 : W3.cell? ⟨w.heap.size, 0, none⟩ = some (.slice ao0 l.length cap0) := row_at r_a3.out 0
        have c_a3_1 : W3.cell? ⟨w.heap.size, 1, none⟩ = some (.int .i64 h.n) := row_at r_a3.out 1
        have c_a3_2 : W3.cell? ⟨w.heap.size, 2, none⟩ = some (.string h.r) := row_at r_a3.out 2
        have c_a3_3 : W3.cell? ⟨w.heap.size, 3, none⟩ = some (.slice ao1 b.length cap1) := row_at r_a3.out 3
        have c_a3_4 : W3.cell? ⟨w.heap.size, 4, none⟩ = some (.int .i64 s) := row_at r_a3.out 4
        clear r_a2 c_a2_0 c_a2_1 c_a2_2 c_a2_3 c_a2_4 o_e2
        clear g3 sE3 c6_3 c7_3
        go_wp2
        go_ret
        refine ⟨_, rfl, ?_, B3.out⟩
        rw [HKK.out]
        rw [List.take_of_length_le (Nat.le_refl _)]
        exact Own.mono o_p3.out (by omega) (Nat.le_refl _)
      · have hKK : K = b.length := by omega
        have HKK : Hid (K = b.length) := hKK
        have hKb : b.length ≤ b.length := by omega
        clear hKK hK
        go_enter Try.func5, Try.ntmps5
        go_upto_region 10 with fail
        rw [HW1.out]
        have a_a1_0 : ∀ o, (W1.alloc o).cell? ⟨w.heap.size, 0, none⟩ = some (.slice ao0 l.length cap0) := fun o => keepR c_a1_0 ((Below.refl _ _).alloc (Nat.le_refl _) o)
        have a_a1_1 : ∀ o, (W1.alloc o).cell? ⟨w.heap.size, 1, none⟩ = some (.int .i64 h.n) := fun o => keepR c_a1_1 ((Below.refl _ _).alloc (Nat.le_refl _) o)
        have a_a1_2 : ∀ o, (W1.alloc o).cell? ⟨w.heap.size, 2, none⟩ = some (.string h.r) := fun o => keepR c_a1_2 ((Below.refl _ _).alloc (Nat.le_refl _) o)
        have a_a1_3 : ∀ o, (W1.alloc o).cell? ⟨w.heap.size, 3, none⟩ = some (.slice ao1 b.length cap1) := fun o => keepR c_a1_3 ((Below.refl _ _).alloc (Nat.le_refl _) o)
        have a_a1_4 : ∀ o, (W1.alloc o).cell? ⟨w.heap.size, 4, none⟩ = some (.int .i64 s) := fun o => keepR c_a1_4 ((Below.refl _ _).alloc (Nat.le_refl _) o)
        obtain ⟨W2, HW2, b2, o_e2⟩ : ∃ X, Hid ((W1.alloc (.cells #[] 5)) = X) ∧ Below W1.heap.size W1 X ∧ Hid (Own X W1.heap.size X.heap.size 5 (.slice (some ⟨W1.heap.size, 0, none⟩) 0 0) (bs [])) := ⟨_, rfl, (Below.refl _ _).alloc (Nat.le_refl _) _, Puts.Own.empty W1 W1.heap.size (Nat.le_refl _)⟩
        have z2 : W1.heap.size ≤ W2.heap.size := b2.size
        have B2 : Hid (Below w.heap.size w W2) := B1.out.trans (b2.mono B1.out.size)
        have r_a2 : Hid (W2.heap[w.heap.size]? = some (.cells #[.slice ao0 l.length cap0, .int .i64 h.n, .string h.r, .slice ao1 b.length cap1, .int .i64 s] 36 (0, 0))) := rowKeep r_a1.out b2
        have c_a2_0 : W2.cell? ⟨w.heap.size, 0, none⟩ = some (.slice ao0 l.length cap0) := row_at r_a2.out 0
        have c_a2_1 : W2.cell? ⟨w.heap.size, 1, none⟩ = some (.int .i64 h.n) := row_at r_a2.out 1
        have c_a2_2 : W2.cell? ⟨w.heap.size, 2, none⟩ = some (.string h.r) := row_at r_a2.out 2
        have c_a2_3 : W2.cell? ⟨w.heap.size, 3, none⟩ = some (.slice ao1 b.length cap1) := row_at r_a2.out 3
        have c_a2_4 : W2.cell? ⟨w.heap.size, 4, none⟩ = some (.int .i64 s) := row_at r_a2.out 4
        clear r_a1 c_a1_0 c_a1_1 c_a1_2 c_a1_3 c_a1_4
        have c6_3 : (bs []).length + (bs b).length ≤ maxLen := by rw [bs_len, bs_len]; unfold maxLen; (try simp only [List.length_nil]); omega
        have c7_3 : ((bs []).length + (bs b).length) * 1 ≤ 140737488355328 := by rw [bs_len, bs_len]; (try simp only [List.length_nil]); omega
        have sE3 : Hid (Sl W2 _ (bs b)) := (HSB.out.later B2.out)
        go_wp2_with (at_builtin; (try rw [HW2.out]); go_must (refine wpl_app _ rfl (.tmp 35) (.tmp 39) 27 rfl 5 i5 (.int .u8 0) 1 Try.underlying27 hi5 hz5a hz5b hz5c rfl (W1.heap.size) _ (bs []) rfl (Own.mono o_e2.out (Nat.le_refl _) (by omega)) _ rfl (bs b) sE3.out (bs_one b) c6_3 c7_3 (by omega) ?_))
        intro v_p W3 o_p3 _ g3
        clear a_a1_0 a_a1_1 a_a1_2 a_a1_3 a_a1_4
        have o_p3 : Own W3 (W1.heap.size) W3.heap.size 5 v_p (bs b) := o_p3
        have o_p3h : Hid (Own W3 (W1.heap.size) W3.heap.size 5 v_p (bs b)) := o_p3
        clear o_p3
        have o_p3 := o_p3h
        clear o_p3h
        obtain ⟨ao_p, L_p, cap_p, rfl, _, _⟩ := Mem.Own.form o_p3.out
        have z3 : W2.heap.size ≤ W3.heap.size := g3.size
        have B3 : Hid (Below w.heap.size w W3) := belowGro B2.out g3 B2.out.size (Own.low o_e2.out (by have := B2.out.size; omega))
        have r_a3 : Hid (W3.heap[w.heap.size]? = some (.cells #[.slice ao0 l.length cap0, .int .i64 h.n, .string h.r, .slice ao1 b.length cap1, .int .i64 s] 36 (0, 0))) := rowGro r_a2.out g3 (Own.neRow o_e2.out r_a2.out (by decide))
        have c_a3_0 : W3.cell? ⟨w.heap.size, 0, none⟩ = some (.slice ao0 l.length cap0) := row_at r_a3.out 0
        have c_a3_1 : W3.cell? ⟨w.heap.size, 1, none⟩ = some (.int .i64 h.n) := row_at r_a3.out 1
        have c_a3_2 : W3.cell? ⟨w.heap.size, 2, none⟩ = some (.string h.r) := row_at r_a3.out 2
        have c_a3_3 : W3.cell? ⟨w.heap.size, 3, none⟩ = some (.slice ao1 b.length cap1) := row_at r_a3.out 3
        have c_a3_4 : W3.cell? ⟨w.heap.size, 4, none⟩ = some (.int .i64 s) := row_at r_a3.out 4
        clear r_a2 c_a2_0 c_a2_1 c_a2_2 c_a2_3 c_a2_4 o_e2
        clear g3 sE3 c6_3 c7_3
        go_wp2
        go_ret
        refine ⟨_, rfl, ?_, B3.out⟩
        rw [HKK.out]
        rw [List.take_of_length_le (Nat.le_refl _)]
        exact Own.mono o_p3.out (by omega) (Nat.le_refl _)
    · obtain ⟨m, rfl⟩ : ∃ m : Nat, s = (m : Int) := ⟨s.toNat, by omega⟩
      have hmb : m ≤ b.length := by omega
      by_cases hk0 : 0 < keep
      · by_cases hk1 : (b.length : Int) - (m : Int) < keep
        · have hsum : (m : Int) + ((b.length : Int) - (m : Int)) = (b.length : Int) := by omega
          have hKK : K = b.length := by omega
          have HKK : Hid (K = b.length) := hKK
          have hKb : b.length ≤ b.length := by omega
          clear hKK hK
          go_enter Try.func5, Try.ntmps5
          go_upto_region 10 with fail
          rw [HW1.out]
          have a_a1_0 : ∀ o, (W1.alloc o).cell? ⟨w.heap.size, 0, none⟩ = some (.slice ao0 l.length cap0) := fun o => keepR c_a1_0 ((Below.refl _ _).alloc (Nat.le_refl _) o)
          have a_a1_1 : ∀ o, (W1.alloc o).cell? ⟨w.heap.size, 1, none⟩ = some (.int .i64 h.n) := fun o => keepR c_a1_1 ((Below.refl _ _).alloc (Nat.le_refl _) o)
          have a_a1_2 : ∀ o, (W1.alloc o).cell? ⟨w.heap.size, 2, none⟩ = some (.string h.r) := fun o => keepR c_a1_2 ((Below.refl _ _).alloc (Nat.le_refl _) o)
          have a_a1_3 : ∀ o, (W1.alloc o).cell? ⟨w.heap.size, 3, none⟩ = some (.slice ao1 b.length cap1) := fun o => keepR c_a1_3 ((Below.refl _ _).alloc (Nat.le_refl _) o)
          have a_a1_4 : ∀ o, (W1.alloc o).cell? ⟨w.heap.size, 4, none⟩ = some (.int .i64 (m : Int)) := fun o => keepR c_a1_4 ((Below.refl _ _).alloc (Nat.le_refl _) o)
          obtain ⟨W2, HW2, b2, o_e2⟩ : ∃ X, Hid ((W1.alloc (.cells #[] 5)) = X) ∧ Below W1.heap.size W1 X ∧ Hid (Own X W1.heap.size X.heap.size 5 (.slice (some ⟨W1.heap.size, 0, none⟩) 0 0) (bs [])) := ⟨_, rfl, (Below.refl _ _).alloc (Nat.le_refl _) _, Puts.Own.empty W1 W1.heap.size (Nat.le_refl _)⟩
          have z2 : W1.heap.size ≤ W2.heap.size := b2.size
          have B2 : Hid (Below w.heap.size w W2) := B1.out.trans (b2.mono B1.out.size)
          have r_a2 : Hid (W2.heap[w.heap.size]? = some (.cells #[.slice ao0 l.length cap0, .int .i64 h.n, .string h.r, .slice ao1 b.length cap1, .int .i64 (m : Int)] 36 (0, 0))) := rowKeep r_a1.out b2
          have c_a2_0 : W2.cell? ⟨w.heap.size, 0, none⟩ = some (.slice ao0 l.length cap0) := row_at r_a2.out 0
          have c_a2_1 : W2.cell? ⟨w.heap.size, 1, none⟩ = some (.int .i64 h.n) := row_at r_a2.out 1
          have c_a2_2 : W2.cell? ⟨w.heap.size, 2, none⟩ = some (.string h.r) := row_at r_a2.out 2
          have c_a2_3 : W2.cell? ⟨w.heap.size, 3, none⟩ = some (.slice ao1 b.length cap1) := row_at r_a2.out 3
          have c_a2_4 : W2.cell? ⟨w.heap.size, 4, none⟩ = some (.int .i64 (m : Int)) := row_at r_a2.out 4
          clear r_a1 c_a1_0 c_a1_1 c_a1_2 c_a1_3 c_a1_4
          have c6_3 : (bs []).length + (bs b).length ≤ maxLen := by rw [bs_len, bs_len]; unfold maxLen; (try simp only [List.length_nil]); omega
          have c7_3 : ((bs []).length + (bs b).length) * 1 ≤ 140737488355328 := by rw [bs_len, bs_len]; (try simp only [List.length_nil]); omega
          have sE3 : Hid (Sl W2 _ (bs b)) := (HSB.out.later B2.out)
          go_wp2_with (at_builtin; (try rw [HW2.out]); go_must (refine wpl_app _ rfl (.tmp 35) (.tmp 39) 27 rfl 5 i5 (.int .u8 0) 1 Try.underlying27 hi5 hz5a hz5b hz5c rfl (W1.heap.size) _ (bs []) rfl (Own.mono o_e2.out (Nat.le_refl _) (by omega)) _ rfl (bs b) sE3.out (bs_one b) c6_3 c7_3 (by omega) ?_))
          intro v_p W3 o_p3 _ g3
          clear a_a1_0 a_a1_1 a_a1_2 a_a1_3 a_a1_4
          have o_p3 : Own W3 (W1.heap.size) W3.heap.size 5 v_p (bs b) := o_p3
          have o_p3h : Hid (Own W3 (W1.heap.size) W3.heap.size 5 v_p (bs b)) := o_p3
          clear o_p3
          have o_p3 := o_p3h
          clear o_p3h
          obtain ⟨ao_p, L_p, cap_p, rfl, _, _⟩ := Mem.Own.form o_p3.out
          have z3 : W2.heap.size ≤ W3.heap.size := g3.size
          have B3 : Hid (Below w.heap.size w W3) := belowGro B2.out g3 B2.out.size (Own.low o_e2.out (by have := B2.out.size; omega))
          have r_a3 : Hid (W3.heap[w.heap.size]? = some (.cells #[.slice ao0 l.length cap0, .int .i64 h.n, .string h.r, .slice ao1 b.length cap1, .int .i64 (m : Int)] 36 (0, 0))) := rowGro r_a2.out g3 (Own.neRow o_e2.out r_a2.out (by decide))
          have c_a3_0 : W3.cell? ⟨w.heap.size, 0, none⟩ = some (.slice ao0 l.length cap0) := row_at r_a3.out 0
          have c_a3_1 : W3.cell? ⟨w.heap.size, 1, none⟩ = some (.int .i64 h.n) := row_at r_a3.out 1
          have c_a3_2 : W3.cell? ⟨w.heap.size, 2, none⟩ = some (.string h.r) := row_at r_a3.out 2
          have c_a3_3 : W3.cell? ⟨w.heap.size, 3, none⟩ = some (.slice ao1 b.length cap1) := row_at r_a3.out 3
          have c_a3_4 : W3.cell? ⟨w.heap.size, 4, none⟩ = some (.int .i64 (m : Int)) := row_at r_a3.out 4
          clear r_a2 c_a2_0 c_a2_1 c_a2_2 c_a2_3 c_a2_4 o_e2
          clear g3 sE3 c6_3 c7_3
          go_wp2
          go_ret
          refine ⟨_, rfl, ?_, B3.out⟩
          rw [HKK.out]
          rw [List.take_of_length_le (Nat.le_refl _)]
          exact Own.mono o_p3.out (by omega) (Nat.le_refl _)
        · obtain ⟨k, rfl⟩ : ∃ k : Nat, keep = (k : Int) := ⟨keep.toNat, by omega⟩
          have hKK : K = m + k := by omega
          have HKK : Hid (K = m + k) := hKK
          have hKb : m + k ≤ b.length := by omega
          clear hKK hK
          go_enter Try.func5, Try.ntmps5
          go_upto_region 10 with fail
          rw [HW1.out]
          have a_a1_0 : ∀ o, (W1.alloc o).cell? ⟨w.heap.size, 0, none⟩ = some (.slice ao0 l.length cap0) := fun o => keepR c_a1_0 ((Below.refl _ _).alloc (Nat.le_refl _) o)
          have a_a1_1 : ∀ o, (W1.alloc o).cell? ⟨w.heap.size, 1, none⟩ = some (.int .i64 h.n) := fun o => keepR c_a1_1 ((Below.refl _ _).alloc (Nat.le_refl _) o)
          have a_a1_2 : ∀ o, (W1.alloc o).cell? ⟨w.heap.size, 2, none⟩ = some (.string h.r) := fun o => keepR c_a1_2 ((Below.refl _ _).alloc (Nat.le_refl _) o)
          have a_a1_3 : ∀ o, (W1.alloc o).cell? ⟨w.heap.size, 3, none⟩ = some (.slice ao1 b.length cap1) := fun o => keepR c_a1_3 ((Below.refl _ _).alloc (Nat.le_refl _) o)
          have a_a1_4 : ∀ o, (W1.alloc o).cell? ⟨w.heap.size, 4, none⟩ = some (.int .i64 (m : Int)) := fun o => keepR c_a1_4 ((Below.refl _ _).alloc (Nat.le_refl _) o)
          obtain ⟨W2, HW2, b2, o_e2⟩ : ∃ X, Hid ((W1.alloc (.cells #[] 5)) = X) ∧ Below W1.heap.size W1 X ∧ Hid (Own X W1.heap.size X.heap.size 5 (.slice (some ⟨W1.heap.size, 0, none⟩) 0 0) (bs [])) := ⟨_, rfl, (Below.refl _ _).alloc (Nat.le_refl _) _, Puts.Own.empty W1 W1.heap.size (Nat.le_refl _)⟩
          have z2 : W1.heap.size ≤ W2.heap.size := b2.size
          have B2 : Hid (Below w.heap.size w W2) := B1.out.trans (b2.mono B1.out.size)
          have r_a2 : Hid (W2.heap[w.heap.size]? = some (.cells #[.slice ao0 l.length cap0, .int .i64 h.n, .string h.r, .slice ao1 b.length cap1, .int .i64 (m : Int)] 36 (0, 0))) := rowKeep r_a1.out b2
          have c_a2_0 : W2.cell? ⟨w.heap.size, 0, none⟩ = some (.slice ao0 l.length cap0) := row_at r_a2.out 0
          have c_a2_1 : W2.cell? ⟨w.heap.size, 1, none⟩ = some (.int .i64 h.n) := row_at r_a2.out 1
          have c_a2_2 : W2.cell? ⟨w.heap.size, 2, none⟩ = some (.string h.r) := row_at r_a2.out 2
          have c_a2_3 : W2.cell? ⟨w.heap.size, 3, none⟩ = some (.slice ao1 b.length cap1) := row_at r_a2.out 3
          have c_a2_4 : W2.cell? ⟨w.heap.size, 4, none⟩ = some (.int .i64 (m : Int)) := row_at r_a2.out 4
          clear r_a1 c_a1_0 c_a1_1 c_a1_2 c_a1_3 c_a1_4
          have c6_3 : (bs []).length + (bs (b.take (m + k))).length ≤ maxLen := by rw [bs_len, bs_len]; unfold maxLen; (try simp only [List.length_nil]); rw [List.length_take]; omega
          have c7_3 : ((bs []).length + (bs (b.take (m + k))).length) * 1 ≤ 140737488355328 := by rw [bs_len, bs_len]; (try simp only [List.length_nil]); rw [List.length_take]; omega
          have sE3 : Hid (Sl W2 _ (bs (b.take (m + k)))) := (by have h9 := Sl.front ((HSB.out.later B2.out)) (m + k) (by rw [bs_len]; omega); have e9 : bs (b.take (m + k)) = (bs b).take (m + k) := by { unfold bs; rw [List.map_take] }; rw [e9]; exact h9)
          go_wp2_with (at_builtin; (try rw [HW2.out]); go_must (refine wpl_app _ rfl (.tmp 35) (.tmp 39) 27 rfl 5 i5 (.int .u8 0) 1 Try.underlying27 hi5 hz5a hz5b hz5c rfl (W1.heap.size) _ (bs []) rfl (Own.mono o_e2.out (Nat.le_refl _) (by omega)) _ rfl (bs (b.take (m + k))) sE3.out (bs_one (b.take (m + k))) c6_3 c7_3 (by omega) ?_))
          intro v_p W3 o_p3 _ g3
          clear a_a1_0 a_a1_1 a_a1_2 a_a1_3 a_a1_4
          have o_p3 : Own W3 (W1.heap.size) W3.heap.size 5 v_p (bs (b.take (m + k))) := o_p3
          have o_p3h : Hid (Own W3 (W1.heap.size) W3.heap.size 5 v_p (bs (b.take (m + k)))) := o_p3
          clear o_p3
          have o_p3 := o_p3h
          clear o_p3h
          obtain ⟨ao_p, L_p, cap_p, rfl, _, _⟩ := Mem.Own.form o_p3.out
          have z3 : W2.heap.size ≤ W3.heap.size := g3.size
          have B3 : Hid (Below w.heap.size w W3) := belowGro B2.out g3 B2.out.size (Own.low o_e2.out (by have := B2.out.size; omega))
          have r_a3 : Hid (W3.heap[w.heap.size]? = some (.cells #[.slice ao0 l.length cap0, .int .i64 h.n, .string h.r, .slice ao1 b.length cap1, .int .i64 (m : Int)] 36 (0, 0))) := rowGro r_a2.out g3 (Own.neRow o_e2.out r_a2.out (by decide))
          have c_a3_0 : W3.cell? ⟨w.heap.size, 0, none⟩ = some (.slice ao0 l.length cap0) := row_at r_a3.out 0
          have c_a3_1 : W3.cell? ⟨w.heap.size, 1, none⟩ = some (.int .i64 h.n) := row_at r_a3.out 1
          have c_a3_2 : W3.cell? ⟨w.heap.size, 2, none⟩ = some (.string h.r) := row_at r_a3.out 2
          have c_a3_3 : W3.cell? ⟨w.heap.size, 3, none⟩ = some (.slice ao1 b.length cap1) := row_at r_a3.out 3
          have c_a3_4 : W3.cell? ⟨w.heap.size, 4, none⟩ = some (.int .i64 (m : Int)) := row_at r_a3.out 4
          clear r_a2 c_a2_0 c_a2_1 c_a2_2 c_a2_3 c_a2_4 o_e2
          clear g3 sE3 c6_3 c7_3
          go_wp2
          go_ret
          refine ⟨_, rfl, ?_, B3.out⟩
          rw [HKK.out]
          exact Own.mono o_p3.out (by omega) (Nat.le_refl _)
      · have hKK : K = m := by omega
        have HKK : Hid (K = m) := hKK
        have hKb : m ≤ b.length := by omega
        clear hKK hK
        go_enter Try.func5, Try.ntmps5
        go_upto_region 10 with fail
        rw [HW1.out]
        have a_a1_0 : ∀ o, (W1.alloc o).cell? ⟨w.heap.size, 0, none⟩ = some (.slice ao0 l.length cap0) := fun o => keepR c_a1_0 ((Below.refl _ _).alloc (Nat.le_refl _) o)
        have a_a1_1 : ∀ o, (W1.alloc o).cell? ⟨w.heap.size, 1, none⟩ = some (.int .i64 h.n) := fun o => keepR c_a1_1 ((Below.refl _ _).alloc (Nat.le_refl _) o)
        have a_a1_2 : ∀ o, (W1.alloc o).cell? ⟨w.heap.size, 2, none⟩ = some (.string h.r) := fun o => keepR c_a1_2 ((Below.refl _ _).alloc (Nat.le_refl _) o)
        have a_a1_3 : ∀ o, (W1.alloc o).cell? ⟨w.heap.size, 3, none⟩ = some (.slice ao1 b.length cap1) := fun o => keepR c_a1_3 ((Below.refl _ _).alloc (Nat.le_refl _) o)
        have a_a1_4 : ∀ o, (W1.alloc o).cell? ⟨w.heap.size, 4, none⟩ = some (.int .i64 (m : Int)) := fun o => keepR c_a1_4 ((Below.refl _ _).alloc (Nat.le_refl _) o)
        obtain ⟨W2, HW2, b2, o_e2⟩ : ∃ X, Hid ((W1.alloc (.cells #[] 5)) = X) ∧ Below W1.heap.size W1 X ∧ Hid (Own X W1.heap.size X.heap.size 5 (.slice (some ⟨W1.heap.size, 0, none⟩) 0 0) (bs [])) := ⟨_, rfl, (Below.refl _ _).alloc (Nat.le_refl _) _, Puts.Own.empty W1 W1.heap.size (Nat.le_refl _)⟩
        have z2 : W1.heap.size ≤ W2.heap.size := b2.size
        have B2 : Hid (Below w.heap.size w W2) := B1.out.trans (b2.mono B1.out.size)
        have r_a2 : Hid (W2.heap[w.heap.size]? = some (.cells #[.slice ao0 l.length cap0, .int .i64 h.n, .string h.r, .slice ao1 b.length cap1, .int .i64 (m : Int)] 36 (0, 0))) := rowKeep r_a1.out b2
        have c_a2_0 : W2.cell? ⟨w.heap.size, 0, none⟩ = some (.slice ao0 l.length cap0) := row_at r_a2.out 0
        have c_a2_1 : W2.cell? ⟨w.heap.size, 1, none⟩ = some (.int .i64 h.n) := row_at r_a2.out 1
        have c_a2_2 : W2.cell? ⟨w.heap.size, 2, none⟩ = some (.string h.r) := row_at r_a2.out 2
        have c_a2_3 : W2.cell? ⟨w.heap.size, 3, none⟩ = some (.slice ao1 b.length cap1) := row_at r_a2.out 3
        have c_a2_4 : W2.cell? ⟨w.heap.size, 4, none⟩ = some (.int .i64 (m : Int)) := row_at r_a2.out 4
        clear r_a1 c_a1_0 c_a1_1 c_a1_2 c_a1_3 c_a1_4
        have c6_3 : (bs []).length + (bs (b.take (m))).length ≤ maxLen := by rw [bs_len, bs_len]; unfold maxLen; (try simp only [List.length_nil]); rw [List.length_take]; omega
        have c7_3 : ((bs []).length + (bs (b.take (m))).length) * 1 ≤ 140737488355328 := by rw [bs_len, bs_len]; (try simp only [List.length_nil]); rw [List.length_take]; omega
        have sE3 : Hid (Sl W2 _ (bs (b.take (m)))) := (by have h9 := Sl.front ((HSB.out.later B2.out)) (m) (by rw [bs_len]; omega); have e9 : bs (b.take (m)) = (bs b).take (m) := by { unfold bs; rw [List.map_take] }; rw [e9]; exact h9)
        go_wp2_with (at_builtin; (try rw [HW2.out]); go_must (refine wpl_app _ rfl (.tmp 35) (.tmp 39) 27 rfl 5 i5 (.int .u8 0) 1 Try.underlying27 hi5 hz5a hz5b hz5c rfl (W1.heap.size) _ (bs []) rfl (Own.mono o_e2.out (Nat.le_refl _) (by omega)) _ rfl (bs (b.take (m))) sE3.out (bs_one (b.take (m))) c6_3 c7_3 (by omega) ?_))
        intro v_p W3 o_p3 _ g3
        clear a_a1_0 a_a1_1 a_a1_2 a_a1_3 a_a1_4
        have o_p3 : Own W3 (W1.heap.size) W3.heap.size 5 v_p (bs (b.take (m))) := o_p3
        have o_p3h : Hid (Own W3 (W1.heap.size) W3.heap.size 5 v_p (bs (b.take (m)))) := o_p3
        clear o_p3
        have o_p3 := o_p3h
        clear o_p3h
        obtain ⟨ao_p, L_p, cap_p, rfl, _, _⟩ := Mem.Own.form o_p3.out
        have z3 : W2.heap.size ≤ W3.heap.size := g3.size
        have B3 : Hid (Below w.heap.size w W3) := belowGro B2.out g3 B2.out.size (Own.low o_e2.out (by have := B2.out.size; omega))
        have r_a3 : Hid (W3.heap[w.heap.size]? = some (.cells #[.slice ao0 l.length cap0, .int .i64 h.n, .string h.r, .slice ao1 b.length cap1, .int .i64 (m : Int)] 36 (0, 0))) := rowGro r_a2.out g3 (Own.neRow o_e2.out r_a2.out (by decide))
        have c_a3_0 : W3.cell? ⟨w.heap.size, 0, none⟩ = some (.slice ao0 l.length cap0) := row_at r_a3.out 0
        have c_a3_1 : W3.cell? ⟨w.heap.size, 1, none⟩ = some (.int .i64 h.n) := row_at r_a3.out 1
        have c_a3_2 : W3.cell? ⟨w.heap.size, 2, none⟩ = some (.string h.r) := row_at r_a3.out 2
        have c_a3_3 : W3.cell? ⟨w.heap.size, 3, none⟩ = some (.slice ao1 b.length cap1) := row_at r_a3.out 3
        have c_a3_4 : W3.cell? ⟨w.heap.size, 4, none⟩ = some (.int .i64 (m : Int)) := row_at r_a3.out 4
        clear r_a2 c_a2_0 c_a2_1 c_a2_2 c_a2_3 c_a2_4 o_e2
        clear g3 sE3 c6_3 c7_3
        go_wp2
        go_ret
        refine ⟨_, rfl, ?_, B3.out⟩
        rw [HKK.out]
        exact Own.mono o_p3.out (by omega) (Nat.le_refl _)

set_option maxRecDepth 1000000 in
set_option maxHeartbeats 16000000 in
theorem exact_fallstore (w : World) (v vb : Value) (l : List ByteArray) (h : Hd) (b : List Int) (s : Int) (hs : Sl w v (ss l)) (hb : Sl w vb (bs b)) (hby : Byt b) (hz : ∀ s ∈ l, s.size ≤ maxLen) (hm : l.length ≤ maxLen) (hmb : b.length ≤ maxLen) (hh : h.r.size ≤ maxLen) (hs1 : -9223372036854775808 ≤ s) (hs2 : s ≤ 9223372036854775807) (keep : Int) (hk1 : -9223372036854775808 ≤ keep) (hk2 : keep ≤ 9223372036854775807)
    (iF : ∀ W v' vb', Below w.heap.size w W → Sl W v' (ss l) → Sl W vb' (bs b) → l.length ≤ 1048576 → b.length ≤ 1048576 → (∀ s ∈ l, s.size ≤ 1048576) → h.r.size ≤ 1048576 → Calls Try.prog 7 #[.agg #[v', .int .i64 h.n, .string h.r, vb', .int .i64 s], .int .i64 keep] W fun e w' => ∃ u, e = .returned u ∧ Own w' W.heap.size w'.heap.size 5 u (bs (b.take (fallN ⟨l, h, b, s⟩ keep))) ∧ Below W.heap.size W w') :
    Calls Try.prog 3 #[.agg #[v, .int .i64 h.n, .string h.r, vb, .int .i64 s], .int .i64 keep] w fun e w' => e = .returned (.bool true) ∧ Below w.heap.size w w' := by
  have HS : Hid (Sl w v (ss l)) := hs
  have HSB : Hid (Sl w vb (bs b)) := hb
  have HBY : Hid (Byt b) := hby
  unfold maxLen at *
  obtain ⟨ao0, cap0, rfl, hc0⟩ := hs.form
  obtain ⟨ao1, cap1, rfl, hc1⟩ := hb.form
  simp only [ss_len, bs_len] at *
  clear hs hb hby
  have B0 : Hid (Below w.heap.size w w) := Below.refl _ _
  obtain ⟨W1, HW1, b1, y1, hS1, r_a1⟩ : ∃ X, Hid ((w.alloc (.cells #[.slice ao0 l.length cap0, .int .i64 h.n, .string h.r, .slice ao1 b.length cap1, .int .i64 s] 29)) = X) ∧ Below w.heap.size w X ∧ w.heap.size + 1 ≤ X.heap.size ∧ Hid (X.heap.size = w.heap.size + 1) ∧ Hid (X.heap[w.heap.size]? = some (.cells #[.slice ao0 l.length cap0, .int .i64 h.n, .string h.r, .slice ao1 b.length cap1, .int .i64 s] 29 (0, 0))) := ⟨_, rfl, ((Below.refl _ _).alloc (Nat.le_refl _) _), by simp, by show _ = _; simp, (by show _ = _; exact alloc_nth1_0 w _)⟩
  have z1 : w.heap.size ≤ W1.heap.size := b1.size
  have B1 : Hid (Below w.heap.size w W1) := B0.out.trans (b1.mono B0.out.size)
  have c_a1_0 : W1.cell? ⟨w.heap.size, 0, none⟩ = some (.slice ao0 l.length cap0) := row_at r_a1.out 0
  have c_a1_1 : W1.cell? ⟨w.heap.size, 1, none⟩ = some (.int .i64 h.n) := row_at r_a1.out 1
  have c_a1_2 : W1.cell? ⟨w.heap.size, 2, none⟩ = some (.string h.r) := row_at r_a1.out 2
  have c_a1_3 : W1.cell? ⟨w.heap.size, 3, none⟩ = some (.slice ao1 b.length cap1) := row_at r_a1.out 3
  have c_a1_4 : W1.cell? ⟨w.heap.size, 4, none⟩ = some (.int .i64 s) := row_at r_a1.out 4
  go_enter Try.func3, Try.ntmps3
  go_wp2_with fail
  rw [HW1.out]
  refine (sz_store W1 _ _ l h b s (HS.out.later B1.out) (HSB.out.later B1.out) (fun s h => by have := hz s h; omega) (by omega) (by omega) (by omega)).mono ?_
  rintro e W2 ⟨⟨r0, rfl, hr0⟩, b2⟩
  have z2 : W1.heap.size ≤ W2.heap.size := b2.size
  have B2 : Hid (Below w.heap.size w W2) := B1.out.trans (b2.mono B1.out.size)
  have r_a2 : Hid (W2.heap[w.heap.size]? = some (.cells #[.slice ao0 l.length cap0, .int .i64 h.n, .string h.r, .slice ao1 b.length cap1, .int .i64 s] 29 (0, 0))) := rowKeep r_a1.out b2
  have c_a2_0 : W2.cell? ⟨w.heap.size, 0, none⟩ = some (.slice ao0 l.length cap0) := row_at r_a2.out 0
  have c_a2_1 : W2.cell? ⟨w.heap.size, 1, none⟩ = some (.int .i64 h.n) := row_at r_a2.out 1
  have c_a2_2 : W2.cell? ⟨w.heap.size, 2, none⟩ = some (.string h.r) := row_at r_a2.out 2
  have c_a2_3 : W2.cell? ⟨w.heap.size, 3, none⟩ = some (.slice ao1 b.length cap1) := row_at r_a2.out 3
  have c_a2_4 : W2.cell? ⟨w.heap.size, 4, none⟩ = some (.int .i64 s) := row_at r_a2.out 4
  clear r_a1 c_a1_0 c_a1_1 c_a1_2 c_a1_3 c_a1_4
  by_cases hr : r0 < 0
  · go_wp2
    go_ret
    exact ⟨rfl, B2.out⟩
  have hr1 : l.length + Puts.tot l ≤ 1048576 ∧ h.r.size ≤ 1048576 ∧ b.length ≤ 1048576 ∧ 0 ≤ r0 ∧ r0 ≤ 1048576 := by rcases hr0 with h0 | h0; exact absurd h0 hr; exact h0
  obtain ⟨hr1, hzh, hbl, hr2, hr3⟩ := hr1
  have hl : l.length ≤ 1048576 := by omega
  have hzz : ∀ s ∈ l, s.size ≤ 1048576 := fun s h => Nat.le_trans (tot_mem l s h) (by omega)
  have HZ : Hid (∀ s ∈ l, s.size ≤ 1048576) := hzz
  clear hz hr0 hm hmb hh hzz
  have q1 : ∀ W v1 v2, Sl W v1 (ss l) → Sl W v2 (bs b) → _ := fun W v1 v2 h1 h2 => fall_spec W v1 v2 l h b s keep h1 h2 (by omega) hs1 hs2 hk1 hk2
  have q2 : ∀ W v1 v2, Below w.heap.size w W → Sl W v1 (ss l) → Sl W v2 (bs b) → _ := fun W v1 v2 hB h1 h2 => iF W v1 v2 hB h1 h2 hl hbl HZ.out hzh
  obtain ⟨P, hP⟩ : ∃ P, b.take (fallN ⟨l, h, b, s⟩ keep) = P := ⟨_, rfl⟩
  have hPl : P.length ≤ b.length := by rw [← hP, List.length_take]; omega
  simp only [hP] at q1 q2
  clear hP iF
  go_wp2_with fail
  refine (to_store W2 _ _ l h b s (HS.out.later B2.out) (HSB.out.later B2.out) (by omega) (by omega)).mono ?_
  rintro e W3 ⟨v_t, v_tp, rfl, o_t3, o_tp3, b3⟩
  obtain ⟨lo_t, hi_t, lo_tp, hi_tp, d1_t, d2_t, d3_t, d4_t, d5_t, d6_t, d7_t, oo_t, oo_tp⟩ := Sr.pairN o_t3 o_tp3 b3.size
  clear o_t3 o_tp3
  obtain ⟨ao_t, L_t, cap_t, rfl, _, _⟩ := oo_t.form
  obtain ⟨ao_tp, L_tp, cap_tp, rfl, _, _⟩ := oo_tp.form
  have o_t3 : Hid (Own W3 lo_t hi_t 9 (.slice ao_t L_t cap_t) (ss l)) := oo_t
  have o_tp3 : Hid (Own W3 lo_tp hi_tp 5 (.slice ao_tp L_tp cap_tp) (bs b)) := oo_tp
  clear oo_t oo_tp
  have z3 : W2.heap.size ≤ W3.heap.size := b3.size
  have B3 : Hid (Below w.heap.size w W3) := B2.out.trans (b3.mono B2.out.size)
  have r_a3 : Hid (W3.heap[w.heap.size]? = some (.cells #[.slice ao0 l.length cap0, .int .i64 h.n, .string h.r, .slice ao1 b.length cap1, .int .i64 s] 29 (0, 0))) := rowKeep r_a2.out b3
  have c_a3_0 : W3.cell? ⟨w.heap.size, 0, none⟩ = some (.slice ao0 l.length cap0) := row_at r_a3.out 0
  have c_a3_1 : W3.cell? ⟨w.heap.size, 1, none⟩ = some (.int .i64 h.n) := row_at r_a3.out 1
  have c_a3_2 : W3.cell? ⟨w.heap.size, 2, none⟩ = some (.string h.r) := row_at r_a3.out 2
  have c_a3_3 : W3.cell? ⟨w.heap.size, 3, none⟩ = some (.slice ao1 b.length cap1) := row_at r_a3.out 3
  have c_a3_4 : W3.cell? ⟨w.heap.size, 4, none⟩ = some (.int .i64 s) := row_at r_a3.out 4
  clear r_a2 c_a2_0 c_a2_1 c_a2_2 c_a2_3 c_a2_4
  go_wp2_with fail
  refine (q1 W3 _ _ o_t3.out.sl o_tp3.out.sl).mono ?_
  rintro e W4 ⟨v_m, rfl, o_m4, b4⟩
  obtain ⟨ao_m, L_m, cap_m, rfl, hL_m, hM_m⟩ := o_m4.form
  have o_m4 : Hid (Own W4 W3.heap.size W4.heap.size 5 (.slice ao_m L_m cap_m) (bs P)) := o_m4
  clear hL_m hM_m
  have z4 : W3.heap.size ≤ W4.heap.size := b4.size
  have B4 : Hid (Below w.heap.size w W4) := B3.out.trans (b4.mono B3.out.size)
  have r_a4 : Hid (W4.heap[w.heap.size]? = some (.cells #[.slice ao0 l.length cap0, .int .i64 h.n, .string h.r, .slice ao1 b.length cap1, .int .i64 s] 29 (0, 0))) := rowKeep r_a3.out b4
  have o_t4 : Hid (Own W4 (lo_t) (hi_t) 9 (.slice ao_t L_t cap_t) (ss l)) := Own.later o_t3.out b4 (by omega)
  have o_tp4 : Hid (Own W4 (lo_tp) (hi_tp) 5 (.slice ao_tp L_tp cap_tp) (bs b)) := Own.later o_tp3.out b4 (by omega)
  have c_a4_0 : W4.cell? ⟨w.heap.size, 0, none⟩ = some (.slice ao0 l.length cap0) := row_at r_a4.out 0
  have c_a4_1 : W4.cell? ⟨w.heap.size, 1, none⟩ = some (.int .i64 h.n) := row_at r_a4.out 1
  have c_a4_2 : W4.cell? ⟨w.heap.size, 2, none⟩ = some (.string h.r) := row_at r_a4.out 2
  have c_a4_3 : W4.cell? ⟨w.heap.size, 3, none⟩ = some (.slice ao1 b.length cap1) := row_at r_a4.out 3
  have c_a4_4 : W4.cell? ⟨w.heap.size, 4, none⟩ = some (.int .i64 s) := row_at r_a4.out 4
  clear r_a3 c_a3_0 c_a3_1 c_a3_2 c_a3_3 c_a3_4 o_t3 o_tp3
  clear o_t4
  clear o_tp4
  go_wp2_with fail
  refine (to_store W4 _ _ l h b s (HS.out.later B4.out) (HSB.out.later B4.out) (by omega) (by omega)).mono ?_
  rintro e W5 ⟨v_x, v_xp, rfl, o_x5, o_xp5, b5⟩
  obtain ⟨lo_x, hi_x, lo_xp, hi_xp, d1_x, d2_x, d3_x, d4_x, d5_x, d6_x, d7_x, oo_x, oo_xp⟩ := Sr.pairN o_x5 o_xp5 b5.size
  clear o_x5 o_xp5
  obtain ⟨ao_x, L_x, cap_x, rfl, _, _⟩ := oo_x.form
  obtain ⟨ao_xp, L_xp, cap_xp, rfl, _, _⟩ := oo_xp.form
  have o_x5 : Hid (Own W5 lo_x hi_x 9 (.slice ao_x L_x cap_x) (ss l)) := oo_x
  have o_xp5 : Hid (Own W5 lo_xp hi_xp 5 (.slice ao_xp L_xp cap_xp) (bs b)) := oo_xp
  clear oo_x oo_xp
  have z5 : W4.heap.size ≤ W5.heap.size := b5.size
  have B5 : Hid (Below w.heap.size w W5) := B4.out.trans (b5.mono B4.out.size)
  have r_a5 : Hid (W5.heap[w.heap.size]? = some (.cells #[.slice ao0 l.length cap0, .int .i64 h.n, .string h.r, .slice ao1 b.length cap1, .int .i64 s] 29 (0, 0))) := rowKeep r_a4.out b5
  have o_m5 : Hid (Own W5 (W3.heap.size) (W4.heap.size) 5 (.slice ao_m L_m cap_m) (bs P)) := Own.later o_m4.out b5 (by omega)
  have c_a5_0 : W5.cell? ⟨w.heap.size, 0, none⟩ = some (.slice ao0 l.length cap0) := row_at r_a5.out 0
  have c_a5_1 : W5.cell? ⟨w.heap.size, 1, none⟩ = some (.int .i64 h.n) := row_at r_a5.out 1
  have c_a5_2 : W5.cell? ⟨w.heap.size, 2, none⟩ = some (.string h.r) := row_at r_a5.out 2
  have c_a5_3 : W5.cell? ⟨w.heap.size, 3, none⟩ = some (.slice ao1 b.length cap1) := row_at r_a5.out 3
  have c_a5_4 : W5.cell? ⟨w.heap.size, 4, none⟩ = some (.int .i64 s) := row_at r_a5.out 4
  clear r_a4 c_a4_0 c_a4_1 c_a4_2 c_a4_3 c_a4_4 o_m4
  have a_a5_0 : ∀ o, (W5.alloc o).cell? ⟨w.heap.size, 0, none⟩ = some (.slice ao0 l.length cap0) := fun o => keepR c_a5_0 ((Below.refl _ _).alloc (Nat.le_refl _) o)
  have a_a5_1 : ∀ o, (W5.alloc o).cell? ⟨w.heap.size, 1, none⟩ = some (.int .i64 h.n) := fun o => keepR c_a5_1 ((Below.refl _ _).alloc (Nat.le_refl _) o)
  have a_a5_2 : ∀ o, (W5.alloc o).cell? ⟨w.heap.size, 2, none⟩ = some (.string h.r) := fun o => keepR c_a5_2 ((Below.refl _ _).alloc (Nat.le_refl _) o)
  have a_a5_3 : ∀ o, (W5.alloc o).cell? ⟨w.heap.size, 3, none⟩ = some (.slice ao1 b.length cap1) := fun o => keepR c_a5_3 ((Below.refl _ _).alloc (Nat.le_refl _) o)
  have a_a5_4 : ∀ o, (W5.alloc o).cell? ⟨w.heap.size, 4, none⟩ = some (.int .i64 s) := fun o => keepR c_a5_4 ((Below.refl _ _).alloc (Nat.le_refl _) o)
  obtain ⟨W6, HW6, b6, y6, hS6, r_x06⟩ : ∃ X, Hid ((W5.alloc (.cells #[.slice ao_x L_x cap_x, .int .i64 h.n, .string h.r, .slice ao_xp L_xp cap_xp, .int .i64 s] 36)) = X) ∧ Below W5.heap.size W5 X ∧ W5.heap.size + 1 ≤ X.heap.size ∧ Hid (X.heap.size = W5.heap.size + 1) ∧ Hid (X.heap[W5.heap.size]? = some (.cells #[.slice ao_x L_x cap_x, .int .i64 h.n, .string h.r, .slice ao_xp L_xp cap_xp, .int .i64 s] 36 (0, 0))) := ⟨_, rfl, ((Below.refl _ _).alloc (Nat.le_refl _) _), by simp, by show _ = _; simp, (by show _ = _; exact alloc_nth1_0 W5 _)⟩
  have z6 : W5.heap.size ≤ W6.heap.size := b6.size
  have B6 : Hid (Below w.heap.size w W6) := B5.out.trans (b6.mono B5.out.size)
  have r_a6 : Hid (W6.heap[w.heap.size]? = some (.cells #[.slice ao0 l.length cap0, .int .i64 h.n, .string h.r, .slice ao1 b.length cap1, .int .i64 s] 29 (0, 0))) := rowKeep r_a5.out b6
  have o_m6 : Hid (Own W6 (W3.heap.size) (W4.heap.size) 5 (.slice ao_m L_m cap_m) (bs P)) := Own.later o_m5.out b6 (by omega)
  have o_x6 : Hid (Own W6 (lo_x) (hi_x) 9 (.slice ao_x L_x cap_x) (ss l)) := Own.later o_x5.out b6 (by omega)
  have o_xp6 : Hid (Own W6 (lo_xp) (hi_xp) 5 (.slice ao_xp L_xp cap_xp) (bs b)) := Own.later o_xp5.out b6 (by omega)
  have c_a6_0 : W6.cell? ⟨w.heap.size, 0, none⟩ = some (.slice ao0 l.length cap0) := row_at r_a6.out 0
  have c_a6_1 : W6.cell? ⟨w.heap.size, 1, none⟩ = some (.int .i64 h.n) := row_at r_a6.out 1
  have c_a6_2 : W6.cell? ⟨w.heap.size, 2, none⟩ = some (.string h.r) := row_at r_a6.out 2
  have c_a6_3 : W6.cell? ⟨w.heap.size, 3, none⟩ = some (.slice ao1 b.length cap1) := row_at r_a6.out 3
  have c_a6_4 : W6.cell? ⟨w.heap.size, 4, none⟩ = some (.int .i64 s) := row_at r_a6.out 4
  have c_x06_0 : W6.cell? ⟨W5.heap.size, 0, none⟩ = some (.slice ao_x L_x cap_x) := row_at r_x06.out 0
  have c_x06_1 : W6.cell? ⟨W5.heap.size, 1, none⟩ = some (.int .i64 h.n) := row_at r_x06.out 1
  have c_x06_2 : W6.cell? ⟨W5.heap.size, 2, none⟩ = some (.string h.r) := row_at r_x06.out 2
  have c_x06_3 : W6.cell? ⟨W5.heap.size, 3, none⟩ = some (.slice ao_xp L_xp cap_xp) := row_at r_x06.out 3
  have c_x06_4 : W6.cell? ⟨W5.heap.size, 4, none⟩ = some (.int .i64 s) := row_at r_x06.out 4
  clear r_a5 c_a5_0 c_a5_1 c_a5_2 c_a5_3 c_a5_4 o_m5 o_x5 o_xp5
  go_wp2_with fail
  rw [HW6.out]
  clear a_a5_0 a_a5_1 a_a5_2 a_a5_3 a_a5_4
  refine (q2 W6 _ _ B6.out o_x6.out.sl o_xp6.out.sl).mono ?_
  rintro e W7 ⟨v_g, rfl, o_g7, b7⟩
  obtain ⟨ao_g, L_g, cap_g, rfl, hL_g, hM_g⟩ := o_g7.form
  have o_g7 : Hid (Own W7 W6.heap.size W7.heap.size 5 (.slice ao_g L_g cap_g) (bs P)) := o_g7
  clear hL_g hM_g
  have z7 : W6.heap.size ≤ W7.heap.size := b7.size
  have B7 : Hid (Below w.heap.size w W7) := B6.out.trans (b7.mono B6.out.size)
  have r_a7 : Hid (W7.heap[w.heap.size]? = some (.cells #[.slice ao0 l.length cap0, .int .i64 h.n, .string h.r, .slice ao1 b.length cap1, .int .i64 s] 29 (0, 0))) := rowKeep r_a6.out b7
  have r_x07 : Hid (W7.heap[W5.heap.size]? = some (.cells #[.slice ao_x L_x cap_x, .int .i64 h.n, .string h.r, .slice ao_xp L_xp cap_xp, .int .i64 s] 36 (0, 0))) := rowKeep r_x06.out b7
  have o_m7 : Hid (Own W7 (W3.heap.size) (W4.heap.size) 5 (.slice ao_m L_m cap_m) (bs P)) := Own.later o_m6.out b7 (by omega)
  have o_x7 : Hid (Own W7 (lo_x) (hi_x) 9 (.slice ao_x L_x cap_x) (ss l)) := Own.later o_x6.out b7 (by omega)
  have o_xp7 : Hid (Own W7 (lo_xp) (hi_xp) 5 (.slice ao_xp L_xp cap_xp) (bs b)) := Own.later o_xp6.out b7 (by omega)
  have c_a7_0 : W7.cell? ⟨w.heap.size, 0, none⟩ = some (.slice ao0 l.length cap0) := row_at r_a7.out 0
  have c_a7_1 : W7.cell? ⟨w.heap.size, 1, none⟩ = some (.int .i64 h.n) := row_at r_a7.out 1
  have c_a7_2 : W7.cell? ⟨w.heap.size, 2, none⟩ = some (.string h.r) := row_at r_a7.out 2
  have c_a7_3 : W7.cell? ⟨w.heap.size, 3, none⟩ = some (.slice ao1 b.length cap1) := row_at r_a7.out 3
  have c_a7_4 : W7.cell? ⟨w.heap.size, 4, none⟩ = some (.int .i64 s) := row_at r_a7.out 4
  have c_x07_0 : W7.cell? ⟨W5.heap.size, 0, none⟩ = some (.slice ao_x L_x cap_x) := row_at r_x07.out 0
  have c_x07_1 : W7.cell? ⟨W5.heap.size, 1, none⟩ = some (.int .i64 h.n) := row_at r_x07.out 1
  have c_x07_2 : W7.cell? ⟨W5.heap.size, 2, none⟩ = some (.string h.r) := row_at r_x07.out 2
  have c_x07_3 : W7.cell? ⟨W5.heap.size, 3, none⟩ = some (.slice ao_xp L_xp cap_xp) := row_at r_x07.out 3
  have c_x07_4 : W7.cell? ⟨W5.heap.size, 4, none⟩ = some (.int .i64 s) := row_at r_x07.out 4
  clear r_a6 c_a6_0 c_a6_1 c_a6_2 c_a6_3 c_a6_4 r_x06 c_x06_0 c_x06_1 c_x06_2 c_x06_3 c_x06_4 o_m6 o_x6 o_xp6
  go_wp2_with fail
  refine (eq_true W7 _ _ P o_g7.out.sl o_m7.out.sl (by omega)).mono ?_
  rintro e W8 ⟨rfl, h8, _⟩
  have b8 : Below W7.heap.size W7 W8 := h8 _
  clear h8
  have z8 : W7.heap.size ≤ W8.heap.size := b8.size
  have B8 : Hid (Below w.heap.size w W8) := B7.out.trans (b8.mono B7.out.size)
  have r_a8 : Hid (W8.heap[w.heap.size]? = some (.cells #[.slice ao0 l.length cap0, .int .i64 h.n, .string h.r, .slice ao1 b.length cap1, .int .i64 s] 29 (0, 0))) := rowKeep r_a7.out b8
  have r_x08 : Hid (W8.heap[W5.heap.size]? = some (.cells #[.slice ao_x L_x cap_x, .int .i64 h.n, .string h.r, .slice ao_xp L_xp cap_xp, .int .i64 s] 36 (0, 0))) := rowKeep r_x07.out b8
  have o_m8 : Hid (Own W8 (W3.heap.size) (W4.heap.size) 5 (.slice ao_m L_m cap_m) (bs P)) := Own.later o_m7.out b8 (by omega)
  have o_x8 : Hid (Own W8 (lo_x) (hi_x) 9 (.slice ao_x L_x cap_x) (ss l)) := Own.later o_x7.out b8 (by omega)
  have o_xp8 : Hid (Own W8 (lo_xp) (hi_xp) 5 (.slice ao_xp L_xp cap_xp) (bs b)) := Own.later o_xp7.out b8 (by omega)
  have o_g8 : Hid (Own W8 (W6.heap.size) (W7.heap.size) 5 (.slice ao_g L_g cap_g) (bs P)) := Own.later o_g7.out b8 (by omega)
  have c_a8_0 : W8.cell? ⟨w.heap.size, 0, none⟩ = some (.slice ao0 l.length cap0) := row_at r_a8.out 0
  have c_a8_1 : W8.cell? ⟨w.heap.size, 1, none⟩ = some (.int .i64 h.n) := row_at r_a8.out 1
  have c_a8_2 : W8.cell? ⟨w.heap.size, 2, none⟩ = some (.string h.r) := row_at r_a8.out 2
  have c_a8_3 : W8.cell? ⟨w.heap.size, 3, none⟩ = some (.slice ao1 b.length cap1) := row_at r_a8.out 3
  have c_a8_4 : W8.cell? ⟨w.heap.size, 4, none⟩ = some (.int .i64 s) := row_at r_a8.out 4
  have c_x08_0 : W8.cell? ⟨W5.heap.size, 0, none⟩ = some (.slice ao_x L_x cap_x) := row_at r_x08.out 0
  have c_x08_1 : W8.cell? ⟨W5.heap.size, 1, none⟩ = some (.int .i64 h.n) := row_at r_x08.out 1
  have c_x08_2 : W8.cell? ⟨W5.heap.size, 2, none⟩ = some (.string h.r) := row_at r_x08.out 2
  have c_x08_3 : W8.cell? ⟨W5.heap.size, 3, none⟩ = some (.slice ao_xp L_xp cap_xp) := row_at r_x08.out 3
  have c_x08_4 : W8.cell? ⟨W5.heap.size, 4, none⟩ = some (.int .i64 s) := row_at r_x08.out 4
  clear r_a7 c_a7_0 c_a7_1 c_a7_2 c_a7_3 c_a7_4 r_x07 c_x07_0 c_x07_1 c_x07_2 c_x07_3 c_x07_4 o_m7 o_x7 o_xp7 o_g7
  go_wp2_with fail
  refine wp_region_held_drew (S := fun w' => w'.cell? ⟨W5.heap.size, 0, none⟩ = some (.slice ao_x L_x cap_x) ∧ w'.cell? ⟨W5.heap.size, 1, none⟩ = some (.int .i64 h.n) ∧ w'.cell? ⟨W5.heap.size, 2, none⟩ = some (.string h.r) ∧ w'.cell? ⟨W5.heap.size, 3, none⟩ = some (.slice ao_xp L_xp cap_xp) ∧ w'.cell? ⟨W5.heap.size, 4, none⟩ = some (.int .i64 s) ∧ w'.cell? ⟨w.heap.size, 0, none⟩ = some (.slice ao0 l.length cap0) ∧ w'.cell? ⟨w.heap.size, 1, none⟩ = some (.int .i64 h.n) ∧ w'.cell? ⟨w.heap.size, 2, none⟩ = some (.string h.r) ∧ w'.cell? ⟨w.heap.size, 3, none⟩ = some (.slice ao1 b.length cap1) ∧ w'.cell? ⟨w.heap.size, 4, none⟩ = some (.int .i64 s)) (by kernel_rfl) ⟨c_x08_0, c_x08_1, c_x08_2, c_x08_3, c_x08_4, c_a8_0, c_a8_1, c_a8_2, c_a8_3, c_a8_4⟩ (fun hHeld => ?_)
  (refine wpAnyH_take (i := 0) (v := ?v0x1) rfl (by kernel_rfl) (by kernel_rfl) (by kernel_rfl) (fun _ _ _ h => h) (Or.inl ⟨by rfl, ?hy0x1⟩) (by assumption) ?rest0x1; case hy0x1 => (intro w hSw; (try dsimp only at hSw); go_split_ands; go_simp; (try with_reducible rfl)))
  try simp only [Act.put, List.setIfInBounds_toArray, List.set_cons_zero, List.set_cons_succ, List.getElem_toArray, List.getElem_cons_zero, List.getElem_cons_succ]
  (refine wpAnyH_take (i := 1) (v := ?v1x2) rfl (by kernel_rfl) (by kernel_rfl) (by kernel_rfl) (fun _ _ _ h => h) (Or.inl ⟨by rfl, ?hy1x2⟩) (by assumption) ?rest1x2; case hy1x2 => (intro w hSw; (try dsimp only at hSw); go_split_ands; go_simp; (try with_reducible rfl)))
  try simp only [Act.put, List.setIfInBounds_toArray, List.set_cons_zero, List.set_cons_succ, List.getElem_toArray, List.getElem_cons_zero, List.getElem_cons_succ]
  refine wpAnyH_ready (rs := [2]) (by kernel_rfl) (by simp) ?_
  refine AllReadyH.cons rfl (fun K hK => ?_) AllReadyH.nil
  go_simp
  refine (to_store W8.drew _ _ l h b s (Sl.later (w := W8) (HS.out.later B8.out) (Below.drew (Below.refl _ _))) (Sl.later (w := W8) (HSB.out.later B8.out) (Below.drew (Below.refl _ _))) (by omega) (by omega)).mono ?_
  rintro e W9 ⟨v_u, v_up, rfl, o_u9, o_up9, b9⟩
  have b9 : Below W8.heap.size W8 W9 := (Below.drew (Below.refl _ _)).trans b9
  have o_u9 : Own W9 W8.heap.size W9.heap.size 9 _ _ := o_u9
  have o_up9 : Own W9 W8.heap.size W9.heap.size 5 _ _ := o_up9
  refine hK.out _ _ ⟨(keepR (W := W8) hHeld.1 b9), (keepR (W := W8) hHeld.2.1 b9), (keepR (W := W8) hHeld.2.2.1 b9), (keepR (W := W8) hHeld.2.2.2.1 b9), (keepR (W := W8) hHeld.2.2.2.2.1 b9), (keepR (W := W8) hHeld.2.2.2.2.2.1 b9), (keepR (W := W8) hHeld.2.2.2.2.2.2.1 b9), (keepR (W := W8) hHeld.2.2.2.2.2.2.2.1 b9), (keepR (W := W8) hHeld.2.2.2.2.2.2.2.2.1 b9), (keepR (W := W8) hHeld.2.2.2.2.2.2.2.2.2 b9)⟩ (fun hHeld => ?_)
  clear hK K
  try simp only [Act.put, List.setIfInBounds_toArray, List.set_cons_zero, List.set_cons_succ, List.getElem_toArray, List.getElem_cons_zero, List.getElem_cons_succ]
  obtain ⟨lo_u, hi_u, lo_up, hi_up, d1_u, d2_u, d3_u, d4_u, d5_u, d6_u, d7_u, oo_u, oo_up⟩ := Sr.pairN o_u9 o_up9 b9.size
  clear o_u9 o_up9
  obtain ⟨ao_u, L_u, cap_u, rfl, _, _⟩ := oo_u.form
  obtain ⟨ao_up, L_up, cap_up, rfl, _, _⟩ := oo_up.form
  have o_u9 : Hid (Own W9 lo_u hi_u 9 (.slice ao_u L_u cap_u) (ss l)) := oo_u
  have o_up9 : Hid (Own W9 lo_up hi_up 5 (.slice ao_up L_up cap_up) (bs b)) := oo_up
  clear oo_u oo_up
  have z9 : W8.heap.size ≤ W9.heap.size := b9.size
  have B9 : Hid (Below w.heap.size w W9) := B8.out.trans (b9.mono B8.out.size)
  have r_a9 : Hid (W9.heap[w.heap.size]? = some (.cells #[.slice ao0 l.length cap0, .int .i64 h.n, .string h.r, .slice ao1 b.length cap1, .int .i64 s] 29 (0, 0))) := rowKeep r_a8.out b9
  have r_x09 : Hid (W9.heap[W5.heap.size]? = some (.cells #[.slice ao_x L_x cap_x, .int .i64 h.n, .string h.r, .slice ao_xp L_xp cap_xp, .int .i64 s] 36 (0, 0))) := rowKeep r_x08.out b9
  have o_m9 : Hid (Own W9 (W3.heap.size) (W4.heap.size) 5 (.slice ao_m L_m cap_m) (bs P)) := Own.later o_m8.out b9 (by omega)
  have o_x9 : Hid (Own W9 (lo_x) (hi_x) 9 (.slice ao_x L_x cap_x) (ss l)) := Own.later o_x8.out b9 (by omega)
  have o_xp9 : Hid (Own W9 (lo_xp) (hi_xp) 5 (.slice ao_xp L_xp cap_xp) (bs b)) := Own.later o_xp8.out b9 (by omega)
  have o_g9 : Hid (Own W9 (W6.heap.size) (W7.heap.size) 5 (.slice ao_g L_g cap_g) (bs P)) := Own.later o_g8.out b9 (by omega)
  have c_a9_0 : W9.cell? ⟨w.heap.size, 0, none⟩ = some (.slice ao0 l.length cap0) := row_at r_a9.out 0
  have c_a9_1 : W9.cell? ⟨w.heap.size, 1, none⟩ = some (.int .i64 h.n) := row_at r_a9.out 1
  have c_a9_2 : W9.cell? ⟨w.heap.size, 2, none⟩ = some (.string h.r) := row_at r_a9.out 2
  have c_a9_3 : W9.cell? ⟨w.heap.size, 3, none⟩ = some (.slice ao1 b.length cap1) := row_at r_a9.out 3
  have c_a9_4 : W9.cell? ⟨w.heap.size, 4, none⟩ = some (.int .i64 s) := row_at r_a9.out 4
  have c_x09_0 : W9.cell? ⟨W5.heap.size, 0, none⟩ = some (.slice ao_x L_x cap_x) := row_at r_x09.out 0
  have c_x09_1 : W9.cell? ⟨W5.heap.size, 1, none⟩ = some (.int .i64 h.n) := row_at r_x09.out 1
  have c_x09_2 : W9.cell? ⟨W5.heap.size, 2, none⟩ = some (.string h.r) := row_at r_x09.out 2
  have c_x09_3 : W9.cell? ⟨W5.heap.size, 3, none⟩ = some (.slice ao_xp L_xp cap_xp) := row_at r_x09.out 3
  have c_x09_4 : W9.cell? ⟨W5.heap.size, 4, none⟩ = some (.int .i64 s) := row_at r_x09.out 4
  clear r_a8 c_a8_0 c_a8_1 c_a8_2 c_a8_3 c_a8_4 r_x08 c_x08_0 c_x08_1 c_x08_2 c_x08_3 c_x08_4 o_m8 o_x8 o_xp8 o_g8
  refine wpAnyH_ready (rs := [3]) (by kernel_rfl) (by simp) ?_
  refine AllReadyH.cons rfl (fun K hK => ?_) AllReadyH.nil
  go_simp
  refine (eq_store W9 _ _ _ _ l h b s o_x9.out.sl o_u9.out.sl o_xp9.out.sl o_up9.out.sl (by omega) (by omega)).mono ?_
  rintro e W10 ⟨rfl, b10⟩
  refine hK.out _ _ ⟨(keepR (W := W9) hHeld.1 b10), (keepR (W := W9) hHeld.2.1 b10), (keepR (W := W9) hHeld.2.2.1 b10), (keepR (W := W9) hHeld.2.2.2.1 b10), (keepR (W := W9) hHeld.2.2.2.2.1 b10), (keepR (W := W9) hHeld.2.2.2.2.2.1 b10), (keepR (W := W9) hHeld.2.2.2.2.2.2.1 b10), (keepR (W := W9) hHeld.2.2.2.2.2.2.2.1 b10), (keepR (W := W9) hHeld.2.2.2.2.2.2.2.2.1 b10), (keepR (W := W9) hHeld.2.2.2.2.2.2.2.2.2 b10)⟩ (fun hHeld => ?_)
  clear hK K
  try simp only [Act.put, List.setIfInBounds_toArray, List.set_cons_zero, List.set_cons_succ, List.getElem_toArray, List.getElem_cons_zero, List.getElem_cons_succ]
  have z10 : W9.heap.size ≤ W10.heap.size := b10.size
  have B10 : Hid (Below w.heap.size w W10) := B9.out.trans (b10.mono B9.out.size)
  have r_a10 : Hid (W10.heap[w.heap.size]? = some (.cells #[.slice ao0 l.length cap0, .int .i64 h.n, .string h.r, .slice ao1 b.length cap1, .int .i64 s] 29 (0, 0))) := rowKeep r_a9.out b10
  have r_x010 : Hid (W10.heap[W5.heap.size]? = some (.cells #[.slice ao_x L_x cap_x, .int .i64 h.n, .string h.r, .slice ao_xp L_xp cap_xp, .int .i64 s] 36 (0, 0))) := rowKeep r_x09.out b10
  have o_m10 : Hid (Own W10 (W3.heap.size) (W4.heap.size) 5 (.slice ao_m L_m cap_m) (bs P)) := Own.later o_m9.out b10 (by omega)
  have o_x10 : Hid (Own W10 (lo_x) (hi_x) 9 (.slice ao_x L_x cap_x) (ss l)) := Own.later o_x9.out b10 (by omega)
  have o_xp10 : Hid (Own W10 (lo_xp) (hi_xp) 5 (.slice ao_xp L_xp cap_xp) (bs b)) := Own.later o_xp9.out b10 (by omega)
  have o_g10 : Hid (Own W10 (W6.heap.size) (W7.heap.size) 5 (.slice ao_g L_g cap_g) (bs P)) := Own.later o_g9.out b10 (by omega)
  have o_u10 : Hid (Own W10 (lo_u) (hi_u) 9 (.slice ao_u L_u cap_u) (ss l)) := Own.later o_u9.out b10 (by omega)
  have o_up10 : Hid (Own W10 (lo_up) (hi_up) 5 (.slice ao_up L_up cap_up) (bs b)) := Own.later o_up9.out b10 (by omega)
  have c_a10_0 : W10.cell? ⟨w.heap.size, 0, none⟩ = some (.slice ao0 l.length cap0) := row_at r_a10.out 0
  have c_a10_1 : W10.cell? ⟨w.heap.size, 1, none⟩ = some (.int .i64 h.n) := row_at r_a10.out 1
  have c_a10_2 : W10.cell? ⟨w.heap.size, 2, none⟩ = some (.string h.r) := row_at r_a10.out 2
  have c_a10_3 : W10.cell? ⟨w.heap.size, 3, none⟩ = some (.slice ao1 b.length cap1) := row_at r_a10.out 3
  have c_a10_4 : W10.cell? ⟨w.heap.size, 4, none⟩ = some (.int .i64 s) := row_at r_a10.out 4
  have c_x010_0 : W10.cell? ⟨W5.heap.size, 0, none⟩ = some (.slice ao_x L_x cap_x) := row_at r_x010.out 0
  have c_x010_1 : W10.cell? ⟨W5.heap.size, 1, none⟩ = some (.int .i64 h.n) := row_at r_x010.out 1
  have c_x010_2 : W10.cell? ⟨W5.heap.size, 2, none⟩ = some (.string h.r) := row_at r_x010.out 2
  have c_x010_3 : W10.cell? ⟨W5.heap.size, 3, none⟩ = some (.slice ao_xp L_xp cap_xp) := row_at r_x010.out 3
  have c_x010_4 : W10.cell? ⟨W5.heap.size, 4, none⟩ = some (.int .i64 s) := row_at r_x010.out 4
  clear r_a9 c_a9_0 c_a9_1 c_a9_2 c_a9_3 c_a9_4 r_x09 c_x09_0 c_x09_1 c_x09_2 c_x09_3 c_x09_4 o_m9 o_x9 o_xp9 o_g9 o_u9 o_up9
  (refine wpAnyH_take (i := 4) (v := ?v4x3) rfl (by kernel_rfl) (by kernel_rfl) (by kernel_rfl) (fun _ _ _ h => h) (Or.inl ⟨by rfl, ?hy4x3⟩) (by assumption) ?rest4x3; case hy4x3 => (intro w hSw; (try dsimp only at hSw); go_split_ands; go_simp; (try with_reducible rfl)))
  try simp only [Act.put, List.setIfInBounds_toArray, List.set_cons_zero, List.set_cons_succ, List.getElem_toArray, List.getElem_cons_zero, List.getElem_cons_succ]
  refine wpAnyH_done (by kernel_rfl) ?_ _
  clear hHeld
  clear o_u10
  clear o_up10
  go_wp2_with fail
  refine (mark_store W10 h _ _ s _ _ _ _ l b 1 o_x10.out o_xp10.out (by omega) (by omega) (by omega) (by omega) (by omega) (by omega) (by omega)).mono ?_
  rintro e W11 ⟨rfl, o_x11, o_xp11, p11⟩
  have o_x11 : Hid (Own W11 (lo_x) (hi_x) 9 (.slice ao_x L_x cap_x) (ss (Strs.mts 1 l.length))) := o_x11
  have o_xp11 : Hid (Own W11 (lo_xp) (hi_xp) 5 (.slice ao_xp L_xp cap_xp) (bs (marks (1 + l.length) b.length))) := o_xp11
  have z11 : W10.heap.size ≤ W11.heap.size := p11.size
  have B11 : Hid (Below w.heap.size w W11) := B10.out.trans (p11.below (by have := B10.out.size; omega) (by have := B10.out.size; omega) B10.out.size)
  have r_a11 : Hid (W11.heap[w.heap.size]? = some (.cells #[.slice ao0 l.length cap0, .int .i64 h.n, .string h.r, .slice ao1 b.length cap1, .int .i64 s] 29 (0, 0))) := (p11.block (w.heap.size) (by omega) (by omega) (by omega)).trans r_a10.out
  have r_x011 : Hid (W11.heap[W5.heap.size]? = some (.cells #[.slice ao_x L_x cap_x, .int .i64 h.n, .string h.r, .slice ao_xp L_xp cap_xp, .int .i64 s] 36 (0, 0))) := (p11.block (W5.heap.size) (by omega) (by omega) (by omega)).trans r_x010.out
  have o_m11 : Hid (Own W11 (W3.heap.size) (W4.heap.size) 5 (.slice ao_m L_m cap_m) (bs P)) := Sr.Own.apart2 o_m10.out p11 (by omega) (by omega) (by omega)
  have o_g11 : Hid (Own W11 (W6.heap.size) (W7.heap.size) 5 (.slice ao_g L_g cap_g) (bs P)) := Sr.Own.apart2 o_g10.out p11 (by omega) (by omega) (by omega)
  have c_a11_0 : W11.cell? ⟨w.heap.size, 0, none⟩ = some (.slice ao0 l.length cap0) := row_at r_a11.out 0
  have c_a11_1 : W11.cell? ⟨w.heap.size, 1, none⟩ = some (.int .i64 h.n) := row_at r_a11.out 1
  have c_a11_2 : W11.cell? ⟨w.heap.size, 2, none⟩ = some (.string h.r) := row_at r_a11.out 2
  have c_a11_3 : W11.cell? ⟨w.heap.size, 3, none⟩ = some (.slice ao1 b.length cap1) := row_at r_a11.out 3
  have c_a11_4 : W11.cell? ⟨w.heap.size, 4, none⟩ = some (.int .i64 s) := row_at r_a11.out 4
  have c_x011_0 : W11.cell? ⟨W5.heap.size, 0, none⟩ = some (.slice ao_x L_x cap_x) := row_at r_x011.out 0
  have c_x011_1 : W11.cell? ⟨W5.heap.size, 1, none⟩ = some (.int .i64 h.n) := row_at r_x011.out 1
  have c_x011_2 : W11.cell? ⟨W5.heap.size, 2, none⟩ = some (.string h.r) := row_at r_x011.out 2
  have c_x011_3 : W11.cell? ⟨W5.heap.size, 3, none⟩ = some (.slice ao_xp L_xp cap_xp) := row_at r_x011.out 3
  have c_x011_4 : W11.cell? ⟨W5.heap.size, 4, none⟩ = some (.int .i64 s) := row_at r_x011.out 4
  clear r_a10 c_a10_0 c_a10_1 c_a10_2 c_a10_3 c_a10_4 r_x010 c_x010_0 c_x010_1 c_x010_2 c_x010_3 c_x010_4 o_m10 o_x10 o_xp10 o_g10
  clear o_x11
  clear o_xp11
  clear r_x011 c_x011_0 c_x011_1 c_x011_2 c_x011_3 c_x011_4
  have dk : ¬ ((1 + l.length + b.length : Nat) : Int) < 0 := by omega
  go_wp2_with fail
  refine (eq_true W11 _ _ P o_g11.out.sl o_m11.out.sl (by omega)).mono ?_
  rintro e W12 ⟨rfl, h12, _⟩
  have b12 : Below W11.heap.size W11 W12 := h12 _
  clear h12
  have z12 : W11.heap.size ≤ W12.heap.size := b12.size
  have B12 : Hid (Below w.heap.size w W12) := B11.out.trans (b12.mono B11.out.size)
  have r_a12 : Hid (W12.heap[w.heap.size]? = some (.cells #[.slice ao0 l.length cap0, .int .i64 h.n, .string h.r, .slice ao1 b.length cap1, .int .i64 s] 29 (0, 0))) := rowKeep r_a11.out b12
  have o_m12 : Hid (Own W12 (W3.heap.size) (W4.heap.size) 5 (.slice ao_m L_m cap_m) (bs P)) := Own.later o_m11.out b12 (by omega)
  have o_g12 : Hid (Own W12 (W6.heap.size) (W7.heap.size) 5 (.slice ao_g L_g cap_g) (bs P)) := Own.later o_g11.out b12 (by omega)
  have c_a12_0 : W12.cell? ⟨w.heap.size, 0, none⟩ = some (.slice ao0 l.length cap0) := row_at r_a12.out 0
  have c_a12_1 : W12.cell? ⟨w.heap.size, 1, none⟩ = some (.int .i64 h.n) := row_at r_a12.out 1
  have c_a12_2 : W12.cell? ⟨w.heap.size, 2, none⟩ = some (.string h.r) := row_at r_a12.out 2
  have c_a12_3 : W12.cell? ⟨w.heap.size, 3, none⟩ = some (.slice ao1 b.length cap1) := row_at r_a12.out 3
  have c_a12_4 : W12.cell? ⟨w.heap.size, 4, none⟩ = some (.int .i64 s) := row_at r_a12.out 4
  clear r_a11 c_a11_0 c_a11_1 c_a11_2 c_a11_3 c_a11_4 o_m11 o_g11
  go_wp2_with fail
  refine (mark_bytes W12 _ (W6.heap.size) (W7.heap.size) P 1 o_g12.out (by omega) (by omega)).mono ?_
  rintro e W13 ⟨rfl, o_g13, p13⟩
  have o_g13 : Hid (Own W13 (W6.heap.size) (W7.heap.size) 5 (.slice ao_g L_g cap_g) (bs (marks 1 P.length))) := o_g13
  have z13 : W12.heap.size ≤ W13.heap.size := p13.size
  have B13 : Hid (Below w.heap.size w W13) := B12.out.trans (p13.below (by have := B12.out.size; omega) B12.out.size)
  have r_a13 : Hid (W13.heap[w.heap.size]? = some (.cells #[.slice ao0 l.length cap0, .int .i64 h.n, .string h.r, .slice ao1 b.length cap1, .int .i64 s] 29 (0, 0))) := (p13.block (w.heap.size) (by omega) (by omega)).trans r_a12.out
  have o_m13 : Hid (Own W13 (W3.heap.size) (W4.heap.size) 5 (.slice ao_m L_m cap_m) (bs P)) := Own.apart o_m12.out p13 (by omega) (by omega)
  have c_a13_0 : W13.cell? ⟨w.heap.size, 0, none⟩ = some (.slice ao0 l.length cap0) := row_at r_a13.out 0
  have c_a13_1 : W13.cell? ⟨w.heap.size, 1, none⟩ = some (.int .i64 h.n) := row_at r_a13.out 1
  have c_a13_2 : W13.cell? ⟨w.heap.size, 2, none⟩ = some (.string h.r) := row_at r_a13.out 2
  have c_a13_3 : W13.cell? ⟨w.heap.size, 3, none⟩ = some (.slice ao1 b.length cap1) := row_at r_a13.out 3
  have c_a13_4 : W13.cell? ⟨w.heap.size, 4, none⟩ = some (.int .i64 s) := row_at r_a13.out 4
  clear r_a12 c_a12_0 c_a12_1 c_a12_2 c_a12_3 c_a12_4 o_m12 o_g12
  have dk2 : ¬ ((1 + P.length : Nat) : Int) < 0 := by omega
  go_wp2_with fail
  refine (held_any W13 _ P.length 1 o_g13.out.sl (by omega) (by omega)).mono ?_
  rintro e W_ ⟨rfl, hW_⟩
  have hW_ := hW_.symm
  subst hW_
  go_wp2_with fail
  refine (to_store W13 _ _ l h b s (HS.out.later B13.out) (HSB.out.later B13.out) (by omega) (by omega)).mono ?_
  rintro e W14 ⟨v_y, v_yp, rfl, o_y14, o_yp14, b14⟩
  obtain ⟨lo_y, hi_y, lo_yp, hi_yp, d1_y, d2_y, d3_y, d4_y, d5_y, d6_y, d7_y, oo_y, oo_yp⟩ := Sr.pairN o_y14 o_yp14 b14.size
  clear o_y14 o_yp14
  obtain ⟨ao_y, L_y, cap_y, rfl, _, _⟩ := oo_y.form
  obtain ⟨ao_yp, L_yp, cap_yp, rfl, _, _⟩ := oo_yp.form
  have o_y14 : Hid (Own W14 lo_y hi_y 9 (.slice ao_y L_y cap_y) (ss l)) := oo_y
  have o_yp14 : Hid (Own W14 lo_yp hi_yp 5 (.slice ao_yp L_yp cap_yp) (bs b)) := oo_yp
  clear oo_y oo_yp
  have z14 : W13.heap.size ≤ W14.heap.size := b14.size
  have B14 : Hid (Below w.heap.size w W14) := B13.out.trans (b14.mono B13.out.size)
  have r_a14 : Hid (W14.heap[w.heap.size]? = some (.cells #[.slice ao0 l.length cap0, .int .i64 h.n, .string h.r, .slice ao1 b.length cap1, .int .i64 s] 29 (0, 0))) := rowKeep r_a13.out b14
  have o_m14 : Hid (Own W14 (W3.heap.size) (W4.heap.size) 5 (.slice ao_m L_m cap_m) (bs P)) := Own.later o_m13.out b14 (by omega)
  have o_g14 : Hid (Own W14 (W6.heap.size) (W7.heap.size) 5 (.slice ao_g L_g cap_g) (bs (marks 1 P.length))) := Own.later o_g13.out b14 (by omega)
  have c_a14_0 : W14.cell? ⟨w.heap.size, 0, none⟩ = some (.slice ao0 l.length cap0) := row_at r_a14.out 0
  have c_a14_1 : W14.cell? ⟨w.heap.size, 1, none⟩ = some (.int .i64 h.n) := row_at r_a14.out 1
  have c_a14_2 : W14.cell? ⟨w.heap.size, 2, none⟩ = some (.string h.r) := row_at r_a14.out 2
  have c_a14_3 : W14.cell? ⟨w.heap.size, 3, none⟩ = some (.slice ao1 b.length cap1) := row_at r_a14.out 3
  have c_a14_4 : W14.cell? ⟨w.heap.size, 4, none⟩ = some (.int .i64 s) := row_at r_a14.out 4
  clear r_a13 c_a13_0 c_a13_1 c_a13_2 c_a13_3 c_a13_4 o_m13 o_g13
  go_wp2_with fail
  refine (q2 W14 _ _ B14.out o_y14.out.sl o_yp14.out.sl).mono ?_
  rintro e W15 ⟨v_h, rfl, o_h15, b15⟩
  obtain ⟨ao_h, L_h, cap_h, rfl, hL_h, hM_h⟩ := o_h15.form
  have o_h15 : Hid (Own W15 W14.heap.size W15.heap.size 5 (.slice ao_h L_h cap_h) (bs P)) := o_h15
  clear hL_h hM_h
  have z15 : W14.heap.size ≤ W15.heap.size := b15.size
  have B15 : Hid (Below w.heap.size w W15) := B14.out.trans (b15.mono B14.out.size)
  have r_a15 : Hid (W15.heap[w.heap.size]? = some (.cells #[.slice ao0 l.length cap0, .int .i64 h.n, .string h.r, .slice ao1 b.length cap1, .int .i64 s] 29 (0, 0))) := rowKeep r_a14.out b15
  have o_m15 : Hid (Own W15 (W3.heap.size) (W4.heap.size) 5 (.slice ao_m L_m cap_m) (bs P)) := Own.later o_m14.out b15 (by omega)
  have o_g15 : Hid (Own W15 (W6.heap.size) (W7.heap.size) 5 (.slice ao_g L_g cap_g) (bs (marks 1 P.length))) := Own.later o_g14.out b15 (by omega)
  have o_y15 : Hid (Own W15 (lo_y) (hi_y) 9 (.slice ao_y L_y cap_y) (ss l)) := Own.later o_y14.out b15 (by omega)
  have o_yp15 : Hid (Own W15 (lo_yp) (hi_yp) 5 (.slice ao_yp L_yp cap_yp) (bs b)) := Own.later o_yp14.out b15 (by omega)
  have c_a15_0 : W15.cell? ⟨w.heap.size, 0, none⟩ = some (.slice ao0 l.length cap0) := row_at r_a15.out 0
  have c_a15_1 : W15.cell? ⟨w.heap.size, 1, none⟩ = some (.int .i64 h.n) := row_at r_a15.out 1
  have c_a15_2 : W15.cell? ⟨w.heap.size, 2, none⟩ = some (.string h.r) := row_at r_a15.out 2
  have c_a15_3 : W15.cell? ⟨w.heap.size, 3, none⟩ = some (.slice ao1 b.length cap1) := row_at r_a15.out 3
  have c_a15_4 : W15.cell? ⟨w.heap.size, 4, none⟩ = some (.int .i64 s) := row_at r_a15.out 4
  clear r_a14 c_a14_0 c_a14_1 c_a14_2 c_a14_3 c_a14_4 o_m14 o_g14 o_y14 o_yp14
  clear o_y15
  clear o_yp15
  go_wp2_with fail
  refine (eq_true W15 _ _ P o_h15.out.sl o_m15.out.sl (by omega)).mono ?_
  rintro e W16 ⟨rfl, h16, _⟩
  have b16 : Below W15.heap.size W15 W16 := h16 _
  clear h16
  have z16 : W15.heap.size ≤ W16.heap.size := b16.size
  have B16 : Hid (Below w.heap.size w W16) := B15.out.trans (b16.mono B15.out.size)
  have r_a16 : Hid (W16.heap[w.heap.size]? = some (.cells #[.slice ao0 l.length cap0, .int .i64 h.n, .string h.r, .slice ao1 b.length cap1, .int .i64 s] 29 (0, 0))) := rowKeep r_a15.out b16
  have o_m16 : Hid (Own W16 (W3.heap.size) (W4.heap.size) 5 (.slice ao_m L_m cap_m) (bs P)) := Own.later o_m15.out b16 (by omega)
  have o_g16 : Hid (Own W16 (W6.heap.size) (W7.heap.size) 5 (.slice ao_g L_g cap_g) (bs (marks 1 P.length))) := Own.later o_g15.out b16 (by omega)
  have o_h16 : Hid (Own W16 (W14.heap.size) (W15.heap.size) 5 (.slice ao_h L_h cap_h) (bs P)) := Own.later o_h15.out b16 (by omega)
  have c_a16_0 : W16.cell? ⟨w.heap.size, 0, none⟩ = some (.slice ao0 l.length cap0) := row_at r_a16.out 0
  have c_a16_1 : W16.cell? ⟨w.heap.size, 1, none⟩ = some (.int .i64 h.n) := row_at r_a16.out 1
  have c_a16_2 : W16.cell? ⟨w.heap.size, 2, none⟩ = some (.string h.r) := row_at r_a16.out 2
  have c_a16_3 : W16.cell? ⟨w.heap.size, 3, none⟩ = some (.slice ao1 b.length cap1) := row_at r_a16.out 3
  have c_a16_4 : W16.cell? ⟨w.heap.size, 4, none⟩ = some (.int .i64 s) := row_at r_a16.out 4
  clear r_a15 c_a15_0 c_a15_1 c_a15_2 c_a15_3 c_a15_4 o_m15 o_g15 o_h15
  go_wp2_with fail
  refine (held_any W16 _ P.length 1 o_g16.out.sl (by omega) (by omega)).mono ?_
  rintro e W_ ⟨rfl, hW_⟩
  have hW_ := hW_.symm
  subst hW_
  go_wp2
  go_ret
  exact ⟨rfl, B16.out⟩

end Go.Proofs.Ytfpaichdkddglab.Sr
