/- Chapter 13, the landed code: whether a word is right. -/
import Derived.Test.YteemblfjghnooaaWdA
namespace Go.Proofs.Yteemblfjghnooaa.Wd
open Go.Proofs.Yteemblfjghnooaa.Mg
open Go.RowKit Go.Proofs.Yteemblfjghnooaa.Mem Go.Proofs.Yteemblfjghnooaa.Laws Go.Proofs.Yteemblfjghnooaa.Bytes Go.Proofs.Yteemblfjghnooaa.Sha Go.Proofs.Yteemblfjghnooaa.Tr Go.Proofs.Yteemblfjghnooaa.He
set_option linter.unusedVariables false
set_option linter.unusedSimpArgs false

theorem kind_top {m : Ms} (h : Mg.kindOk m = true) (ho : okH m.h = true) : m.n ≤ 200 := by
  have h1 := okH_parts13 ho
  unfold Mg.kindOk at h
  split at h
  · simp only [Bool.and_eq_true, decide_eq_true_eq] at h
    omega
  · split at h
    · simp only [Bool.and_eq_true, decide_eq_true_eq] at h
      omega
    · split at h
      · simp only [Bool.and_eq_true, decide_eq_true_eq] at h
        omega
      · cases h
theorem msg_alt (m : Ms) : msgOk m = (decide (0 ≤ m.f ∧ m.f ≤ 20) && decide (0 ≤ m.t ∧ m.t ≤ 20) && !decide (m.f = m.t) && (okH m.h && decide (0 ≤ m.n) && Mg.kindOk m)) := by
  rw [Bool.eq_iff_iff]
  unfold msgOk face
  simp only [Bool.and_eq_true, decide_eq_true_eq, Bool.not_eq_true', decide_eq_false_iff_not]
  constructor
  · rintro ⟨⟨⟨⟨⟨a, b⟩, c⟩, d⟩, e⟩, f⟩
    exact ⟨⟨⟨a, b⟩, c⟩, ⟨d, e.1⟩, f⟩
  · rintro ⟨⟨⟨a, b⟩, c⟩, ⟨d, e⟩, f⟩
    exact ⟨⟨⟨⟨⟨a, b⟩, c⟩, d⟩, ⟨e, kind_top f d⟩⟩, f⟩

set_option maxRecDepth 1000000 in
set_option maxHeartbeats 4000000 in
theorem right_h (w : World) (h : Hd) (hr : h.r.size ≤ 1000000000000) : Calls Try.prog 42 #[.iface 89 (.agg #[.int .i64 h.n, .string h.r])] w fun e w' => e = .returned (.bool (okH h)) ∧ Below w.heap.size w w' := by
  have B0 : Hid (Below w.heap.size w w) := Below.refl _ _
  have m1 := method_h
  have qh : ∀ W, _ := fun W => He.ok_impl W h hr
  obtain ⟨A, hA⟩ : ∃ A, okH h = A := ⟨_, rfl⟩
  simp only [hA] at qh
  rw [hA]
  have HA : Hid (okH h = A) := hA
  clear hA
  have t_hh := fun W v => ta_hh W v
  have t_ha := fun W v => ta_ha W v
  have t_ht := fun W v => ta_ht W v
  go_enter Try.func42, Try.ntmps42
  go_wp2_with fail
  refine (upto_h w h).mono ?_
  rintro e W1 ⟨rfl, b1⟩
  have z1 : w.heap.size ≤ W1.heap.size := b1.size
  have B1 : Hid (Below w.heap.size w W1) := B0.out.trans (b1.mono B0.out.size)
  go_wp2_with fail
  refine (qh W1).mono ?_
  rintro e W2 ⟨rfl, b2⟩
  have z2 : W1.heap.size ≤ W2.heap.size := b2.size
  have B2 : Hid (Below w.heap.size w W2) := B1.out.trans (b2.mono B1.out.size)
  clear qh
  cases A
  · go_wp2
    go_ret
    exact ⟨rfl, B2.out⟩
  · obtain ⟨W3, HW3, b3, y3, hS3, r_u3⟩ : ∃ X, Hid ((W2.alloc (.cells #[.int .i64 h.n, .string h.r] 89)) = X) ∧ Below W2.heap.size W2 X ∧ W2.heap.size + 1 ≤ X.heap.size ∧ Hid (X.heap.size = W2.heap.size + 1) ∧ Hid (X.heap[W2.heap.size]? = some (.cells #[.int .i64 h.n, .string h.r] 89 (0, 0))) := ⟨_, rfl, ((Below.refl _ _).alloc (Nat.le_refl _) _), by simp, by show _ = _; simp, (by show _ = _; exact alloc_nth1_0 W2 _)⟩
    have z3 : W2.heap.size ≤ W3.heap.size := b3.size
    have B3 : Hid (Below w.heap.size w W3) := B2.out.trans (b3.mono B2.out.size)
    have c_u3_0 : W3.cell? ⟨W2.heap.size, 0, none⟩ = some (.int .i64 h.n) := row_at r_u3.out 0
    have c_u3_1 : W3.cell? ⟨W2.heap.size, 1, none⟩ = some (.string h.r) := row_at r_u3.out 1
    go_wp2
    go_ret
    exact ⟨rfl, by rw [HW3.out]; exact B3.out⟩

set_option maxRecDepth 1000000 in
set_option maxHeartbeats 4000000 in
theorem right_a (w : World) (h : Hd) (n : Int) (hr : h.r.size ≤ 1000000000000) : Calls Try.prog 42 #[.iface 91 (.agg #[.int .i64 h.n, .string h.r, .int .i64 n])] w fun e w' => e = .returned (.bool (okH h && decide (0 ≤ n ∧ n < h.n))) ∧ Below w.heap.size w w' := by
  have B0 : Hid (Below w.heap.size w w) := Below.refl _ _
  have m1 := method_a
  have qh : ∀ W, _ := fun W => He.ok_impl W h hr
  obtain ⟨A, hA⟩ : ∃ A, okH h = A := ⟨_, rfl⟩
  simp only [hA] at qh
  rw [hA]
  have HA : Hid (okH h = A) := hA
  clear hA
  have qp : ∀ W, _ := fun W => place_impl W h n
  obtain ⟨P, hP⟩ : ∃ P, decide (0 ≤ n ∧ n < h.n) = P := ⟨_, rfl⟩
  simp only [hP] at qp
  rw [hP]
  have HP : Hid (decide (0 ≤ n ∧ n < h.n) = P) := hP
  clear hP
  have t_ah := fun W v => ta_ah W v
  have t_aa := fun W v => ta_aa W v
  have t_at := fun W v => ta_at W v
  go_enter Try.func42, Try.ntmps42
  go_wp2_with fail
  refine (upto_a w h n).mono ?_
  rintro e W1 ⟨rfl, b1⟩
  have z1 : w.heap.size ≤ W1.heap.size := b1.size
  have B1 : Hid (Below w.heap.size w W1) := B0.out.trans (b1.mono B0.out.size)
  go_wp2_with fail
  refine (qh W1).mono ?_
  rintro e W2 ⟨rfl, b2⟩
  have z2 : W1.heap.size ≤ W2.heap.size := b2.size
  have B2 : Hid (Below w.heap.size w W2) := B1.out.trans (b2.mono B1.out.size)
  clear qh
  cases A
  · go_wp2
    go_ret
    exact ⟨rfl, B2.out⟩
  · obtain ⟨W3, HW3, b3, y3, hS3, r_u3⟩ : ∃ X, Hid ((W2.alloc (.cells #[.int .i64 h.n, .string h.r, .int .i64 n] 91)) = X) ∧ Below W2.heap.size W2 X ∧ W2.heap.size + 1 ≤ X.heap.size ∧ Hid (X.heap.size = W2.heap.size + 1) ∧ Hid (X.heap[W2.heap.size]? = some (.cells #[.int .i64 h.n, .string h.r, .int .i64 n] 91 (0, 0))) := ⟨_, rfl, ((Below.refl _ _).alloc (Nat.le_refl _) _), by simp, by show _ = _; simp, (by show _ = _; exact alloc_nth1_0 W2 _)⟩
    have z3 : W2.heap.size ≤ W3.heap.size := b3.size
    have B3 : Hid (Below w.heap.size w W3) := B2.out.trans (b3.mono B2.out.size)
    have c_u3_0 : W3.cell? ⟨W2.heap.size, 0, none⟩ = some (.int .i64 h.n) := row_at r_u3.out 0
    have c_u3_1 : W3.cell? ⟨W2.heap.size, 1, none⟩ = some (.string h.r) := row_at r_u3.out 1
    have c_u3_2 : W3.cell? ⟨W2.heap.size, 2, none⟩ = some (.int .i64 n) := row_at r_u3.out 2
    go_wp2_with fail
    rw [HW3.out]
    refine (qp W3).mono ?_
    rintro e W4 ⟨rfl, b4⟩
    have z4 : W3.heap.size ≤ W4.heap.size := b4.size
    have B4 : Hid (Below w.heap.size w W4) := B3.out.trans (b4.mono B3.out.size)
    have r_u4 : Hid (W4.heap[W2.heap.size]? = some (.cells #[.int .i64 h.n, .string h.r, .int .i64 n] 91 (0, 0))) := rowKeep r_u3.out b4
    have c_u4_0 : W4.cell? ⟨W2.heap.size, 0, none⟩ = some (.int .i64 h.n) := row_at r_u4.out 0
    have c_u4_1 : W4.cell? ⟨W2.heap.size, 1, none⟩ = some (.string h.r) := row_at r_u4.out 1
    have c_u4_2 : W4.cell? ⟨W2.heap.size, 2, none⟩ = some (.int .i64 n) := row_at r_u4.out 2
    clear r_u3 c_u3_0 c_u3_1 c_u3_2
    clear qp
    go_wp2
    go_ret
    exact ⟨by simp, B4.out⟩

set_option maxRecDepth 1000000 in
set_option maxHeartbeats 4000000 in
theorem right_t (w : World) (h : Hd) (n : Int) (ao0 : Option Addr) (L cap0 : Nat) (hr : h.r.size ≤ 1000000000000) (hL : L ≤ 1000000000000) : Calls Try.prog 42 #[.iface 93 (.agg #[.int .i64 h.n, .string h.r, .int .i64 n, .slice ao0 L cap0])] w fun e w' => e = .returned (.bool (okH h && decide (0 ≤ n ∧ n < h.n) && decide ((L : Int) = h.n - n))) ∧ Below w.heap.size w w' := by
  have B0 : Hid (Below w.heap.size w w) := Below.refl _ _
  have m1 := method_t
  have qh : ∀ W, _ := fun W => He.ok_impl W h hr
  obtain ⟨A, hA⟩ : ∃ A, okH h = A := ⟨_, rfl⟩
  simp only [hA] at qh
  rw [hA]
  have HA : Hid (okH h = A) := hA
  clear hA
  have qp : ∀ W, _ := fun W => place_impl W h n
  obtain ⟨P, hP⟩ : ∃ P, decide (0 ≤ n ∧ n < h.n) = P := ⟨_, rfl⟩
  simp only [hP] at qp
  rw [hP]
  have HP : Hid (decide (0 ≤ n ∧ n < h.n) = P) := hP
  clear hP
  have t_th := fun W v => ta_th W v
  have t_ta := fun W v => ta_ta W v
  have t_tt := fun W v => ta_tt W v
  go_enter Try.func42, Try.ntmps42
  go_wp2_with fail
  refine (upto_t w h n ao0 L cap0).mono ?_
  rintro e W1 ⟨rfl, b1⟩
  have z1 : w.heap.size ≤ W1.heap.size := b1.size
  have B1 : Hid (Below w.heap.size w W1) := B0.out.trans (b1.mono B0.out.size)
  go_wp2_with fail
  refine (qh W1).mono ?_
  rintro e W2 ⟨rfl, b2⟩
  have z2 : W1.heap.size ≤ W2.heap.size := b2.size
  have B2 : Hid (Below w.heap.size w W2) := B1.out.trans (b2.mono B1.out.size)
  clear qh
  cases A
  · go_wp2
    go_ret
    exact ⟨rfl, B2.out⟩
  · obtain ⟨W3, HW3, b3, y3, hS3, r_u3⟩ : ∃ X, Hid ((W2.alloc (.cells #[.int .i64 h.n, .string h.r, .int .i64 n, .slice ao0 L cap0] 93)) = X) ∧ Below W2.heap.size W2 X ∧ W2.heap.size + 1 ≤ X.heap.size ∧ Hid (X.heap.size = W2.heap.size + 1) ∧ Hid (X.heap[W2.heap.size]? = some (.cells #[.int .i64 h.n, .string h.r, .int .i64 n, .slice ao0 L cap0] 93 (0, 0))) := ⟨_, rfl, ((Below.refl _ _).alloc (Nat.le_refl _) _), by simp, by show _ = _; simp, (by show _ = _; exact alloc_nth1_0 W2 _)⟩
    have z3 : W2.heap.size ≤ W3.heap.size := b3.size
    have B3 : Hid (Below w.heap.size w W3) := B2.out.trans (b3.mono B2.out.size)
    have c_u3_0 : W3.cell? ⟨W2.heap.size, 0, none⟩ = some (.int .i64 h.n) := row_at r_u3.out 0
    have c_u3_1 : W3.cell? ⟨W2.heap.size, 1, none⟩ = some (.string h.r) := row_at r_u3.out 1
    have c_u3_2 : W3.cell? ⟨W2.heap.size, 2, none⟩ = some (.int .i64 n) := row_at r_u3.out 2
    have c_u3_3 : W3.cell? ⟨W2.heap.size, 3, none⟩ = some (.slice ao0 L cap0) := row_at r_u3.out 3
    go_wp2_with fail
    rw [HW3.out]
    refine (qp W3).mono ?_
    rintro e W4 ⟨rfl, b4⟩
    have z4 : W3.heap.size ≤ W4.heap.size := b4.size
    have B4 : Hid (Below w.heap.size w W4) := B3.out.trans (b4.mono B3.out.size)
    have r_u4 : Hid (W4.heap[W2.heap.size]? = some (.cells #[.int .i64 h.n, .string h.r, .int .i64 n, .slice ao0 L cap0] 93 (0, 0))) := rowKeep r_u3.out b4
    have c_u4_0 : W4.cell? ⟨W2.heap.size, 0, none⟩ = some (.int .i64 h.n) := row_at r_u4.out 0
    have c_u4_1 : W4.cell? ⟨W2.heap.size, 1, none⟩ = some (.string h.r) := row_at r_u4.out 1
    have c_u4_2 : W4.cell? ⟨W2.heap.size, 2, none⟩ = some (.int .i64 n) := row_at r_u4.out 2
    have c_u4_3 : W4.cell? ⟨W2.heap.size, 3, none⟩ = some (.slice ao0 L cap0) := row_at r_u4.out 3
    clear r_u3 c_u3_0 c_u3_1 c_u3_2 c_u3_3
    clear qp
    cases P
    · go_wp2
      go_ret
      exact ⟨by simp, B4.out⟩
    · have hp := of_decide_eq_true HP.out
      have hh := okH_parts13 HA.out
      have wr : IntKind.i64.wrap (h.n - n) = h.n - n := by rw [IntKind.wrap_i64]; omega
      clear hh
      by_cases l0 : (L : Int) = h.n - n
      · have l2 : ((L : Int) == h.n - n) = true := by rw [l0]; simp
        have HL0 : Hid (decide ((L : Int) = h.n - n) = true) := decide_eq_true l0
        clear l0
        go_wp2
        go_ret
        exact ⟨by rw [HL0.out]; rfl, B4.out⟩
      · have l2 : ((L : Int) == h.n - n) = false := by rw [beq_eq_false_iff_ne]; exact l0
        have HL0 : Hid (decide ((L : Int) = h.n - n) = false) := decide_eq_false l0
        go_wp2
        go_ret
        exact ⟨by rw [HL0.out]; rfl, B4.out⟩

set_option maxRecDepth 1000000 in
set_option maxHeartbeats 4000000 in
theorem word_any (w : World) (k f t n : Int) (h : Hd) (x : List ByteArray) (ao0 : Option Addr) (cap0 : Nat) (hr : h.r.size ≤ 1000000000000) (hl : x.length ≤ 1000000000000) :
    Calls Try.prog 40 #[.agg #[.int .i64 k, .int .i64 f, .int .i64 t, .int .i64 h.n, .string h.r, .int .i64 n, .slice ao0 x.length cap0]] w fun e w' => (∃ X, e = .returned X ∧ ((X = .nilIface ∧ Hid (Mg.kindOk ⟨k, f, t, h, n, x⟩ = false)) ∨ ∃ T u, X = .iface T u ∧ Hid (∀ W, Calls Try.prog 42 #[.iface T u] W fun e w' => e = .returned (.bool (okH h && decide (0 ≤ n) && Mg.kindOk ⟨k, f, t, h, n, x⟩)) ∧ Below W.heap.size W w'))) ∧ Below w.heap.size w w' := by
  by_cases c1 : k = 1 ∧ n = 0 ∧ x.length = 0
  · obtain ⟨rfl, rfl, c⟩ := c1
    have hx : x = [] := List.eq_nil_of_length_eq_zero c
    subst hx
    refine (word1 w f t h ao0 cap0).mono ?_
    rintro e w' ⟨rfl, hb⟩
    refine ⟨⟨_, rfl, .inr ⟨_, _, rfl, fun W => (right_h W h hr).mono ?_⟩⟩, hb⟩
    rintro e w' ⟨rfl, hb⟩
    exact ⟨by simp [Mg.kindOk], hb⟩
  · by_cases c2 : k = 2 ∧ x.length = 0
    · obtain ⟨rfl, c⟩ := c2
      have hx : x = [] := List.eq_nil_of_length_eq_zero c
      subst hx
      refine (word2 w f t n h ao0 cap0).mono ?_
      rintro e w' ⟨rfl, hb⟩
      refine ⟨⟨_, rfl, .inr ⟨_, _, rfl, fun W => (right_a W h n hr).mono ?_⟩⟩, hb⟩
      rintro e w' ⟨rfl, hb⟩
      exact ⟨by simp [Mg.kindOk, Bool.and_assoc], hb⟩
    · by_cases c3 : k = 3
      · subst c3
        refine (word3 w f t n h ao0 x.length cap0).mono ?_
        rintro e w' ⟨rfl, hb⟩
        refine ⟨⟨_, rfl, .inr ⟨_, _, rfl, fun W => (right_t W h n ao0 x.length cap0 hr hl).mono ?_⟩⟩, hb⟩
        rintro e w' ⟨rfl, hb⟩
        exact ⟨by simp [Mg.kindOk, Bool.and_assoc], hb⟩
      · refine (word0 w k f t n h ao0 x.length cap0 c1 c2 c3).mono ?_
        rintro e w' ⟨rfl, hb⟩
        refine ⟨⟨_, rfl, .inl ⟨rfl, ?_⟩⟩, hb⟩
        show _ = _
        unfold Mg.kindOk
        simp only
        split
        · rename_i q
          subst q
          by_cases c : n = 0
          · have : ¬ x.length = 0 := fun z => c1 ⟨rfl, c, z⟩
            simp [this]
          · simp [c]
        · split
          · rename_i q
            subst q
            have : ¬ x.length = 0 := fun z => c2 ⟨rfl, z⟩
            simp [this]
          · rfl

set_option maxRecDepth 1000000 in
set_option maxHeartbeats 4000000 in
theorem msgok_impl (w : World) (v : Value) (m : Ms) (hs : Sl w v (ss m.x)) (hl : m.x.length ≤ 1000000000000) (hr : m.h.r.size ≤ 1000000000000) :
    Calls Try.prog 14 #[.agg #[.int .i64 m.k, .int .i64 m.f, .int .i64 m.t, .int .i64 m.h.n, .string m.h.r, .int .i64 m.n, v]] w fun e w' => e = .returned (.bool (msgOk m)) ∧ Below w.heap.size w w' := by
  rw [msg_alt]
  obtain ⟨R, hR⟩ : ∃ R, (decide (0 ≤ m.f ∧ m.f ≤ 20) && decide (0 ≤ m.t ∧ m.t ≤ 20) && !decide (m.f = m.t) && (okH m.h && decide (0 ≤ m.n) && Mg.kindOk m)) = R := ⟨_, rfl⟩
  rw [hR]
  have HR : Hid ((decide (0 ≤ m.f ∧ m.f ≤ 20) && decide (0 ≤ m.t ∧ m.t ≤ 20) && !decide (m.f = m.t) && (okH m.h && decide (0 ≤ m.n) && Mg.kindOk m)) = R) := hR
  clear hR
  obtain ⟨k, f, t, h, n, x⟩ := m
  simp only at *
  have HS : Hid (Sl w v (ss x)) := hs
  obtain ⟨ao0, cap0, rfl, hc0⟩ := hs.form
  simp only [ss_len] at *
  clear hs
  have B0 : Hid (Below w.heap.size w w) := Below.refl _ _
  obtain ⟨W1, HW1, b1, y1, hS1, r_a1⟩ : ∃ X, Hid ((w.alloc (.cells #[.int .i64 k, .int .i64 f, .int .i64 t, .int .i64 h.n, .string h.r, .int .i64 n, .slice ao0 x.length cap0] 28)) = X) ∧ Below w.heap.size w X ∧ w.heap.size + 1 ≤ X.heap.size ∧ Hid (X.heap.size = w.heap.size + 1) ∧ Hid (X.heap[w.heap.size]? = some (.cells #[.int .i64 k, .int .i64 f, .int .i64 t, .int .i64 h.n, .string h.r, .int .i64 n, .slice ao0 x.length cap0] 28 (0, 0))) := ⟨_, rfl, ((Below.refl _ _).alloc (Nat.le_refl _) _), by simp, by show _ = _; simp, (by show _ = _; exact alloc_nth1_0 w _)⟩
  have z1 : w.heap.size ≤ W1.heap.size := b1.size
  have B1 : Hid (Below w.heap.size w W1) := B0.out.trans (b1.mono B0.out.size)
  have c_a1_0 : W1.cell? ⟨w.heap.size, 0, none⟩ = some (.int .i64 k) := row_at r_a1.out 0
  have c_a1_1 : W1.cell? ⟨w.heap.size, 1, none⟩ = some (.int .i64 f) := row_at r_a1.out 1
  have c_a1_2 : W1.cell? ⟨w.heap.size, 2, none⟩ = some (.int .i64 t) := row_at r_a1.out 2
  have c_a1_3 : W1.cell? ⟨w.heap.size, 3, none⟩ = some (.int .i64 h.n) := row_at r_a1.out 3
  have c_a1_4 : W1.cell? ⟨w.heap.size, 4, none⟩ = some (.string h.r) := row_at r_a1.out 4
  have c_a1_5 : W1.cell? ⟨w.heap.size, 5, none⟩ = some (.int .i64 n) := row_at r_a1.out 5
  have c_a1_6 : W1.cell? ⟨w.heap.size, 6, none⟩ = some (.slice ao0 x.length cap0) := row_at r_a1.out 6
  have qm : ∀ W n, _ := fun W n => mirror_impl W n
  have qw : ∀ W, _ := fun W => word_any W k f t n h x ao0 cap0 hr hl
  go_enter Try.func14, Try.ntmps14
  go_wp2_with fail
  rw [HW1.out]
  refine (qw W1).mono ?_
  rintro e W2 ⟨⟨X, rfl, hX⟩, b2⟩
  have z2 : W1.heap.size ≤ W2.heap.size := b2.size
  have B2 : Hid (Below w.heap.size w W2) := B1.out.trans (b2.mono B1.out.size)
  have r_a2 : Hid (W2.heap[w.heap.size]? = some (.cells #[.int .i64 k, .int .i64 f, .int .i64 t, .int .i64 h.n, .string h.r, .int .i64 n, .slice ao0 x.length cap0] 28 (0, 0))) := rowKeep r_a1.out b2
  have c_a2_0 : W2.cell? ⟨w.heap.size, 0, none⟩ = some (.int .i64 k) := row_at r_a2.out 0
  have c_a2_1 : W2.cell? ⟨w.heap.size, 1, none⟩ = some (.int .i64 f) := row_at r_a2.out 1
  have c_a2_2 : W2.cell? ⟨w.heap.size, 2, none⟩ = some (.int .i64 t) := row_at r_a2.out 2
  have c_a2_3 : W2.cell? ⟨w.heap.size, 3, none⟩ = some (.int .i64 h.n) := row_at r_a2.out 3
  have c_a2_4 : W2.cell? ⟨w.heap.size, 4, none⟩ = some (.string h.r) := row_at r_a2.out 4
  have c_a2_5 : W2.cell? ⟨w.heap.size, 5, none⟩ = some (.int .i64 n) := row_at r_a2.out 5
  have c_a2_6 : W2.cell? ⟨w.heap.size, 6, none⟩ = some (.slice ao0 x.length cap0) := row_at r_a2.out 6
  clear r_a1 c_a1_0 c_a1_1 c_a1_2 c_a1_3 c_a1_4 c_a1_5 c_a1_6
  clear qw
  rcases hX with hX | hX
  · obtain ⟨rfl, HX⟩ := hX
    go_wp2_with fail
    refine (qm W2 f).mono ?_
    rintro e W_ ⟨rfl, hW_⟩
    subst hW_
    obtain ⟨If, hIf⟩ : ∃ I, decide (0 ≤ f ∧ f ≤ 20) = I := ⟨_, rfl⟩
    rw [hIf]
    have HIf : Hid (decide (0 ≤ f ∧ f ≤ 20) = If) := hIf
    clear hIf
    cases If
    · have HN : Hid (R = false) := by show _ = _; rw [← HR.out]; rw [HIf.out]; rfl
      go_wp2
      go_ret
      exact ⟨by rw [HN.out]; rfl, B2.out⟩
    · go_wp2_with fail
      refine (qm W2 t).mono ?_
      rintro e W_ ⟨rfl, hW_⟩
      subst hW_
      obtain ⟨It, hIt⟩ : ∃ I, decide (0 ≤ t ∧ t ≤ 20) = I := ⟨_, rfl⟩
      rw [hIt]
      have HIt : Hid (decide (0 ≤ t ∧ t ≤ 20) = It) := hIt
      clear hIt
      cases It
      · have HN : Hid (R = false) := by show _ = _; rw [← HR.out]; rw [HIt.out]; simp
        go_wp2
        go_ret
        exact ⟨by rw [HN.out]; rfl, B2.out⟩
      · by_cases hft : f = t
        · subst hft
          have hbb : (f == f) = true := by simp
          have hbc : (f != f) = false := by simp
          have HN : Hid (R = false) := by show _ = _; rw [← HR.out]; simp
          go_wp2
          go_ret
          exact ⟨by rw [HN.out]; rfl, B2.out⟩
        · have hbb : (f == t) = false := by rw [beq_eq_false_iff_ne]; exact hft
          have hbc : (f != t) = true := by rw [bne, hbb]; rfl
          have HN : Hid (R = false) := by show _ = _; rw [← HR.out]; rw [HX.out]; simp
          go_wp2
          go_ret
          exact ⟨by rw [HN.out]; rfl, B2.out⟩
  · obtain ⟨T, u, rfl, HX⟩ := hX
    go_wp2_with fail
    refine (qm W2 f).mono ?_
    rintro e W_ ⟨rfl, hW_⟩
    subst hW_
    obtain ⟨If, hIf⟩ : ∃ I, decide (0 ≤ f ∧ f ≤ 20) = I := ⟨_, rfl⟩
    rw [hIf]
    have HIf : Hid (decide (0 ≤ f ∧ f ≤ 20) = If) := hIf
    clear hIf
    cases If
    · have HN : Hid (R = false) := by show _ = _; rw [← HR.out]; rw [HIf.out]; rfl
      go_wp2
      go_ret
      exact ⟨by rw [HN.out]; rfl, B2.out⟩
    · go_wp2_with fail
      refine (qm W2 t).mono ?_
      rintro e W_ ⟨rfl, hW_⟩
      subst hW_
      obtain ⟨It, hIt⟩ : ∃ I, decide (0 ≤ t ∧ t ≤ 20) = I := ⟨_, rfl⟩
      rw [hIt]
      have HIt : Hid (decide (0 ≤ t ∧ t ≤ 20) = It) := hIt
      clear hIt
      cases It
      · have HN : Hid (R = false) := by show _ = _; rw [← HR.out]; rw [HIt.out]; simp
        go_wp2
        go_ret
        exact ⟨by rw [HN.out]; rfl, B2.out⟩
      · by_cases hft : f = t
        · subst hft
          have hbb : (f == f) = true := by simp
          have hbc : (f != f) = false := by simp
          have HN : Hid (R = false) := by show _ = _; rw [← HR.out]; simp
          go_wp2
          go_ret
          exact ⟨by rw [HN.out]; rfl, B2.out⟩
        · have hbb : (f == t) = false := by rw [beq_eq_false_iff_ne]; exact hft
          have hbc : (f != t) = true := by rw [bne, hbb]; rfl
          obtain ⟨A, hA⟩ : ∃ A, (okH h && decide (0 ≤ n) && Mg.kindOk ⟨k, f, t, h, n, x⟩) = A := ⟨_, rfl⟩
          have qX := HX.out
          simp only [hA] at qX
          have HN : Hid (R = A) := by show _ = _; rw [← HR.out, HIf.out, HIt.out, hA]; simp [hft]
          clear hA HX
          go_wp2_with fail
          refine (qX W2).mono ?_
          rintro e W3 ⟨rfl, b3⟩
          have z3 : W2.heap.size ≤ W3.heap.size := b3.size
          have B3 : Hid (Below w.heap.size w W3) := B2.out.trans (b3.mono B2.out.size)
          have r_a3 : Hid (W3.heap[w.heap.size]? = some (.cells #[.int .i64 k, .int .i64 f, .int .i64 t, .int .i64 h.n, .string h.r, .int .i64 n, .slice ao0 x.length cap0] 28 (0, 0))) := rowKeep r_a2.out b3
          have c_a3_0 : W3.cell? ⟨w.heap.size, 0, none⟩ = some (.int .i64 k) := row_at r_a3.out 0
          have c_a3_1 : W3.cell? ⟨w.heap.size, 1, none⟩ = some (.int .i64 f) := row_at r_a3.out 1
          have c_a3_2 : W3.cell? ⟨w.heap.size, 2, none⟩ = some (.int .i64 t) := row_at r_a3.out 2
          have c_a3_3 : W3.cell? ⟨w.heap.size, 3, none⟩ = some (.int .i64 h.n) := row_at r_a3.out 3
          have c_a3_4 : W3.cell? ⟨w.heap.size, 4, none⟩ = some (.string h.r) := row_at r_a3.out 4
          have c_a3_5 : W3.cell? ⟨w.heap.size, 5, none⟩ = some (.int .i64 n) := row_at r_a3.out 5
          have c_a3_6 : W3.cell? ⟨w.heap.size, 6, none⟩ = some (.slice ao0 x.length cap0) := row_at r_a3.out 6
          clear r_a2 c_a2_0 c_a2_1 c_a2_2 c_a2_3 c_a2_4 c_a2_5 c_a2_6
          clear qX
          go_wp2
          go_ret
          exact ⟨by rw [HN.out]; simp, B3.out⟩

end Go.Proofs.Yteemblfjghnooaa.Wd
