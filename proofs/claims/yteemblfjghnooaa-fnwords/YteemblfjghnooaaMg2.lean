/- Chapter 13, words as cells; the specification's side: whether a word is right, its bytes. -/
import Derived.Test.YteemblfjghnooaaMg1
import Derived.Test.YteemblfjghnooaaHe3
import Derived.Test.YteemblfjghnooaaTr8
import Derived.Test.YteemblfjghnooaaGro2
import Derived.Test.YteemblfjghnooaaNth
namespace Go.Proofs.Yteemblfjghnooaa.Mg
open Go.RowKit Go.Proofs.Yteemblfjghnooaa.Mem Go.Proofs.Yteemblfjghnooaa.Laws Go.Proofs.Yteemblfjghnooaa.Bytes Go.Proofs.Yteemblfjghnooaa.Sha Go.Proofs.Yteemblfjghnooaa.Tr Go.Proofs.Yteemblfjghnooaa.He
set_option linter.unusedVariables false
set_option linter.unusedSimpArgs false

/-- a word's cells -/
def mc (m : Ms) (v : Value) : Array Value := #[.int .i64 m.k, .int .i64 m.f, .int .i64 m.t, .int .i64 m.h.n, .string m.h.r, .int .i64 m.n, v]
theorem sizeM (m : Ms) (v : Value) : (Try.prog.info? 28).map (·.size) = some (mc m v).size := by
  show _ = some 7
  kernel_rfl

theorem oneM {v : Value} (m : Ms) (hv : v.oneCell' = true) : (mc m v).all (·.oneCell') = true := by
  simp [mc, Value.oneCell']
  exact hv
theorem not_face {m : Ms} (h : ¬ ((0 ≤ m.f ∧ m.f ≤ 20) ∧ (0 ≤ m.t ∧ m.t ≤ 20) ∧ ¬ m.f = m.t ∧ okH m.h = true ∧ (0 ≤ m.n ∧ m.n ≤ 200))) : msgOk m = false := by
  rw [← Bool.not_eq_true]
  intro q
  obtain ⟨a, b, c, d, e, _⟩ := msg_parts q
  exact h ⟨a, b, c, d, e⟩
theorem is_face {m : Ms} (h : (0 ≤ m.f ∧ m.f ≤ 20) ∧ (0 ≤ m.t ∧ m.t ≤ 20) ∧ ¬ m.f = m.t ∧ okH m.h = true ∧ (0 ≤ m.n ∧ m.n ≤ 200)) : msgOk m = kindOk m := by
  obtain ⟨a, b, c, d, e⟩ := h
  unfold msgOk face
  simp [a, b, c, d, e]

set_option maxRecDepth 1000000 in
set_option maxHeartbeats 4000000 in
theorem msgok_spec (w : World) (v : Value) (m : Ms) (hs : Sl w v (ss m.x)) (hl : m.x.length ≤ 1000000000000) :
    Calls Try.prog 13 #[.agg #[.int .i64 m.k, .int .i64 m.f, .int .i64 m.t, .int .i64 m.h.n, .string m.h.r, .int .i64 m.n, v]] w fun e w' => e = .returned (.bool (msgOk m)) ∧ Below w.heap.size w w' := by
  obtain ⟨R, hR⟩ : ∃ R, msgOk m = R := ⟨_, rfl⟩
  have HR : Hid (msgOk m = R) := hR
  rw [hR]
  clear hR
  obtain ⟨k, f, t, h, n, x⟩ := m
  simp only at *
  have HS : Hid (Sl w v (ss x)) := hs
  obtain ⟨ao0, cap0, rfl, hc0⟩ := hs.form
  simp only [ss_len] at *
  clear hs
  have B0 : Hid (Below w.heap.size w w) := Below.refl _ _
  obtain ⟨W1, HW1, b1, y1, hS1, r_a1⟩ : ∃ X, Hid ((w.alloc (.cells #[.int .i64 k, .int .i64 f, .int .i64 t, .int .i64 h.n, .string h.r, .int .i64 n, .slice ao0 x.length cap0] 28)) = X) ∧ Below w.heap.size w X ∧ w.heap.size + 1 ≤ X.heap.size ∧ Hid (X.heap.size = w.heap.size + 1) ∧ Hid (X.heap[w.heap.size]? = some (.cells #[.int .i64 k, .int .i64 f, .int .i64 t, .int .i64 h.n, .string h.r, .int .i64 n, .slice ao0 x.length cap0] 28 (0, 0))) := ⟨_, rfl, ((Below.refl _ _).alloc (Nat.le_refl _) _), by simp, by show _ = _; simp, (by show _ = _; exact alloc_nth1_0 w _)⟩
  have z1 : w.heap.size ≤ W1.heap.size := b1.size
  have B1 : Hid (Below w.heap.size w W1) := B0.out.trans (b1.mono B0.out.size)
  have c_a1_0 : W1.cell? ⟨w.heap.size, 0, none⟩ = some (.int .i64 k) := row_at r_a1.out 0
  have c_a1_1 : W1.cell? ⟨w.heap.size, 1, none⟩ = some (.int .i64 f) := row_at r_a1.out 1
  have c_a1_2 : W1.cell? ⟨w.heap.size, 2, none⟩ = some (.int .i64 t) := row_at r_a1.out 2
  have c_a1_3 : W1.cell? ⟨w.heap.size, 3, none⟩ = some (.int .i64 h.n) := row_at r_a1.out 3
  have c_a1_4 : W1.cell? ⟨w.heap.size, 4, none⟩ = some (.string h.r) := row_at r_a1.out 4
  have c_a1_5 : W1.cell? ⟨w.heap.size, 5, none⟩ = some (.int .i64 n) := row_at r_a1.out 5
  have c_a1_6 : W1.cell? ⟨w.heap.size, 6, none⟩ = some (.slice ao0 x.length cap0) := row_at r_a1.out 6
  go_enter Try.func13, Try.ntmps13
  by_cases hin_f : 0 ≤ f ∧ f ≤ 20
  · have q2 := in6t W1 hin_f
    have HI_f : Hid (0 ≤ f ∧ f ≤ 20) := hin_f
    have hlo_f := hin_f.1
    have hhi_f := hin_f.2
    clear hin_f
    go_wp2_with fail
    rw [HW1.out]
    refine q2.mono ?_
    rintro e W_ ⟨rfl, hW_⟩
    subst hW_
    clear q2
    by_cases hin_t : 0 ≤ t ∧ t ≤ 20
    · have q2 := in6t W1 hin_t
      have HI_t : Hid (0 ≤ t ∧ t ≤ 20) := hin_t
      have hlo_t := hin_t.1
      have hhi_t := hin_t.2
      clear hin_t
      go_wp2_with fail
      refine q2.mono ?_
      rintro e W_ ⟨rfl, hW_⟩
      subst hW_
      clear q2
      by_cases hft : f = t
      · subst hft
        have hbb : (f == f) = true := by simp
        have HN : Hid (R = false) := by show _ = _; rw [← HR.out]; exact not_face (fun q => q.2.2.1 rfl)
        go_wp2
        go_ret
        exact ⟨by rw [HN.out]; rfl, B1.out⟩
      · have hbb : (f == t) = false := by rw [beq_eq_false_iff_ne]; exact hft
        obtain ⟨A, hA⟩ : ∃ A, okH h = A := ⟨_, rfl⟩
        have q3 := He.ok_spec W1 h
        rw [hA] at q3
        have HA : Hid (okH h = A) := hA
        clear hA
        go_wp2_with fail
        refine (q3).mono ?_
        rintro e W2 ⟨rfl, b2⟩
        have z2 : W1.heap.size ≤ W2.heap.size := b2.size
        have B2 : Hid (Below w.heap.size w W2) := B1.out.trans (b2.mono B1.out.size)
        have r_a2 : Hid (W2.heap[w.heap.size]? = some (.cells #[.int .i64 k, .int .i64 f, .int .i64 t, .int .i64 h.n, .string h.r, .int .i64 n, .slice ao0 x.length cap0] 28 (0, 0))) := rowKeep r_a1.out b2
        have c_a2_0 : W2.cell? ⟨w.heap.size, 0, none⟩ = some (.int .i64 k) := row_at r_a2.out 0
        have c_a2_1 : W2.cell? ⟨w.heap.size, 1, none⟩ = some (.int .i64 f) := row_at r_a2.out 1
        have c_a2_2 : W2.cell? ⟨w.heap.size, 2, none⟩ = some (.int .i64 t) := row_at r_a2.out 2
        have c_a2_3 : W2.cell? ⟨w.heap.size, 3, none⟩ = some (.int .i64 h.n) := row_at r_a2.out 3
        have c_a2_4 : W2.cell? ⟨w.heap.size, 4, none⟩ = some (.string h.r) := row_at r_a2.out 4
        have c_a2_5 : W2.cell? ⟨w.heap.size, 5, none⟩ = some (.int .i64 n) := row_at r_a2.out 5
        have c_a2_6 : W2.cell? ⟨w.heap.size, 6, none⟩ = some (.slice ao0 x.length cap0) := row_at r_a2.out 6
        clear r_a1 c_a1_0 c_a1_1 c_a1_2 c_a1_3 c_a1_4 c_a1_5 c_a1_6
        clear q3
        cases A
        · have HN : Hid (R = false) := by show _ = _; rw [← HR.out]; exact not_face (fun q => by have h9 := q.2.2.2.1; simp only at h9; rw [HA.out] at h9; cases h9)
          go_wp2
          go_ret
          exact ⟨by rw [HN.out]; rfl, B2.out⟩
        · by_cases hin_n : 0 ≤ n ∧ n ≤ 200
          · have q2 := in6t W2 hin_n
            have HI_n : Hid (0 ≤ n ∧ n ≤ 200) := hin_n
            have hlo_n := hin_n.1
            have hhi_n := hin_n.2
            clear hin_n
            go_wp2_with fail
            refine q2.mono ?_
            rintro e W_ ⟨rfl, hW_⟩
            subst hW_
            clear q2
            have HK : Hid (kindOk ⟨k, f, t, h, n, x⟩ = R) := by show _ = _; rw [← HR.out]; exact (is_face ⟨HI_f.out, HI_t.out, hft, HA.out, HI_n.out⟩).symm
            have hhn := (okH_parts13 HA.out)
            have hn1 := hhn.1
            have hn2 := hhn.2.1
            clear hhn HR
            have HR : Hid (kindOk ⟨k, f, t, h, n, x⟩ = R) := HK
            clear HK
            by_cases k1 : k = 1
            · subst k1
              by_cases n0 : n = 0
              · subst n0
                by_cases l0 : x.length = 0
                · have l1 : (x.length : Int) = 0 := by omega
                  have l2 : ((x.length : Int) == 0) = true := by rw [l1]; rfl
                  have HN : Hid (R = true) := by show _ = _; rw [← HR.out]; unfold kindOk; simp [l0]
                  go_wp2
                  go_ret
                  exact ⟨by rw [HN.out]; rfl, B2.out⟩
                · have l1 : ¬ (x.length : Int) = 0 := by omega
                  have l2 : ((x.length : Int) == 0) = false := by rw [beq_eq_false_iff_ne]; exact l1
                  have HN : Hid (R = false) := by show _ = _; rw [← HR.out]; unfold kindOk; simp [l0]
                  go_wp2
                  go_ret
                  exact ⟨by rw [HN.out]; rfl, B2.out⟩
              · have n1 : (n == 0) = false := by rw [beq_eq_false_iff_ne]; exact n0
                have HN : Hid (R = false) := by show _ = _; rw [← HR.out]; unfold kindOk; simp [n0]
                go_wp2
                go_ret
                exact ⟨by rw [HN.out]; rfl, B2.out⟩
            · have k1b : (k == 1) = false := by rw [beq_eq_false_iff_ne]; exact k1
              by_cases k2 : k = 2
              · subst k2
                by_cases n0 : n < h.n
                · have n1 : decide (n < h.n) = true := decide_eq_true n0
                  by_cases l0 : x.length = 0
                  · have l1 : (x.length : Int) = 0 := by omega
                    have l2 : ((x.length : Int) == 0) = true := by rw [l1]; rfl
                    have HN : Hid (R = true) := by show _ = _; rw [← HR.out]; unfold kindOk; simp [l0, n0]
                    go_wp2
                    go_ret
                    exact ⟨by rw [HN.out]; rfl, B2.out⟩
                  · have l1 : ¬ (x.length : Int) = 0 := by omega
                    have l2 : ((x.length : Int) == 0) = false := by rw [beq_eq_false_iff_ne]; exact l1
                    have HN : Hid (R = false) := by show _ = _; rw [← HR.out]; unfold kindOk; simp [l0]
                    go_wp2
                    go_ret
                    exact ⟨by rw [HN.out]; rfl, B2.out⟩
                · have n1 : decide (n < h.n) = false := decide_eq_false n0
                  have HN : Hid (R = false) := by show _ = _; rw [← HR.out]; unfold kindOk; simp [n0]
                  go_wp2
                  go_ret
                  exact ⟨by rw [HN.out]; rfl, B2.out⟩
              · have k2b : (k == 2) = false := by rw [beq_eq_false_iff_ne]; exact k2
                by_cases k3 : k = 3
                · subst k3
                  by_cases n0 : n < h.n
                  · have n1 : decide (n < h.n) = true := decide_eq_true n0
                    have wr : IntKind.i64.wrap (h.n - n) = h.n - n := by rw [IntKind.wrap_i64]; omega
                    by_cases l0 : (x.length : Int) = h.n - n
                    · have l2 : ((x.length : Int) == h.n - n) = true := by rw [l0]; simp
                      have HL0 : Hid ((x.length : Int) = h.n - n) := l0
                      clear l0
                      have HN : Hid (R = true) := by show _ = _; rw [← HR.out]; unfold kindOk; simp [HL0.out, n0]
                      go_wp2
                      go_ret
                      exact ⟨by rw [HN.out]; rfl, B2.out⟩
                    · have l2 : ((x.length : Int) == h.n - n) = false := by rw [beq_eq_false_iff_ne]; exact l0
                      have HN : Hid (R = false) := by show _ = _; rw [← HR.out]; unfold kindOk; simp [l0]
                      go_wp2
                      go_ret
                      exact ⟨by rw [HN.out]; rfl, B2.out⟩
                  · have n1 : decide (n < h.n) = false := decide_eq_false n0
                    have HN : Hid (R = false) := by show _ = _; rw [← HR.out]; unfold kindOk; simp [n0]
                    go_wp2
                    go_ret
                    exact ⟨by rw [HN.out]; rfl, B2.out⟩
                · have k3b : (k == 3) = false := by rw [beq_eq_false_iff_ne]; exact k3
                  have HN : Hid (R = false) := by show _ = _; rw [← HR.out]; unfold kindOk; simp [k1, k2, k3]
                  go_wp2
                  go_ret
                  exact ⟨by rw [HN.out]; rfl, B2.out⟩
          · have q2 := in6f W2 hin_n
            have HI_n : Hid (¬ (0 ≤ n ∧ n ≤ 200)) := hin_n
            clear hin_n
            go_wp2_with fail
            refine q2.mono ?_
            rintro e W_ ⟨rfl, hW_⟩
            subst hW_
            clear q2
            have HN : Hid (R = false) := by show _ = _; rw [← HR.out]; exact not_face (fun q => HI_n.out q.2.2.2.2)
            go_wp2
            go_ret
            exact ⟨by rw [HN.out]; rfl, B2.out⟩
    · have q2 := in6f W1 hin_t
      have HI_t : Hid (¬ (0 ≤ t ∧ t ≤ 20)) := hin_t
      clear hin_t
      go_wp2_with fail
      refine q2.mono ?_
      rintro e W_ ⟨rfl, hW_⟩
      subst hW_
      clear q2
      have HN : Hid (R = false) := by show _ = _; rw [← HR.out]; exact not_face (fun q => HI_t.out q.2.1)
      go_wp2
      go_ret
      exact ⟨by rw [HN.out]; rfl, B1.out⟩
  · have q2 := in6f W1 hin_f
    have HI_f : Hid (¬ (0 ≤ f ∧ f ≤ 20)) := hin_f
    clear hin_f
    go_wp2_with fail
    rw [HW1.out]
    refine q2.mono ?_
    rintro e W_ ⟨rfl, hW_⟩
    subst hW_
    clear q2
    have HN : Hid (R = false) := by show _ = _; rw [← HR.out]; exact not_face (fun q => HI_f.out q.1)
    go_wp2
    go_ret
    exact ⟨by rw [HN.out]; rfl, B1.out⟩

set_option maxRecDepth 1000000 in
set_option maxHeartbeats 4000000 in
theorem putm_spec (w : World) (v : Value) (m : Ms) (hs : Sl w v (ss m.x)) (hl : m.x.length ≤ 1000000000) (ht : Puts.tot m.x ≤ 100000000000) (hr : m.h.r.size ≤ 100000000000) :
    Calls Try.prog 19 #[.agg #[.int .i64 m.k, .int .i64 m.f, .int .i64 m.t, .int .i64 m.h.n, .string m.h.r, .int .i64 m.n, v]] w fun e w' => ∃ v', e = .returned v' ∧ Own w' w.heap.size w'.heap.size 5 v' (bs (putM m)) ∧ Below w.heap.size w w' := by
  have q1 : ∀ W v1, Sl W v1 (ss m.x) → _ := fun W v1 h1 => msgok_spec W v1 m h1 (by omega)
  obtain ⟨A, hA⟩ : ∃ A, msgOk m = A := ⟨_, rfl⟩
  simp only [hA] at q1
  have htl := Puts.txs_len m.x
  obtain ⟨R, hR⟩ : ∃ R, putM m = R := ⟨_, rfl⟩
  have HR : Hid (R = if A = true then bytesM m else []) := by show _ = _; rw [← hR]; unfold putM; rw [hA]
  rw [hR]
  clear hR hA
  obtain ⟨k, f, t, h, n, x⟩ := m
  simp only at *
  have HS : Hid (Sl w v (ss x)) := hs
  obtain ⟨ao0, cap0, rfl, hc0⟩ := hs.form
  simp only [ss_len] at *
  clear hs
  have B0 : Hid (Below w.heap.size w w) := Below.refl _ _
  obtain ⟨W1, HW1, b1, y1, hS1, r_a1⟩ : ∃ X, Hid ((w.alloc (.cells #[.int .i64 k, .int .i64 f, .int .i64 t, .int .i64 h.n, .string h.r, .int .i64 n, .slice ao0 x.length cap0] 28)) = X) ∧ Below w.heap.size w X ∧ w.heap.size + 1 ≤ X.heap.size ∧ Hid (X.heap.size = w.heap.size + 1) ∧ Hid (X.heap[w.heap.size]? = some (.cells #[.int .i64 k, .int .i64 f, .int .i64 t, .int .i64 h.n, .string h.r, .int .i64 n, .slice ao0 x.length cap0] 28 (0, 0))) := ⟨_, rfl, ((Below.refl _ _).alloc (Nat.le_refl _) _), by simp, by show _ = _; simp, (by show _ = _; exact alloc_nth1_0 w _)⟩
  have z1 : w.heap.size ≤ W1.heap.size := b1.size
  have B1 : Hid (Below w.heap.size w W1) := B0.out.trans (b1.mono B0.out.size)
  have c_a1_0 : W1.cell? ⟨w.heap.size, 0, none⟩ = some (.int .i64 k) := row_at r_a1.out 0
  have c_a1_1 : W1.cell? ⟨w.heap.size, 1, none⟩ = some (.int .i64 f) := row_at r_a1.out 1
  have c_a1_2 : W1.cell? ⟨w.heap.size, 2, none⟩ = some (.int .i64 t) := row_at r_a1.out 2
  have c_a1_3 : W1.cell? ⟨w.heap.size, 3, none⟩ = some (.int .i64 h.n) := row_at r_a1.out 3
  have c_a1_4 : W1.cell? ⟨w.heap.size, 4, none⟩ = some (.string h.r) := row_at r_a1.out 4
  have c_a1_5 : W1.cell? ⟨w.heap.size, 5, none⟩ = some (.int .i64 n) := row_at r_a1.out 5
  have c_a1_6 : W1.cell? ⟨w.heap.size, 6, none⟩ = some (.slice ao0 x.length cap0) := row_at r_a1.out 6
  go_enter Try.func19, Try.ntmps19
  go_wp2_with fail
  rw [HW1.out]
  refine (q1 W1 _ (HS.out.later B1.out)).mono ?_
  rintro e W2 ⟨rfl, b2⟩
  have z2 : W1.heap.size ≤ W2.heap.size := b2.size
  have B2 : Hid (Below w.heap.size w W2) := B1.out.trans (b2.mono B1.out.size)
  have r_a2 : Hid (W2.heap[w.heap.size]? = some (.cells #[.int .i64 k, .int .i64 f, .int .i64 t, .int .i64 h.n, .string h.r, .int .i64 n, .slice ao0 x.length cap0] 28 (0, 0))) := rowKeep r_a1.out b2
  have c_a2_0 : W2.cell? ⟨w.heap.size, 0, none⟩ = some (.int .i64 k) := row_at r_a2.out 0
  have c_a2_1 : W2.cell? ⟨w.heap.size, 1, none⟩ = some (.int .i64 f) := row_at r_a2.out 1
  have c_a2_2 : W2.cell? ⟨w.heap.size, 2, none⟩ = some (.int .i64 t) := row_at r_a2.out 2
  have c_a2_3 : W2.cell? ⟨w.heap.size, 3, none⟩ = some (.int .i64 h.n) := row_at r_a2.out 3
  have c_a2_4 : W2.cell? ⟨w.heap.size, 4, none⟩ = some (.string h.r) := row_at r_a2.out 4
  have c_a2_5 : W2.cell? ⟨w.heap.size, 5, none⟩ = some (.int .i64 n) := row_at r_a2.out 5
  have c_a2_6 : W2.cell? ⟨w.heap.size, 6, none⟩ = some (.slice ao0 x.length cap0) := row_at r_a2.out 6
  clear r_a1 c_a1_0 c_a1_1 c_a1_2 c_a1_3 c_a1_4 c_a1_5 c_a1_6
  clear q1
  cases A
  · have e9 : R = [] := by rw [HR.out]; rfl
    subst e9
    go_wp2
    go_ret
    exact ⟨_, rfl, Own.mono (Puts.Own.empty W2 W2.heap.size (Nat.le_refl _)) (by omega) (Nat.le_refl _), B2.out.alloc B2.out.size _⟩
  · have e9 : R = bytesM ⟨k, f, t, h, n, x⟩ := by rw [HR.out]; rfl
    subst e9
    clear HR
    have nk := (Puts.num_len k).2
    have nf := (Puts.num_len f).2
    have nt := (Puts.num_len t).2
    have ns := (Puts.num_len h.n).2
    have nn := (Puts.num_len n).2
    have nr := Puts.tx_len h.r
    go_wp2_with fail
    refine wp_region_held_drew (S := fun w' => w'.cell? ⟨w.heap.size, 0, none⟩ = some (.int .i64 k) ∧ w'.cell? ⟨w.heap.size, 1, none⟩ = some (.int .i64 f) ∧ w'.cell? ⟨w.heap.size, 2, none⟩ = some (.int .i64 t) ∧ w'.cell? ⟨w.heap.size, 3, none⟩ = some (.int .i64 h.n) ∧ w'.cell? ⟨w.heap.size, 4, none⟩ = some (.string h.r) ∧ w'.cell? ⟨w.heap.size, 5, none⟩ = some (.int .i64 n) ∧ w'.cell? ⟨w.heap.size, 6, none⟩ = some (.slice ao0 x.length cap0)) (by kernel_rfl) ⟨c_a2_0, c_a2_1, c_a2_2, c_a2_3, c_a2_4, c_a2_5, c_a2_6⟩ (fun hHeld => ?_)
    (refine wpAnyH_take (i := 1) (v := ?v1x1) rfl (by kernel_rfl) (by kernel_rfl) (by kernel_rfl) (fun _ _ _ h => h) (Or.inl ⟨by rfl, ?hy1x1⟩) (by assumption) ?rest1x1; case hy1x1 => (intro w hSw; (try dsimp only at hSw); go_split_ands; go_simp; (try with_reducible rfl)))
    try simp only [Act.put, List.setIfInBounds_toArray, List.set_cons_zero, List.set_cons_succ, List.getElem_toArray, List.getElem_cons_zero, List.getElem_cons_succ]
    (refine wpAnyH_take (i := 2) (v := ?v2x2) rfl (by kernel_rfl) (by kernel_rfl) (by kernel_rfl) (fun _ _ _ h => h) (Or.inl ⟨by rfl, ?hy2x2⟩) (by assumption) ?rest2x2; case hy2x2 => (intro w hSw; (try dsimp only at hSw); go_split_ands; go_simp; (try with_reducible rfl)))
    try simp only [Act.put, List.setIfInBounds_toArray, List.set_cons_zero, List.set_cons_succ, List.getElem_toArray, List.getElem_cons_zero, List.getElem_cons_succ]
    (refine wpAnyH_take (i := 4) (v := ?v4x3) rfl (by kernel_rfl) (by kernel_rfl) (by kernel_rfl) (fun _ _ _ h => h) (Or.inl ⟨by rfl, ?hy4x3⟩) (by assumption) ?rest4x3; case hy4x3 => (intro w hSw; (try dsimp only at hSw); go_split_ands; go_simp; (try with_reducible rfl)))
    try simp only [Act.put, List.setIfInBounds_toArray, List.set_cons_zero, List.set_cons_succ, List.getElem_toArray, List.getElem_cons_zero, List.getElem_cons_succ]
    (refine wpAnyH_take (i := 5) (v := ?v5x4) rfl (by kernel_rfl) (by kernel_rfl) (by kernel_rfl) (fun _ _ _ h => h) (Or.inl ⟨by rfl, ?hy5x4⟩) (by assumption) ?rest5x4; case hy5x4 => (intro w hSw; (try dsimp only at hSw); go_split_ands; go_simp; (try with_reducible rfl)))
    try simp only [Act.put, List.setIfInBounds_toArray, List.set_cons_zero, List.set_cons_succ, List.getElem_toArray, List.getElem_cons_zero, List.getElem_cons_succ]
    (refine wpAnyH_take (i := 7) (v := ?v7x5) rfl (by kernel_rfl) (by kernel_rfl) (by kernel_rfl) (fun _ _ _ h => h) (Or.inl ⟨by rfl, ?hy7x5⟩) (by assumption) ?rest7x5; case hy7x5 => (intro w hSw; (try dsimp only at hSw); go_split_ands; go_simp; (try with_reducible rfl)))
    try simp only [Act.put, List.setIfInBounds_toArray, List.set_cons_zero, List.set_cons_succ, List.getElem_toArray, List.getElem_cons_zero, List.getElem_cons_succ]
    (refine wpAnyH_take (i := 8) (v := ?v8x6) rfl (by kernel_rfl) (by kernel_rfl) (by kernel_rfl) (fun _ _ _ h => h) (Or.inl ⟨by rfl, ?hy8x6⟩) (by assumption) ?rest8x6; case hy8x6 => (intro w hSw; (try dsimp only at hSw); go_split_ands; go_simp; (try with_reducible rfl)))
    try simp only [Act.put, List.setIfInBounds_toArray, List.set_cons_zero, List.set_cons_succ, List.getElem_toArray, List.getElem_cons_zero, List.getElem_cons_succ]
    (refine wpAnyH_take (i := 10) (v := ?v10x7) rfl (by kernel_rfl) (by kernel_rfl) (by kernel_rfl) (fun _ _ _ h => h) (Or.inl ⟨by rfl, ?hy10x7⟩) (by assumption) ?rest10x7; case hy10x7 => (intro w hSw; (try dsimp only at hSw); go_split_ands; go_simp; (try with_reducible rfl)))
    try simp only [Act.put, List.setIfInBounds_toArray, List.set_cons_zero, List.set_cons_succ, List.getElem_toArray, List.getElem_cons_zero, List.getElem_cons_succ]
    (refine wpAnyH_take (i := 11) (v := ?v11x8) rfl (by kernel_rfl) (by kernel_rfl) (by kernel_rfl) (fun _ _ _ h => h) (Or.inl ⟨by rfl, ?hy11x8⟩) (by assumption) ?rest11x8; case hy11x8 => (intro w hSw; (try dsimp only at hSw); go_split_ands; go_simp; (try with_reducible rfl)))
    try simp only [Act.put, List.setIfInBounds_toArray, List.set_cons_zero, List.set_cons_succ, List.getElem_toArray, List.getElem_cons_zero, List.getElem_cons_succ]
    (refine wpAnyH_take (i := 12) (v := ?v12x9) rfl (by kernel_rfl) (by kernel_rfl) (by kernel_rfl) (fun _ _ _ h => h) (Or.inl ⟨by rfl, ?hy12x9⟩) (by assumption) ?rest12x9; case hy12x9 => (intro w hSw; (try dsimp only at hSw); go_split_ands; go_simp; (try with_reducible rfl)))
    try simp only [Act.put, List.setIfInBounds_toArray, List.set_cons_zero, List.set_cons_succ, List.getElem_toArray, List.getElem_cons_zero, List.getElem_cons_succ]
    refine wpAnyH_ready (rs := [0]) (by kernel_rfl) (by simp) ?_
    refine AllReadyH.cons rfl (fun K hK => ?_) AllReadyH.nil
    go_simp
    refine hK.out _ _ ⟨(keepR (W := W2.drew) hHeld.1 ((Below.refl _ _).alloc (Nat.le_refl _) _)), (keepR (W := W2.drew) hHeld.2.1 ((Below.refl _ _).alloc (Nat.le_refl _) _)), (keepR (W := W2.drew) hHeld.2.2.1 ((Below.refl _ _).alloc (Nat.le_refl _) _)), (keepR (W := W2.drew) hHeld.2.2.2.1 ((Below.refl _ _).alloc (Nat.le_refl _) _)), (keepR (W := W2.drew) hHeld.2.2.2.2.1 ((Below.refl _ _).alloc (Nat.le_refl _) _)), (keepR (W := W2.drew) hHeld.2.2.2.2.2.1 ((Below.refl _ _).alloc (Nat.le_refl _) _)), (keepR (W := W2.drew) hHeld.2.2.2.2.2.2 ((Below.refl _ _).alloc (Nat.le_refl _) _))⟩ (fun hHeld => ?_)
    clear hK K
    try simp only [Act.put, List.setIfInBounds_toArray, List.set_cons_zero, List.set_cons_succ, List.getElem_toArray, List.getElem_cons_zero, List.getElem_cons_succ]
    obtain ⟨W3, HW3, b3, o_e3⟩ : ∃ X, Hid ((W2.alloc (.cells #[] 5)).drew = X) ∧ Below W2.heap.size W2 X ∧ Hid (Own X W2.heap.size X.heap.size 5 (.slice (some ⟨W2.heap.size, 0, none⟩) 0 0) (bs [])) := ⟨_, rfl, (Below.drew ((Below.refl _ _).alloc (Nat.le_refl _) _)), Puts.Own.empty W2 W2.heap.size (Nat.le_refl _)⟩
    have HHW3 := HW3.out
    rw [HHW3] at hHeld ⊢
    clear HHW3
    have z3 : W2.heap.size ≤ W3.heap.size := b3.size
    have B3 : Hid (Below w.heap.size w W3) := B2.out.trans (b3.mono B2.out.size)
    have r_a3 : Hid (W3.heap[w.heap.size]? = some (.cells #[.int .i64 k, .int .i64 f, .int .i64 t, .int .i64 h.n, .string h.r, .int .i64 n, .slice ao0 x.length cap0] 28 (0, 0))) := rowKeep r_a2.out b3
    have c_a3_0 : W3.cell? ⟨w.heap.size, 0, none⟩ = some (.int .i64 k) := row_at r_a3.out 0
    have c_a3_1 : W3.cell? ⟨w.heap.size, 1, none⟩ = some (.int .i64 f) := row_at r_a3.out 1
    have c_a3_2 : W3.cell? ⟨w.heap.size, 2, none⟩ = some (.int .i64 t) := row_at r_a3.out 2
    have c_a3_3 : W3.cell? ⟨w.heap.size, 3, none⟩ = some (.int .i64 h.n) := row_at r_a3.out 3
    have c_a3_4 : W3.cell? ⟨w.heap.size, 4, none⟩ = some (.string h.r) := row_at r_a3.out 4
    have c_a3_5 : W3.cell? ⟨w.heap.size, 5, none⟩ = some (.int .i64 n) := row_at r_a3.out 5
    have c_a3_6 : W3.cell? ⟨w.heap.size, 6, none⟩ = some (.slice ao0 x.length cap0) := row_at r_a3.out 6
    clear r_a2 c_a2_0 c_a2_1 c_a2_2 c_a2_3 c_a2_4 c_a2_5 c_a2_6
    refine wpAnyH_ready (rs := [3]) (by kernel_rfl) (by simp) ?_
    refine AllReadyH.cons rfl (fun K hK => ?_) AllReadyH.nil
    go_simp
    refine (Puts.put_spec W3 _ ([]) k o_e3.out.sl (by simp only [List.length_append, List.length_nil]; omega)).mono ?_
    rintro e W4 ⟨v_b0, rfl, o_b04, b4⟩
    refine hK.out _ _ ⟨(keepR (W := W3) hHeld.1 b4), (keepR (W := W3) hHeld.2.1 b4), (keepR (W := W3) hHeld.2.2.1 b4), (keepR (W := W3) hHeld.2.2.2.1 b4), (keepR (W := W3) hHeld.2.2.2.2.1 b4), (keepR (W := W3) hHeld.2.2.2.2.2.1 b4), (keepR (W := W3) hHeld.2.2.2.2.2.2 b4)⟩ (fun hHeld => ?_)
    clear hK K
    try simp only [Act.put, List.setIfInBounds_toArray, List.set_cons_zero, List.set_cons_succ, List.getElem_toArray, List.getElem_cons_zero, List.getElem_cons_succ]
    obtain ⟨ao_b0, L_b0, cap_b0, rfl, hL_b0, hM_b0⟩ := o_b04.form
    have o_b04 : Hid (Own W4 W3.heap.size W4.heap.size 5 (.slice ao_b0 L_b0 cap_b0) (bs ([] ++ Puts.num k))) := o_b04
    clear hL_b0 hM_b0
    have z4 : W3.heap.size ≤ W4.heap.size := b4.size
    have B4 : Hid (Below w.heap.size w W4) := B3.out.trans (b4.mono B3.out.size)
    have r_a4 : Hid (W4.heap[w.heap.size]? = some (.cells #[.int .i64 k, .int .i64 f, .int .i64 t, .int .i64 h.n, .string h.r, .int .i64 n, .slice ao0 x.length cap0] 28 (0, 0))) := rowKeep r_a3.out b4
    have o_e4 : Hid (Own W4 (W2.heap.size) (W3.heap.size) 5 (.slice (some ⟨W2.heap.size, 0, none⟩) 0 0) (bs [])) := Own.later o_e3.out b4 (by omega)
    have c_a4_0 : W4.cell? ⟨w.heap.size, 0, none⟩ = some (.int .i64 k) := row_at r_a4.out 0
    have c_a4_1 : W4.cell? ⟨w.heap.size, 1, none⟩ = some (.int .i64 f) := row_at r_a4.out 1
    have c_a4_2 : W4.cell? ⟨w.heap.size, 2, none⟩ = some (.int .i64 t) := row_at r_a4.out 2
    have c_a4_3 : W4.cell? ⟨w.heap.size, 3, none⟩ = some (.int .i64 h.n) := row_at r_a4.out 3
    have c_a4_4 : W4.cell? ⟨w.heap.size, 4, none⟩ = some (.string h.r) := row_at r_a4.out 4
    have c_a4_5 : W4.cell? ⟨w.heap.size, 5, none⟩ = some (.int .i64 n) := row_at r_a4.out 5
    have c_a4_6 : W4.cell? ⟨w.heap.size, 6, none⟩ = some (.slice ao0 x.length cap0) := row_at r_a4.out 6
    clear r_a3 c_a3_0 c_a3_1 c_a3_2 c_a3_3 c_a3_4 c_a3_5 c_a3_6 o_e3
    clear o_e4
    refine wpAnyH_ready (rs := [6]) (by kernel_rfl) (by simp) ?_
    refine AllReadyH.cons rfl (fun K hK => ?_) AllReadyH.nil
    go_simp
    refine (Puts.put_spec W4 _ ([] ++ Puts.num k) f o_b04.out.sl (by simp only [List.length_append, List.length_nil]; omega)).mono ?_
    rintro e W5 ⟨v_b1, rfl, o_b15, b5⟩
    refine hK.out _ _ ⟨(keepR (W := W4) hHeld.1 b5), (keepR (W := W4) hHeld.2.1 b5), (keepR (W := W4) hHeld.2.2.1 b5), (keepR (W := W4) hHeld.2.2.2.1 b5), (keepR (W := W4) hHeld.2.2.2.2.1 b5), (keepR (W := W4) hHeld.2.2.2.2.2.1 b5), (keepR (W := W4) hHeld.2.2.2.2.2.2 b5)⟩ (fun hHeld => ?_)
    clear hK K
    try simp only [Act.put, List.setIfInBounds_toArray, List.set_cons_zero, List.set_cons_succ, List.getElem_toArray, List.getElem_cons_zero, List.getElem_cons_succ]
    obtain ⟨ao_b1, L_b1, cap_b1, rfl, hL_b1, hM_b1⟩ := o_b15.form
    have o_b15 : Hid (Own W5 W4.heap.size W5.heap.size 5 (.slice ao_b1 L_b1 cap_b1) (bs ([] ++ Puts.num k ++ Puts.num f))) := o_b15
    clear hL_b1 hM_b1
    have z5 : W4.heap.size ≤ W5.heap.size := b5.size
    have B5 : Hid (Below w.heap.size w W5) := B4.out.trans (b5.mono B4.out.size)
    have r_a5 : Hid (W5.heap[w.heap.size]? = some (.cells #[.int .i64 k, .int .i64 f, .int .i64 t, .int .i64 h.n, .string h.r, .int .i64 n, .slice ao0 x.length cap0] 28 (0, 0))) := rowKeep r_a4.out b5
    have o_b05 : Hid (Own W5 (W3.heap.size) (W4.heap.size) 5 (.slice ao_b0 L_b0 cap_b0) (bs ([] ++ Puts.num k))) := Own.later o_b04.out b5 (by omega)
    have c_a5_0 : W5.cell? ⟨w.heap.size, 0, none⟩ = some (.int .i64 k) := row_at r_a5.out 0
    have c_a5_1 : W5.cell? ⟨w.heap.size, 1, none⟩ = some (.int .i64 f) := row_at r_a5.out 1
    have c_a5_2 : W5.cell? ⟨w.heap.size, 2, none⟩ = some (.int .i64 t) := row_at r_a5.out 2
    have c_a5_3 : W5.cell? ⟨w.heap.size, 3, none⟩ = some (.int .i64 h.n) := row_at r_a5.out 3
    have c_a5_4 : W5.cell? ⟨w.heap.size, 4, none⟩ = some (.string h.r) := row_at r_a5.out 4
    have c_a5_5 : W5.cell? ⟨w.heap.size, 5, none⟩ = some (.int .i64 n) := row_at r_a5.out 5
    have c_a5_6 : W5.cell? ⟨w.heap.size, 6, none⟩ = some (.slice ao0 x.length cap0) := row_at r_a5.out 6
    clear r_a4 c_a4_0 c_a4_1 c_a4_2 c_a4_3 c_a4_4 c_a4_5 c_a4_6 o_b04
    clear o_b05
    refine wpAnyH_ready (rs := [9]) (by kernel_rfl) (by simp) ?_
    refine AllReadyH.cons rfl (fun K hK => ?_) AllReadyH.nil
    go_simp
    refine (Puts.put_spec W5 _ ([] ++ Puts.num k ++ Puts.num f) t o_b15.out.sl (by simp only [List.length_append, List.length_nil]; omega)).mono ?_
    rintro e W6 ⟨v_b2, rfl, o_b26, b6⟩
    refine hK.out _ _ ⟨(keepR (W := W5) hHeld.1 b6), (keepR (W := W5) hHeld.2.1 b6), (keepR (W := W5) hHeld.2.2.1 b6), (keepR (W := W5) hHeld.2.2.2.1 b6), (keepR (W := W5) hHeld.2.2.2.2.1 b6), (keepR (W := W5) hHeld.2.2.2.2.2.1 b6), (keepR (W := W5) hHeld.2.2.2.2.2.2 b6)⟩ (fun hHeld => ?_)
    clear hK K
    try simp only [Act.put, List.setIfInBounds_toArray, List.set_cons_zero, List.set_cons_succ, List.getElem_toArray, List.getElem_cons_zero, List.getElem_cons_succ]
    obtain ⟨ao_b2, L_b2, cap_b2, rfl, hL_b2, hM_b2⟩ := o_b26.form
    have o_b26 : Hid (Own W6 W5.heap.size W6.heap.size 5 (.slice ao_b2 L_b2 cap_b2) (bs ([] ++ Puts.num k ++ Puts.num f ++ Puts.num t))) := o_b26
    clear hL_b2 hM_b2
    have z6 : W5.heap.size ≤ W6.heap.size := b6.size
    have B6 : Hid (Below w.heap.size w W6) := B5.out.trans (b6.mono B5.out.size)
    have r_a6 : Hid (W6.heap[w.heap.size]? = some (.cells #[.int .i64 k, .int .i64 f, .int .i64 t, .int .i64 h.n, .string h.r, .int .i64 n, .slice ao0 x.length cap0] 28 (0, 0))) := rowKeep r_a5.out b6
    have o_b16 : Hid (Own W6 (W4.heap.size) (W5.heap.size) 5 (.slice ao_b1 L_b1 cap_b1) (bs ([] ++ Puts.num k ++ Puts.num f))) := Own.later o_b15.out b6 (by omega)
    have c_a6_0 : W6.cell? ⟨w.heap.size, 0, none⟩ = some (.int .i64 k) := row_at r_a6.out 0
    have c_a6_1 : W6.cell? ⟨w.heap.size, 1, none⟩ = some (.int .i64 f) := row_at r_a6.out 1
    have c_a6_2 : W6.cell? ⟨w.heap.size, 2, none⟩ = some (.int .i64 t) := row_at r_a6.out 2
    have c_a6_3 : W6.cell? ⟨w.heap.size, 3, none⟩ = some (.int .i64 h.n) := row_at r_a6.out 3
    have c_a6_4 : W6.cell? ⟨w.heap.size, 4, none⟩ = some (.string h.r) := row_at r_a6.out 4
    have c_a6_5 : W6.cell? ⟨w.heap.size, 5, none⟩ = some (.int .i64 n) := row_at r_a6.out 5
    have c_a6_6 : W6.cell? ⟨w.heap.size, 6, none⟩ = some (.slice ao0 x.length cap0) := row_at r_a6.out 6
    clear r_a5 c_a5_0 c_a5_1 c_a5_2 c_a5_3 c_a5_4 c_a5_5 c_a5_6 o_b15
    clear o_b16
    refine wpAnyH_ready (rs := [13]) (by kernel_rfl) (by simp) ?_
    refine AllReadyH.cons rfl (fun K hK => ?_) AllReadyH.nil
    go_simp
    refine (Puts.put_spec W6 _ ([] ++ Puts.num k ++ Puts.num f ++ Puts.num t) h.n o_b26.out.sl (by simp only [List.length_append, List.length_nil]; omega)).mono ?_
    rintro e W7 ⟨v_b3, rfl, o_b37, b7⟩
    refine hK.out _ _ ⟨(keepR (W := W6) hHeld.1 b7), (keepR (W := W6) hHeld.2.1 b7), (keepR (W := W6) hHeld.2.2.1 b7), (keepR (W := W6) hHeld.2.2.2.1 b7), (keepR (W := W6) hHeld.2.2.2.2.1 b7), (keepR (W := W6) hHeld.2.2.2.2.2.1 b7), (keepR (W := W6) hHeld.2.2.2.2.2.2 b7)⟩ (fun hHeld => ?_)
    clear hK K
    try simp only [Act.put, List.setIfInBounds_toArray, List.set_cons_zero, List.set_cons_succ, List.getElem_toArray, List.getElem_cons_zero, List.getElem_cons_succ]
    obtain ⟨ao_b3, L_b3, cap_b3, rfl, hL_b3, hM_b3⟩ := o_b37.form
    have o_b37 : Hid (Own W7 W6.heap.size W7.heap.size 5 (.slice ao_b3 L_b3 cap_b3) (bs ([] ++ Puts.num k ++ Puts.num f ++ Puts.num t ++ Puts.num h.n))) := o_b37
    clear hL_b3 hM_b3
    have z7 : W6.heap.size ≤ W7.heap.size := b7.size
    have B7 : Hid (Below w.heap.size w W7) := B6.out.trans (b7.mono B6.out.size)
    have r_a7 : Hid (W7.heap[w.heap.size]? = some (.cells #[.int .i64 k, .int .i64 f, .int .i64 t, .int .i64 h.n, .string h.r, .int .i64 n, .slice ao0 x.length cap0] 28 (0, 0))) := rowKeep r_a6.out b7
    have o_b27 : Hid (Own W7 (W5.heap.size) (W6.heap.size) 5 (.slice ao_b2 L_b2 cap_b2) (bs ([] ++ Puts.num k ++ Puts.num f ++ Puts.num t))) := Own.later o_b26.out b7 (by omega)
    have c_a7_0 : W7.cell? ⟨w.heap.size, 0, none⟩ = some (.int .i64 k) := row_at r_a7.out 0
    have c_a7_1 : W7.cell? ⟨w.heap.size, 1, none⟩ = some (.int .i64 f) := row_at r_a7.out 1
    have c_a7_2 : W7.cell? ⟨w.heap.size, 2, none⟩ = some (.int .i64 t) := row_at r_a7.out 2
    have c_a7_3 : W7.cell? ⟨w.heap.size, 3, none⟩ = some (.int .i64 h.n) := row_at r_a7.out 3
    have c_a7_4 : W7.cell? ⟨w.heap.size, 4, none⟩ = some (.string h.r) := row_at r_a7.out 4
    have c_a7_5 : W7.cell? ⟨w.heap.size, 5, none⟩ = some (.int .i64 n) := row_at r_a7.out 5
    have c_a7_6 : W7.cell? ⟨w.heap.size, 6, none⟩ = some (.slice ao0 x.length cap0) := row_at r_a7.out 6
    clear r_a6 c_a6_0 c_a6_1 c_a6_2 c_a6_3 c_a6_4 c_a6_5 c_a6_6 o_b26
    clear o_b27
    (refine wpAnyH_take (i := 14) (v := ?v14x10) rfl (by kernel_rfl) (by kernel_rfl) (by kernel_rfl) (fun _ _ _ h => h) (Or.inl ⟨by rfl, ?hy14x10⟩) (by assumption) ?rest14x10; case hy14x10 => (intro w hSw; (try dsimp only at hSw); go_split_ands; go_simp; (try with_reducible rfl)))
    try simp only [Act.put, List.setIfInBounds_toArray, List.set_cons_zero, List.set_cons_succ, List.getElem_toArray, List.getElem_cons_zero, List.getElem_cons_succ]
    refine wpAnyH_done (by kernel_rfl) ?_ _
    clear hHeld
    go_wp2_with fail
    refine wp_region_held_drew (S := fun w' => w'.cell? ⟨w.heap.size, 0, none⟩ = some (.int .i64 k) ∧ w'.cell? ⟨w.heap.size, 1, none⟩ = some (.int .i64 f) ∧ w'.cell? ⟨w.heap.size, 2, none⟩ = some (.int .i64 t) ∧ w'.cell? ⟨w.heap.size, 3, none⟩ = some (.int .i64 h.n) ∧ w'.cell? ⟨w.heap.size, 4, none⟩ = some (.string h.r) ∧ w'.cell? ⟨w.heap.size, 5, none⟩ = some (.int .i64 n) ∧ w'.cell? ⟨w.heap.size, 6, none⟩ = some (.slice ao0 x.length cap0)) (by kernel_rfl) ⟨c_a7_0, c_a7_1, c_a7_2, c_a7_3, c_a7_4, c_a7_5, c_a7_6⟩ (fun hHeld => ?_)
    (refine wpAnyH_take (i := 0) (v := ?v0x11) rfl (by kernel_rfl) (by kernel_rfl) (by kernel_rfl) (fun _ _ _ h => h) (Or.inl ⟨by rfl, ?hy0x11⟩) (by assumption) ?rest0x11; case hy0x11 => (intro w hSw; (try dsimp only at hSw); go_split_ands; go_simp; (try with_reducible rfl)))
    try simp only [Act.put, List.setIfInBounds_toArray, List.set_cons_zero, List.set_cons_succ, List.getElem_toArray, List.getElem_cons_zero, List.getElem_cons_succ]
    (refine wpAnyH_take (i := 1) (v := ?v1x12) rfl (by kernel_rfl) (by kernel_rfl) (by kernel_rfl) (fun _ _ _ h => h) (Or.inl ⟨by rfl, ?hy1x12⟩) (by assumption) ?rest1x12; case hy1x12 => (intro w hSw; (try dsimp only at hSw); go_split_ands; go_simp; (try with_reducible rfl)))
    try simp only [Act.put, List.setIfInBounds_toArray, List.set_cons_zero, List.set_cons_succ, List.getElem_toArray, List.getElem_cons_zero, List.getElem_cons_succ]
    (refine wpAnyH_take (i := 2) (v := ?v2x13) rfl (by kernel_rfl) (by kernel_rfl) (by kernel_rfl) (fun _ _ _ h => h) (Or.inl ⟨by rfl, ?hy2x13⟩) (by assumption) ?rest2x13; case hy2x13 => (intro w hSw; (try dsimp only at hSw); go_split_ands; go_simp; (try with_reducible rfl)))
    try simp only [Act.put, List.setIfInBounds_toArray, List.set_cons_zero, List.set_cons_succ, List.getElem_toArray, List.getElem_cons_zero, List.getElem_cons_succ]
    (refine wpAnyH_take (i := 3) (v := ?v3x14) rfl (by kernel_rfl) (by kernel_rfl) (by kernel_rfl) (fun _ _ _ h => h) (Or.inl ⟨by rfl, ?hy3x14⟩) (by assumption) ?rest3x14; case hy3x14 => (intro w hSw; (try dsimp only at hSw); go_split_ands; go_simp; (try with_reducible rfl)))
    try simp only [Act.put, List.setIfInBounds_toArray, List.set_cons_zero, List.set_cons_succ, List.getElem_toArray, List.getElem_cons_zero, List.getElem_cons_succ]
    (refine wpAnyH_take (i := 5) (v := ?v5x15) rfl (by kernel_rfl) (by kernel_rfl) (by kernel_rfl) (fun _ _ _ h => h) (Or.inl ⟨by rfl, ?hy5x15⟩) (by assumption) ?rest5x15; case hy5x15 => (intro w hSw; (try dsimp only at hSw); go_split_ands; go_simp; (try with_reducible rfl)))
    try simp only [Act.put, List.setIfInBounds_toArray, List.set_cons_zero, List.set_cons_succ, List.getElem_toArray, List.getElem_cons_zero, List.getElem_cons_succ]
    (refine wpAnyH_take (i := 6) (v := ?v6x16) rfl (by kernel_rfl) (by kernel_rfl) (by kernel_rfl) (fun _ _ _ h => h) (Or.inl ⟨by rfl, ?hy6x16⟩) (by assumption) ?rest6x16; case hy6x16 => (intro w hSw; (try dsimp only at hSw); go_split_ands; go_simp; (try with_reducible rfl)))
    try simp only [Act.put, List.setIfInBounds_toArray, List.set_cons_zero, List.set_cons_succ, List.getElem_toArray, List.getElem_cons_zero, List.getElem_cons_succ]
    (refine wpAnyH_take (i := 8) (v := ?v8x17) rfl (by kernel_rfl) (by kernel_rfl) (by kernel_rfl) (fun _ _ _ h => h) (Or.inl ⟨by rfl, ?hy8x17⟩) (by assumption) ?rest8x17; case hy8x17 => (intro w hSw; (try dsimp only at hSw); go_split_ands; go_simp; (try with_reducible rfl)))
    try simp only [Act.put, List.setIfInBounds_toArray, List.set_cons_zero, List.set_cons_succ, List.getElem_toArray, List.getElem_cons_zero, List.getElem_cons_succ]
    (refine wpAnyH_take (i := 9) (v := ?v9x18) rfl (by kernel_rfl) (by kernel_rfl) (by kernel_rfl) (fun _ _ _ h => h) (Or.inl ⟨by rfl, ?hy9x18⟩) (by assumption) ?rest9x18; case hy9x18 => (intro w hSw; (try dsimp only at hSw); go_split_ands; go_simp; (try with_reducible rfl)))
    try simp only [Act.put, List.setIfInBounds_toArray, List.set_cons_zero, List.set_cons_succ, List.getElem_toArray, List.getElem_cons_zero, List.getElem_cons_succ]
    refine wpAnyH_ready (rs := [4]) (by kernel_rfl) (by simp) ?_
    refine AllReadyH.cons rfl (fun K hK => ?_) AllReadyH.nil
    go_simp
    refine (Puts.putt_spec W7.drew _ ([] ++ Puts.num k ++ Puts.num f ++ Puts.num t ++ Puts.num h.n) h.r (Own.sl (w := W7) o_b37.out) (by simp only [List.length_append, List.length_nil]; omega) (by omega)).mono ?_
    rintro e W8 ⟨v_c0, rfl, o_c08, b8⟩
    have b8 : Below W7.heap.size W7 W8 := (Below.drew (Below.refl _ _)).trans b8
    refine hK.out _ _ ⟨(keepR (W := W7) hHeld.1 b8), (keepR (W := W7) hHeld.2.1 b8), (keepR (W := W7) hHeld.2.2.1 b8), (keepR (W := W7) hHeld.2.2.2.1 b8), (keepR (W := W7) hHeld.2.2.2.2.1 b8), (keepR (W := W7) hHeld.2.2.2.2.2.1 b8), (keepR (W := W7) hHeld.2.2.2.2.2.2 b8)⟩ (fun hHeld => ?_)
    clear hK K
    try simp only [Act.put, List.setIfInBounds_toArray, List.set_cons_zero, List.set_cons_succ, List.getElem_toArray, List.getElem_cons_zero, List.getElem_cons_succ]
    have o_c08 : Own W8 W7.heap.size W8.heap.size 5 _ _ := o_c08
    obtain ⟨ao_c0, L_c0, cap_c0, rfl, hL_c0, hM_c0⟩ := o_c08.form
    have o_c08 : Hid (Own W8 W7.heap.size W8.heap.size 5 (.slice ao_c0 L_c0 cap_c0) (bs ([] ++ Puts.num k ++ Puts.num f ++ Puts.num t ++ Puts.num h.n ++ Puts.tx h.r))) := o_c08
    clear hL_c0 hM_c0
    have z8 : W7.heap.size ≤ W8.heap.size := b8.size
    have B8 : Hid (Below w.heap.size w W8) := B7.out.trans (b8.mono B7.out.size)
    have r_a8 : Hid (W8.heap[w.heap.size]? = some (.cells #[.int .i64 k, .int .i64 f, .int .i64 t, .int .i64 h.n, .string h.r, .int .i64 n, .slice ao0 x.length cap0] 28 (0, 0))) := rowKeep r_a7.out b8
    have o_b38 : Hid (Own W8 (W6.heap.size) (W7.heap.size) 5 (.slice ao_b3 L_b3 cap_b3) (bs ([] ++ Puts.num k ++ Puts.num f ++ Puts.num t ++ Puts.num h.n))) := Own.later o_b37.out b8 (by omega)
    have c_a8_0 : W8.cell? ⟨w.heap.size, 0, none⟩ = some (.int .i64 k) := row_at r_a8.out 0
    have c_a8_1 : W8.cell? ⟨w.heap.size, 1, none⟩ = some (.int .i64 f) := row_at r_a8.out 1
    have c_a8_2 : W8.cell? ⟨w.heap.size, 2, none⟩ = some (.int .i64 t) := row_at r_a8.out 2
    have c_a8_3 : W8.cell? ⟨w.heap.size, 3, none⟩ = some (.int .i64 h.n) := row_at r_a8.out 3
    have c_a8_4 : W8.cell? ⟨w.heap.size, 4, none⟩ = some (.string h.r) := row_at r_a8.out 4
    have c_a8_5 : W8.cell? ⟨w.heap.size, 5, none⟩ = some (.int .i64 n) := row_at r_a8.out 5
    have c_a8_6 : W8.cell? ⟨w.heap.size, 6, none⟩ = some (.slice ao0 x.length cap0) := row_at r_a8.out 6
    clear r_a7 c_a7_0 c_a7_1 c_a7_2 c_a7_3 c_a7_4 c_a7_5 c_a7_6 o_b37
    clear o_b38
    refine wpAnyH_ready (rs := [7]) (by kernel_rfl) (by simp) ?_
    refine AllReadyH.cons rfl (fun K hK => ?_) AllReadyH.nil
    go_simp
    refine (Puts.put_spec W8 _ ([] ++ Puts.num k ++ Puts.num f ++ Puts.num t ++ Puts.num h.n ++ Puts.tx h.r) n o_c08.out.sl (by simp only [List.length_append, List.length_nil]; omega)).mono ?_
    rintro e W9 ⟨v_c1, rfl, o_c19, b9⟩
    refine hK.out _ _ ⟨(keepR (W := W8) hHeld.1 b9), (keepR (W := W8) hHeld.2.1 b9), (keepR (W := W8) hHeld.2.2.1 b9), (keepR (W := W8) hHeld.2.2.2.1 b9), (keepR (W := W8) hHeld.2.2.2.2.1 b9), (keepR (W := W8) hHeld.2.2.2.2.2.1 b9), (keepR (W := W8) hHeld.2.2.2.2.2.2 b9)⟩ (fun hHeld => ?_)
    clear hK K
    try simp only [Act.put, List.setIfInBounds_toArray, List.set_cons_zero, List.set_cons_succ, List.getElem_toArray, List.getElem_cons_zero, List.getElem_cons_succ]
    obtain ⟨ao_c1, L_c1, cap_c1, rfl, hL_c1, hM_c1⟩ := o_c19.form
    have o_c19 : Hid (Own W9 W8.heap.size W9.heap.size 5 (.slice ao_c1 L_c1 cap_c1) (bs ([] ++ Puts.num k ++ Puts.num f ++ Puts.num t ++ Puts.num h.n ++ Puts.tx h.r ++ Puts.num n))) := o_c19
    clear hL_c1 hM_c1
    have z9 : W8.heap.size ≤ W9.heap.size := b9.size
    have B9 : Hid (Below w.heap.size w W9) := B8.out.trans (b9.mono B8.out.size)
    have r_a9 : Hid (W9.heap[w.heap.size]? = some (.cells #[.int .i64 k, .int .i64 f, .int .i64 t, .int .i64 h.n, .string h.r, .int .i64 n, .slice ao0 x.length cap0] 28 (0, 0))) := rowKeep r_a8.out b9
    have o_c09 : Hid (Own W9 (W7.heap.size) (W8.heap.size) 5 (.slice ao_c0 L_c0 cap_c0) (bs ([] ++ Puts.num k ++ Puts.num f ++ Puts.num t ++ Puts.num h.n ++ Puts.tx h.r))) := Own.later o_c08.out b9 (by omega)
    have c_a9_0 : W9.cell? ⟨w.heap.size, 0, none⟩ = some (.int .i64 k) := row_at r_a9.out 0
    have c_a9_1 : W9.cell? ⟨w.heap.size, 1, none⟩ = some (.int .i64 f) := row_at r_a9.out 1
    have c_a9_2 : W9.cell? ⟨w.heap.size, 2, none⟩ = some (.int .i64 t) := row_at r_a9.out 2
    have c_a9_3 : W9.cell? ⟨w.heap.size, 3, none⟩ = some (.int .i64 h.n) := row_at r_a9.out 3
    have c_a9_4 : W9.cell? ⟨w.heap.size, 4, none⟩ = some (.string h.r) := row_at r_a9.out 4
    have c_a9_5 : W9.cell? ⟨w.heap.size, 5, none⟩ = some (.int .i64 n) := row_at r_a9.out 5
    have c_a9_6 : W9.cell? ⟨w.heap.size, 6, none⟩ = some (.slice ao0 x.length cap0) := row_at r_a9.out 6
    clear r_a8 c_a8_0 c_a8_1 c_a8_2 c_a8_3 c_a8_4 c_a8_5 c_a8_6 o_c08
    clear o_c09
    refine wpAnyH_ready (rs := [10]) (by kernel_rfl) (by simp) ?_
    refine AllReadyH.cons rfl (fun K hK => ?_) AllReadyH.nil
    go_simp
    refine (Puts.putts_spec W9 _ _ ([] ++ Puts.num k ++ Puts.num f ++ Puts.num t ++ Puts.num h.n ++ Puts.tx h.r ++ Puts.num n) x o_c19.out.sl (HS.out.later B9.out) (by simp only [List.length_append, List.length_nil]; omega) (by omega)).mono ?_
    rintro e W10 ⟨v_c2, rfl, o_c210, b10⟩
    refine hK.out _ _ ⟨(keepR (W := W9) hHeld.1 b10), (keepR (W := W9) hHeld.2.1 b10), (keepR (W := W9) hHeld.2.2.1 b10), (keepR (W := W9) hHeld.2.2.2.1 b10), (keepR (W := W9) hHeld.2.2.2.2.1 b10), (keepR (W := W9) hHeld.2.2.2.2.2.1 b10), (keepR (W := W9) hHeld.2.2.2.2.2.2 b10)⟩ (fun hHeld => ?_)
    clear hK K
    try simp only [Act.put, List.setIfInBounds_toArray, List.set_cons_zero, List.set_cons_succ, List.getElem_toArray, List.getElem_cons_zero, List.getElem_cons_succ]
    obtain ⟨ao_c2, L_c2, cap_c2, rfl, hL_c2, hM_c2⟩ := o_c210.form
    have o_c210 : Hid (Own W10 W9.heap.size W10.heap.size 5 (.slice ao_c2 L_c2 cap_c2) (bs ([] ++ Puts.num k ++ Puts.num f ++ Puts.num t ++ Puts.num h.n ++ Puts.tx h.r ++ Puts.num n ++ Puts.num (x.length : Int) ++ Puts.txs x))) := o_c210
    clear hL_c2 hM_c2
    have z10 : W9.heap.size ≤ W10.heap.size := b10.size
    have B10 : Hid (Below w.heap.size w W10) := B9.out.trans (b10.mono B9.out.size)
    have r_a10 : Hid (W10.heap[w.heap.size]? = some (.cells #[.int .i64 k, .int .i64 f, .int .i64 t, .int .i64 h.n, .string h.r, .int .i64 n, .slice ao0 x.length cap0] 28 (0, 0))) := rowKeep r_a9.out b10
    have o_c110 : Hid (Own W10 (W8.heap.size) (W9.heap.size) 5 (.slice ao_c1 L_c1 cap_c1) (bs ([] ++ Puts.num k ++ Puts.num f ++ Puts.num t ++ Puts.num h.n ++ Puts.tx h.r ++ Puts.num n))) := Own.later o_c19.out b10 (by omega)
    have c_a10_0 : W10.cell? ⟨w.heap.size, 0, none⟩ = some (.int .i64 k) := row_at r_a10.out 0
    have c_a10_1 : W10.cell? ⟨w.heap.size, 1, none⟩ = some (.int .i64 f) := row_at r_a10.out 1
    have c_a10_2 : W10.cell? ⟨w.heap.size, 2, none⟩ = some (.int .i64 t) := row_at r_a10.out 2
    have c_a10_3 : W10.cell? ⟨w.heap.size, 3, none⟩ = some (.int .i64 h.n) := row_at r_a10.out 3
    have c_a10_4 : W10.cell? ⟨w.heap.size, 4, none⟩ = some (.string h.r) := row_at r_a10.out 4
    have c_a10_5 : W10.cell? ⟨w.heap.size, 5, none⟩ = some (.int .i64 n) := row_at r_a10.out 5
    have c_a10_6 : W10.cell? ⟨w.heap.size, 6, none⟩ = some (.slice ao0 x.length cap0) := row_at r_a10.out 6
    clear r_a9 c_a9_0 c_a9_1 c_a9_2 c_a9_3 c_a9_4 c_a9_5 c_a9_6 o_c19
    clear o_c110
    (refine wpAnyH_take (i := 11) (v := ?v11x19) rfl (by kernel_rfl) (by kernel_rfl) (by kernel_rfl) (fun _ _ _ h => h) (Or.inl ⟨by rfl, ?hy11x19⟩) (by assumption) ?rest11x19; case hy11x19 => (intro w hSw; (try dsimp only at hSw); go_split_ands; go_simp; (try with_reducible rfl)))
    try simp only [Act.put, List.setIfInBounds_toArray, List.set_cons_zero, List.set_cons_succ, List.getElem_toArray, List.getElem_cons_zero, List.getElem_cons_succ]
    refine wpAnyH_done (by kernel_rfl) ?_ _
    clear hHeld
    have e8 : [] ++ Puts.num k ++ Puts.num f ++ Puts.num t ++ Puts.num h.n ++ Puts.tx h.r ++ Puts.num n ++ Puts.num (x.length : Int) ++ Puts.txs x = bytesM ⟨k, f, t, h, n, x⟩ := by unfold bytesM; simp only [List.append_assoc, List.nil_append]
    have o9 := o_c210.out
    rw [e8] at o9
    have HO9 : Hid _ := o9
    clear o9 e8
    go_wp2
    go_ret
    exact ⟨_, rfl, Own.mono HO9.out (by omega) (Nat.le_refl _), B10.out⟩

end Go.Proofs.Yteemblfjghnooaa.Mg
