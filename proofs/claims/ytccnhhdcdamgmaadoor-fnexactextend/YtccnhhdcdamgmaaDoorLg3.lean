/- Chapter 11, the specification's side: what a log proves. -/
import Derived.Test.YtccnhhdcdamgmaaDoorLg2
namespace Go.Proofs.YtccnhhdcdamgmaaDoor.Lg
open Go.RowKit Go.Proofs.YtccnhhdcdamgmaaDoor.Mem Go.Proofs.YtccnhhdcdamgmaaDoor.Laws Go.Proofs.YtccnhhdcdamgmaaDoor.Bytes Go.Proofs.YtccnhhdcdamgmaaDoor.Sha Go.Proofs.YtccnhhdcdamgmaaDoor.Tr Go.Proofs.YtccnhhdcdamgmaaDoor.He
set_option linter.unusedVariables false
set_option linter.unusedSimpArgs false

set_option maxRecDepth 1000000 in
set_option maxHeartbeats 4000000 in
theorem provein_spec (w : World) (v : Value) (l : List ByteArray) (h : Hd) (i : Int) (hs : Sl w v (ss l)) (hl : l.length ≤ 1000000000) (hz : ∀ s ∈ l, s.size ≤ 10000000000) :
    Calls Tryd.prog 19 #[.agg #[v, .int .i64 h.n, .string h.r], .int .i64 i] w fun e w' => ∃ v', e = .returned (.tuple #[v', .bool (proveIn l h i).2]) ∧ Own w' w.heap.size w'.heap.size 9 v' (ss (proveIn l h i).1) ∧ Below w.heap.size w w' := by
  have HS : Hid (Sl w v (ss l)) := hs
  obtain ⟨ao0, cap0, rfl, hc0⟩ := hs.form
  simp only [ss_len] at *
  clear hs
  have B0 : Hid (Below w.heap.size w w) := Below.refl _ _
  obtain ⟨W1, HW1, b1, y1, hS1, r_a1⟩ : ∃ X, Hid ((w.alloc (.cells #[.slice ao0 l.length cap0, .int .i64 h.n, .string h.r] 28)) = X) ∧ Below w.heap.size w X ∧ w.heap.size + 1 ≤ X.heap.size ∧ Hid (X.heap.size = w.heap.size + 1) ∧ Hid (X.heap[w.heap.size]? = some (.cells #[.slice ao0 l.length cap0, .int .i64 h.n, .string h.r] 28 (0, 0))) := ⟨_, rfl, ((Below.refl _ _).alloc (Nat.le_refl _) _), by simp, by show _ = _; simp, (by show _ = _; exact alloc_nth1_0 w _)⟩
  have z1 : w.heap.size ≤ W1.heap.size := b1.size
  have B1 : Hid (Below w.heap.size w W1) := B0.out.trans (b1.mono B0.out.size)
  have c_a1_0 : W1.cell? ⟨w.heap.size, 0, none⟩ = some (.slice ao0 l.length cap0) := row_at r_a1.out 0
  have a_a1_0 : ∀ o, (W1.alloc o).cell? ⟨w.heap.size, 0, none⟩ = some (.slice ao0 l.length cap0) := fun o => keepR c_a1_0 ((Below.refl _ _).alloc (Nat.le_refl _) o)
  have c_a1_1 : W1.cell? ⟨w.heap.size, 1, none⟩ = some (.int .i64 h.n) := row_at r_a1.out 1
  have a_a1_1 : ∀ o, (W1.alloc o).cell? ⟨w.heap.size, 1, none⟩ = some (.int .i64 h.n) := fun o => keepR c_a1_1 ((Below.refl _ _).alloc (Nat.le_refl _) o)
  have c_a1_2 : W1.cell? ⟨w.heap.size, 2, none⟩ = some (.string h.r) := row_at r_a1.out 2
  have a_a1_2 : ∀ o, (W1.alloc o).cell? ⟨w.heap.size, 2, none⟩ = some (.string h.r) := fun o => keepR c_a1_2 ((Below.refl _ _).alloc (Nat.le_refl _) o)
  have hqA : ∀ W v1, Sl W v1 (ss l) → _ := fun W v1 h1 => logok_spec W v1 l h h1 (by omega) hz
  obtain ⟨A, hA⟩ : ∃ A, logOk l h = A := ⟨_, rfl⟩
  simp only [hA] at hqA
  have HA : Hid (logOk l h = A) := hA
  clear hA
  obtain ⟨R, hR⟩ : ∃ R, proveIn l h i = R := ⟨_, rfl⟩
  have HR : Hid (proveIn l h i = R) := hR
  rw [hR]
  clear hR
  go_enter Tryd.func19, Tryd.ntmps19
  go_wp2_with fail
  rw [HW1.out]
  refine (hqA W1 _ (HS.out.later B1.out)).mono ?_
  rintro e W2 ⟨rfl, b2⟩
  have z2 : W1.heap.size ≤ W2.heap.size := b2.size
  have B2 : Hid (Below w.heap.size w W2) := B1.out.trans (b2.mono B1.out.size)
  have r_a2 : Hid (W2.heap[w.heap.size]? = some (.cells #[.slice ao0 l.length cap0, .int .i64 h.n, .string h.r] 28 (0, 0))) := rowKeep r_a1.out b2
  have c_a2_0 : W2.cell? ⟨w.heap.size, 0, none⟩ = some (.slice ao0 l.length cap0) := row_at r_a2.out 0
  have a_a2_0 : ∀ o, (W2.alloc o).cell? ⟨w.heap.size, 0, none⟩ = some (.slice ao0 l.length cap0) := fun o => keepR c_a2_0 ((Below.refl _ _).alloc (Nat.le_refl _) o)
  have c_a2_1 : W2.cell? ⟨w.heap.size, 1, none⟩ = some (.int .i64 h.n) := row_at r_a2.out 1
  have a_a2_1 : ∀ o, (W2.alloc o).cell? ⟨w.heap.size, 1, none⟩ = some (.int .i64 h.n) := fun o => keepR c_a2_1 ((Below.refl _ _).alloc (Nat.le_refl _) o)
  have c_a2_2 : W2.cell? ⟨w.heap.size, 2, none⟩ = some (.string h.r) := row_at r_a2.out 2
  have a_a2_2 : ∀ o, (W2.alloc o).cell? ⟨w.heap.size, 2, none⟩ = some (.string h.r) := fun o => keepR c_a2_2 ((Below.refl _ _).alloc (Nat.le_refl _) o)
  clear r_a1 c_a1_0 c_a1_1 c_a1_2 a_a1_0 a_a1_1 a_a1_2
  cases A
  · have hA := HA.out
    have HN : Hid (R = ([], false)) := by show _ = _; rw [← HR.out]; unfold proveIn; rw [if_neg (fun hk => by rw [hA] at hk; exact absurd hk.1 (by simp))]
    have HO : Hid (Own (W2.alloc (.cells #[] 9)) w.heap.size (W2.alloc (.cells #[] 9)).heap.size 9 (.slice (some ⟨W2.heap.size, 0, none⟩) 0 0) (ss [])) := emptyT W2 w.heap.size (by omega)
    go_wp2
    go_ret2
    exact ⟨_, by rw [HN.out]; rfl, by rw [HN.out]; exact HO.out, B2.out.alloc (by omega) _⟩
  · have hl2 := (logOk_yes HA.out).1
    have hwr : IntKind.i64.wrap ((l.length : Int) - 1) = (l.length : Int) - 1 := by rw [IntKind.wrap_i64]; omega
    by_cases hin : 0 ≤ i ∧ i ≤ (l.length : Int) - 1
    · obtain ⟨j, rfl⟩ : ∃ j : Nat, i = (j : Int) := ⟨i.toNat, by omega⟩
      have q1 := in6t W2 hin
      go_wp2_with fail
      refine q1.mono ?_
      rintro e w0 ⟨rfl, rfl⟩
      clear q1
      have HN : Hid (R = (path l j, true)) := by show _ = _; rw [← HR.out]; unfold proveIn; rw [if_pos ⟨HA.out, hin⟩]; simp
      obtain ⟨L, hL⟩ : ∃ L, path l j = L := ⟨_, rfl⟩
      have q2 : ∀ W v1, Sl W v1 (ss l) → _ := fun W v1 h1 => path_any l.length l (Nat.le_refl _) W v1 j h1 (by omega) (by omega) hz
      simp only [hL] at q2
      rw [hL] at HN
      clear hL hz
      go_wp2_with fail
      refine (q2 W2 _ (HS.out.later B2.out)).mono ?_
      rintro e W3 ⟨v_p, rfl, o_p3, b3⟩
      obtain ⟨ao_p, L_p, cap_p, rfl, hL_p, hM_p⟩ := o_p3.form
      have o_p3 : Hid (Own W3 W2.heap.size W3.heap.size 9 (.slice ao_p L_p cap_p) (ss L)) := o_p3
      clear hL_p hM_p
      have z3 : W2.heap.size ≤ W3.heap.size := b3.size
      have B3 : Hid (Below w.heap.size w W3) := B2.out.trans (b3.mono B2.out.size)
      have r_a3 : Hid (W3.heap[w.heap.size]? = some (.cells #[.slice ao0 l.length cap0, .int .i64 h.n, .string h.r] 28 (0, 0))) := rowKeep r_a2.out b3
      have c_a3_0 : W3.cell? ⟨w.heap.size, 0, none⟩ = some (.slice ao0 l.length cap0) := row_at r_a3.out 0
      have a_a3_0 : ∀ o, (W3.alloc o).cell? ⟨w.heap.size, 0, none⟩ = some (.slice ao0 l.length cap0) := fun o => keepR c_a3_0 ((Below.refl _ _).alloc (Nat.le_refl _) o)
      have c_a3_1 : W3.cell? ⟨w.heap.size, 1, none⟩ = some (.int .i64 h.n) := row_at r_a3.out 1
      have a_a3_1 : ∀ o, (W3.alloc o).cell? ⟨w.heap.size, 1, none⟩ = some (.int .i64 h.n) := fun o => keepR c_a3_1 ((Below.refl _ _).alloc (Nat.le_refl _) o)
      have c_a3_2 : W3.cell? ⟨w.heap.size, 2, none⟩ = some (.string h.r) := row_at r_a3.out 2
      have a_a3_2 : ∀ o, (W3.alloc o).cell? ⟨w.heap.size, 2, none⟩ = some (.string h.r) := fun o => keepR c_a3_2 ((Below.refl _ _).alloc (Nat.le_refl _) o)
      clear r_a2 c_a2_0 c_a2_1 c_a2_2 a_a2_0 a_a2_1 a_a2_2
      go_wp2
      go_ret2
      exact ⟨_, by rw [HN.out]; rfl, by rw [HN.out]; exact o_p3.out.mono (by omega) (Nat.le_refl _), B3.out⟩
    · have q1 := in6f W2 hin
      go_wp2_with fail
      refine q1.mono ?_
      rintro e w0 ⟨rfl, rfl⟩
      clear q1
      have HN : Hid (R = ([], false)) := by show _ = _; rw [← HR.out]; unfold proveIn; rw [if_neg (fun hk => hin hk.2)]
      have HO : Hid (Own (W2.alloc (.cells #[] 9)) w.heap.size (W2.alloc (.cells #[] 9)).heap.size 9 (.slice (some ⟨W2.heap.size, 0, none⟩) 0 0) (ss [])) := emptyT W2 w.heap.size (by omega)
      go_wp2
      go_ret2
      exact ⟨_, by rw [HN.out]; rfl, by rw [HN.out]; exact HO.out, B2.out.alloc (by omega) _⟩

set_option maxRecDepth 1000000 in
set_option maxHeartbeats 4000000 in
theorem provegrown_spec (w : World) (v : Value) (l : List ByteArray) (h : Hd) (i : Int) (hs : Sl w v (ss l)) (hl : l.length ≤ 1000000000) (hz : ∀ s ∈ l, s.size ≤ 10000000000) :
    Calls Tryd.prog 22 #[.agg #[v, .int .i64 h.n, .string h.r], .int .i64 i] w fun e w' => ∃ v', e = .returned (.tuple #[v', .bool (proveGrown l h i).2]) ∧ Own w' w.heap.size w'.heap.size 9 v' (ss (proveGrown l h i).1) ∧ Below w.heap.size w w' := by
  have HS : Hid (Sl w v (ss l)) := hs
  obtain ⟨ao0, cap0, rfl, hc0⟩ := hs.form
  simp only [ss_len] at *
  clear hs
  have B0 : Hid (Below w.heap.size w w) := Below.refl _ _
  obtain ⟨W1, HW1, b1, y1, hS1, r_a1⟩ : ∃ X, Hid ((w.alloc (.cells #[.slice ao0 l.length cap0, .int .i64 h.n, .string h.r] 28)) = X) ∧ Below w.heap.size w X ∧ w.heap.size + 1 ≤ X.heap.size ∧ Hid (X.heap.size = w.heap.size + 1) ∧ Hid (X.heap[w.heap.size]? = some (.cells #[.slice ao0 l.length cap0, .int .i64 h.n, .string h.r] 28 (0, 0))) := ⟨_, rfl, ((Below.refl _ _).alloc (Nat.le_refl _) _), by simp, by show _ = _; simp, (by show _ = _; exact alloc_nth1_0 w _)⟩
  have z1 : w.heap.size ≤ W1.heap.size := b1.size
  have B1 : Hid (Below w.heap.size w W1) := B0.out.trans (b1.mono B0.out.size)
  have c_a1_0 : W1.cell? ⟨w.heap.size, 0, none⟩ = some (.slice ao0 l.length cap0) := row_at r_a1.out 0
  have a_a1_0 : ∀ o, (W1.alloc o).cell? ⟨w.heap.size, 0, none⟩ = some (.slice ao0 l.length cap0) := fun o => keepR c_a1_0 ((Below.refl _ _).alloc (Nat.le_refl _) o)
  have c_a1_1 : W1.cell? ⟨w.heap.size, 1, none⟩ = some (.int .i64 h.n) := row_at r_a1.out 1
  have a_a1_1 : ∀ o, (W1.alloc o).cell? ⟨w.heap.size, 1, none⟩ = some (.int .i64 h.n) := fun o => keepR c_a1_1 ((Below.refl _ _).alloc (Nat.le_refl _) o)
  have c_a1_2 : W1.cell? ⟨w.heap.size, 2, none⟩ = some (.string h.r) := row_at r_a1.out 2
  have a_a1_2 : ∀ o, (W1.alloc o).cell? ⟨w.heap.size, 2, none⟩ = some (.string h.r) := fun o => keepR c_a1_2 ((Below.refl _ _).alloc (Nat.le_refl _) o)
  have hqA : ∀ W v1, Sl W v1 (ss l) → _ := fun W v1 h1 => logok_spec W v1 l h h1 (by omega) hz
  obtain ⟨A, hA⟩ : ∃ A, logOk l h = A := ⟨_, rfl⟩
  simp only [hA] at hqA
  have HA : Hid (logOk l h = A) := hA
  clear hA
  obtain ⟨R, hR⟩ : ∃ R, proveGrown l h i = R := ⟨_, rfl⟩
  have HR : Hid (proveGrown l h i = R) := hR
  rw [hR]
  clear hR
  go_enter Tryd.func22, Tryd.ntmps22
  go_wp2_with fail
  rw [HW1.out]
  refine (hqA W1 _ (HS.out.later B1.out)).mono ?_
  rintro e W2 ⟨rfl, b2⟩
  have z2 : W1.heap.size ≤ W2.heap.size := b2.size
  have B2 : Hid (Below w.heap.size w W2) := B1.out.trans (b2.mono B1.out.size)
  have r_a2 : Hid (W2.heap[w.heap.size]? = some (.cells #[.slice ao0 l.length cap0, .int .i64 h.n, .string h.r] 28 (0, 0))) := rowKeep r_a1.out b2
  have c_a2_0 : W2.cell? ⟨w.heap.size, 0, none⟩ = some (.slice ao0 l.length cap0) := row_at r_a2.out 0
  have a_a2_0 : ∀ o, (W2.alloc o).cell? ⟨w.heap.size, 0, none⟩ = some (.slice ao0 l.length cap0) := fun o => keepR c_a2_0 ((Below.refl _ _).alloc (Nat.le_refl _) o)
  have c_a2_1 : W2.cell? ⟨w.heap.size, 1, none⟩ = some (.int .i64 h.n) := row_at r_a2.out 1
  have a_a2_1 : ∀ o, (W2.alloc o).cell? ⟨w.heap.size, 1, none⟩ = some (.int .i64 h.n) := fun o => keepR c_a2_1 ((Below.refl _ _).alloc (Nat.le_refl _) o)
  have c_a2_2 : W2.cell? ⟨w.heap.size, 2, none⟩ = some (.string h.r) := row_at r_a2.out 2
  have a_a2_2 : ∀ o, (W2.alloc o).cell? ⟨w.heap.size, 2, none⟩ = some (.string h.r) := fun o => keepR c_a2_2 ((Below.refl _ _).alloc (Nat.le_refl _) o)
  clear r_a1 c_a1_0 c_a1_1 c_a1_2 a_a1_0 a_a1_1 a_a1_2
  cases A
  · have hA := HA.out
    have HN : Hid (R = ([], false)) := by show _ = _; rw [← HR.out]; unfold proveGrown; rw [if_neg (fun hk => by rw [hA] at hk; exact absurd hk.1 (by simp))]
    have HO : Hid (Own (W2.alloc (.cells #[] 9)) w.heap.size (W2.alloc (.cells #[] 9)).heap.size 9 (.slice (some ⟨W2.heap.size, 0, none⟩) 0 0) (ss [])) := emptyT W2 w.heap.size (by omega)
    go_wp2
    go_ret2
    exact ⟨_, by rw [HN.out]; rfl, by rw [HN.out]; exact HO.out, B2.out.alloc (by omega) _⟩
  · have hl2 := (logOk_yes HA.out).1
    have hwr : IntKind.i64.wrap ((l.length : Int) - 1) = (l.length : Int) - 1 := by rw [IntKind.wrap_i64]; omega
    by_cases hin : 1 ≤ i ∧ i ≤ (l.length : Int) - 1
    · obtain ⟨j, rfl⟩ : ∃ j : Nat, i = (j : Int) := ⟨i.toNat, by omega⟩
      have q1 := in6t W2 hin
      go_wp2_with fail
      refine q1.mono ?_
      rintro e w0 ⟨rfl, rfl⟩
      clear q1
      have HN : Hid (R = (grow l j true, true)) := by show _ = _; rw [← HR.out]; unfold proveGrown; rw [if_pos ⟨HA.out, hin⟩]; simp
      obtain ⟨L, hL⟩ : ∃ L, grow l j true = L := ⟨_, rfl⟩
      have q2 : ∀ W v1, Sl W v1 (ss l) → _ := fun W v1 h1 => grow_any l.length l (Nat.le_refl _) W v1 j true h1 (by omega) (by omega) (by omega) hz
      simp only [hL] at q2
      rw [hL] at HN
      clear hL hz
      go_wp2_with fail
      refine (q2 W2 _ (HS.out.later B2.out)).mono ?_
      rintro e W3 ⟨v_p, rfl, o_p3, b3⟩
      obtain ⟨ao_p, L_p, cap_p, rfl, hL_p, hM_p⟩ := o_p3.form
      have o_p3 : Hid (Own W3 W2.heap.size W3.heap.size 9 (.slice ao_p L_p cap_p) (ss L)) := o_p3
      clear hL_p hM_p
      have z3 : W2.heap.size ≤ W3.heap.size := b3.size
      have B3 : Hid (Below w.heap.size w W3) := B2.out.trans (b3.mono B2.out.size)
      have r_a3 : Hid (W3.heap[w.heap.size]? = some (.cells #[.slice ao0 l.length cap0, .int .i64 h.n, .string h.r] 28 (0, 0))) := rowKeep r_a2.out b3
      have c_a3_0 : W3.cell? ⟨w.heap.size, 0, none⟩ = some (.slice ao0 l.length cap0) := row_at r_a3.out 0
      have a_a3_0 : ∀ o, (W3.alloc o).cell? ⟨w.heap.size, 0, none⟩ = some (.slice ao0 l.length cap0) := fun o => keepR c_a3_0 ((Below.refl _ _).alloc (Nat.le_refl _) o)
      have c_a3_1 : W3.cell? ⟨w.heap.size, 1, none⟩ = some (.int .i64 h.n) := row_at r_a3.out 1
      have a_a3_1 : ∀ o, (W3.alloc o).cell? ⟨w.heap.size, 1, none⟩ = some (.int .i64 h.n) := fun o => keepR c_a3_1 ((Below.refl _ _).alloc (Nat.le_refl _) o)
      have c_a3_2 : W3.cell? ⟨w.heap.size, 2, none⟩ = some (.string h.r) := row_at r_a3.out 2
      have a_a3_2 : ∀ o, (W3.alloc o).cell? ⟨w.heap.size, 2, none⟩ = some (.string h.r) := fun o => keepR c_a3_2 ((Below.refl _ _).alloc (Nat.le_refl _) o)
      clear r_a2 c_a2_0 c_a2_1 c_a2_2 a_a2_0 a_a2_1 a_a2_2
      go_wp2
      go_ret2
      exact ⟨_, by rw [HN.out]; rfl, by rw [HN.out]; exact o_p3.out.mono (by omega) (Nat.le_refl _), B3.out⟩
    · have q1 := in6f W2 hin
      go_wp2_with fail
      refine q1.mono ?_
      rintro e w0 ⟨rfl, rfl⟩
      clear q1
      have HN : Hid (R = ([], false)) := by show _ = _; rw [← HR.out]; unfold proveGrown; rw [if_neg (fun hk => hin hk.2)]
      have HO : Hid (Own (W2.alloc (.cells #[] 9)) w.heap.size (W2.alloc (.cells #[] 9)).heap.size 9 (.slice (some ⟨W2.heap.size, 0, none⟩) 0 0) (ss [])) := emptyT W2 w.heap.size (by omega)
      go_wp2
      go_ret2
      exact ⟨_, by rw [HN.out]; rfl, by rw [HN.out]; exact HO.out, B2.out.alloc (by omega) _⟩

end Go.Proofs.YtccnhhdcdamgmaaDoor.Lg
