/- Chapter 13, the landed code: a word as one of three types; whether it is right. -/
import Derived.Test.YteemblfjghnooaaMg2
import Derived.Test.YteemblfjghnooaaHfA
namespace Go.Proofs.Yteemblfjghnooaa.Wd
open Go.Proofs.Yteemblfjghnooaa.Mg
open Go.RowKit Go.Proofs.Yteemblfjghnooaa.Mem Go.Proofs.Yteemblfjghnooaa.Laws Go.Proofs.Yteemblfjghnooaa.Bytes Go.Proofs.Yteemblfjghnooaa.Sha Go.Proofs.Yteemblfjghnooaa.Tr Go.Proofs.Yteemblfjghnooaa.He
set_option linter.unusedVariables false
set_option linter.unusedSimpArgs false

theorem zero_h : (Try.prog.info? 89).map (·.zero) = some (some (.agg #[.int .i64 0, .string ⟨#[]⟩])) := by kernel_rfl
theorem zero_a : (Try.prog.info? 91).map (·.zero) = some (some (.agg #[.int .i64 0, .string ⟨#[]⟩, .int .i64 0])) := by kernel_rfl
theorem zero_t : (Try.prog.info? 93).map (·.zero) = some (some (.agg #[.int .i64 0, .string ⟨#[]⟩, .int .i64 0, .slice none 0 0])) := by kernel_rfl
theorem ta_hh (w : World) (v : Value) : (Instr.typeAssert (.iface 89 v) 66 89 true).run Try.prog w = .ok (.tuple #[v, .bool true]) w := by
  simp [Instr.typeAssert, run_underlying Try.underlying89, go_sem]
theorem ta_ah (w : World) (v : Value) : (Instr.typeAssert (.iface 91 v) 66 89 true).run Try.prog w = .ok (.tuple #[.agg #[.int .i64 0, .string ⟨#[]⟩], .bool false]) w := by
  obtain ⟨i, hi, hz⟩ := Option.map_eq_some_iff.1 zero_h
  simp [Instr.typeAssert, run_underlying Try.underlying89, zeroValue, typeInfo, hi, hz, go_sem]
theorem ta_th (w : World) (v : Value) : (Instr.typeAssert (.iface 93 v) 66 89 true).run Try.prog w = .ok (.tuple #[.agg #[.int .i64 0, .string ⟨#[]⟩], .bool false]) w := by
  obtain ⟨i, hi, hz⟩ := Option.map_eq_some_iff.1 zero_h
  simp [Instr.typeAssert, run_underlying Try.underlying89, zeroValue, typeInfo, hi, hz, go_sem]
theorem ta_aa (w : World) (v : Value) : (Instr.typeAssert (.iface 91 v) 66 91 true).run Try.prog w = .ok (.tuple #[v, .bool true]) w := by
  simp [Instr.typeAssert, run_underlying Try.underlying91, go_sem]
theorem ta_ha (w : World) (v : Value) : (Instr.typeAssert (.iface 89 v) 66 91 true).run Try.prog w = .ok (.tuple #[.agg #[.int .i64 0, .string ⟨#[]⟩, .int .i64 0], .bool false]) w := by
  obtain ⟨i, hi, hz⟩ := Option.map_eq_some_iff.1 zero_a
  simp [Instr.typeAssert, run_underlying Try.underlying91, zeroValue, typeInfo, hi, hz, go_sem]
theorem ta_ta (w : World) (v : Value) : (Instr.typeAssert (.iface 93 v) 66 91 true).run Try.prog w = .ok (.tuple #[.agg #[.int .i64 0, .string ⟨#[]⟩, .int .i64 0], .bool false]) w := by
  obtain ⟨i, hi, hz⟩ := Option.map_eq_some_iff.1 zero_a
  simp [Instr.typeAssert, run_underlying Try.underlying91, zeroValue, typeInfo, hi, hz, go_sem]
theorem ta_tt (w : World) (v : Value) : (Instr.typeAssert (.iface 93 v) 66 93 true).run Try.prog w = .ok (.tuple #[v, .bool true]) w := by
  simp [Instr.typeAssert, run_underlying Try.underlying93, go_sem]
theorem ta_ht (w : World) (v : Value) : (Instr.typeAssert (.iface 89 v) 66 93 true).run Try.prog w = .ok (.tuple #[.agg #[.int .i64 0, .string ⟨#[]⟩, .int .i64 0, .slice none 0 0], .bool false]) w := by
  obtain ⟨i, hi, hz⟩ := Option.map_eq_some_iff.1 zero_t
  simp [Instr.typeAssert, run_underlying Try.underlying93, zeroValue, typeInfo, hi, hz, go_sem]
theorem ta_at (w : World) (v : Value) : (Instr.typeAssert (.iface 91 v) 66 93 true).run Try.prog w = .ok (.tuple #[.agg #[.int .i64 0, .string ⟨#[]⟩, .int .i64 0, .slice none 0 0], .bool false]) w := by
  obtain ⟨i, hi, hz⟩ := Option.map_eq_some_iff.1 zero_t
  simp [Instr.typeAssert, run_underlying Try.underlying93, zeroValue, typeInfo, hi, hz, go_sem]

set_option maxRecDepth 1000000 in
set_option maxHeartbeats 4000000 in
theorem word1 (w : World) (f t : Int) (h : Hd) (ao0 : Option Addr) (cap0 : Nat) :
    Calls Try.prog 40 #[.agg #[.int .i64 1, .int .i64 f, .int .i64 t, .int .i64 h.n, .string h.r, .int .i64 0, .slice ao0 0 cap0]] w fun e w' => e = .returned (.iface 89 (.agg #[.int .i64 h.n, .string h.r])) ∧ Below w.heap.size w w' := by
  have B0 : Hid (Below w.heap.size w w) := Below.refl _ _
  obtain ⟨W1, HW1, b1, y1, hS1, r_a1⟩ : ∃ X, Hid ((w.alloc (.cells #[.int .i64 1, .int .i64 f, .int .i64 t, .int .i64 h.n, .string h.r, .int .i64 0, .slice ao0 0 cap0] 28)) = X) ∧ Below w.heap.size w X ∧ w.heap.size + 1 ≤ X.heap.size ∧ Hid (X.heap.size = w.heap.size + 1) ∧ Hid (X.heap[w.heap.size]? = some (.cells #[.int .i64 1, .int .i64 f, .int .i64 t, .int .i64 h.n, .string h.r, .int .i64 0, .slice ao0 0 cap0] 28 (0, 0))) := ⟨_, rfl, ((Below.refl _ _).alloc (Nat.le_refl _) _), by simp, by show _ = _; simp, (by show _ = _; exact alloc_nth1_0 w _)⟩
  have z1 : w.heap.size ≤ W1.heap.size := b1.size
  have B1 : Hid (Below w.heap.size w W1) := B0.out.trans (b1.mono B0.out.size)
  have c_a1_0 : W1.cell? ⟨w.heap.size, 0, none⟩ = some (.int .i64 1) := row_at r_a1.out 0
  have c_a1_1 : W1.cell? ⟨w.heap.size, 1, none⟩ = some (.int .i64 f) := row_at r_a1.out 1
  have c_a1_2 : W1.cell? ⟨w.heap.size, 2, none⟩ = some (.int .i64 t) := row_at r_a1.out 2
  have c_a1_3 : W1.cell? ⟨w.heap.size, 3, none⟩ = some (.int .i64 h.n) := row_at r_a1.out 3
  have c_a1_4 : W1.cell? ⟨w.heap.size, 4, none⟩ = some (.string h.r) := row_at r_a1.out 4
  have c_a1_5 : W1.cell? ⟨w.heap.size, 5, none⟩ = some (.int .i64 0) := row_at r_a1.out 5
  have c_a1_6 : W1.cell? ⟨w.heap.size, 6, none⟩ = some (.slice ao0 0 cap0) := row_at r_a1.out 6
  go_enter Try.func40, Try.ntmps40
  go_wp2
  go_ret
  exact ⟨rfl, by rw [HW1.out]; exact B1.out⟩

set_option maxRecDepth 1000000 in
set_option maxHeartbeats 4000000 in
theorem word2 (w : World) (f t n : Int) (h : Hd) (ao0 : Option Addr) (cap0 : Nat) :
    Calls Try.prog 40 #[.agg #[.int .i64 2, .int .i64 f, .int .i64 t, .int .i64 h.n, .string h.r, .int .i64 n, .slice ao0 0 cap0]] w fun e w' => e = .returned (.iface 91 (.agg #[.int .i64 h.n, .string h.r, .int .i64 n])) ∧ Below w.heap.size w w' := by
  have B0 : Hid (Below w.heap.size w w) := Below.refl _ _
  obtain ⟨W1, HW1, b1, y1, hS1, r_a1⟩ : ∃ X, Hid ((w.alloc (.cells #[.int .i64 2, .int .i64 f, .int .i64 t, .int .i64 h.n, .string h.r, .int .i64 n, .slice ao0 0 cap0] 28)) = X) ∧ Below w.heap.size w X ∧ w.heap.size + 1 ≤ X.heap.size ∧ Hid (X.heap.size = w.heap.size + 1) ∧ Hid (X.heap[w.heap.size]? = some (.cells #[.int .i64 2, .int .i64 f, .int .i64 t, .int .i64 h.n, .string h.r, .int .i64 n, .slice ao0 0 cap0] 28 (0, 0))) := ⟨_, rfl, ((Below.refl _ _).alloc (Nat.le_refl _) _), by simp, by show _ = _; simp, (by show _ = _; exact alloc_nth1_0 w _)⟩
  have z1 : w.heap.size ≤ W1.heap.size := b1.size
  have B1 : Hid (Below w.heap.size w W1) := B0.out.trans (b1.mono B0.out.size)
  have c_a1_0 : W1.cell? ⟨w.heap.size, 0, none⟩ = some (.int .i64 2) := row_at r_a1.out 0
  have c_a1_1 : W1.cell? ⟨w.heap.size, 1, none⟩ = some (.int .i64 f) := row_at r_a1.out 1
  have c_a1_2 : W1.cell? ⟨w.heap.size, 2, none⟩ = some (.int .i64 t) := row_at r_a1.out 2
  have c_a1_3 : W1.cell? ⟨w.heap.size, 3, none⟩ = some (.int .i64 h.n) := row_at r_a1.out 3
  have c_a1_4 : W1.cell? ⟨w.heap.size, 4, none⟩ = some (.string h.r) := row_at r_a1.out 4
  have c_a1_5 : W1.cell? ⟨w.heap.size, 5, none⟩ = some (.int .i64 n) := row_at r_a1.out 5
  have c_a1_6 : W1.cell? ⟨w.heap.size, 6, none⟩ = some (.slice ao0 0 cap0) := row_at r_a1.out 6
  go_enter Try.func40, Try.ntmps40
  go_wp2
  go_ret
  exact ⟨rfl, by rw [HW1.out]; exact B1.out⟩

set_option maxRecDepth 1000000 in
set_option maxHeartbeats 4000000 in
theorem word3 (w : World) (f t n : Int) (h : Hd) (ao0 : Option Addr) (L cap0 : Nat) :
    Calls Try.prog 40 #[.agg #[.int .i64 3, .int .i64 f, .int .i64 t, .int .i64 h.n, .string h.r, .int .i64 n, .slice ao0 L cap0]] w fun e w' => e = .returned (.iface 93 (.agg #[.int .i64 h.n, .string h.r, .int .i64 n, .slice ao0 L cap0])) ∧ Below w.heap.size w w' := by
  have B0 : Hid (Below w.heap.size w w) := Below.refl _ _
  obtain ⟨W1, HW1, b1, y1, hS1, r_a1⟩ : ∃ X, Hid ((w.alloc (.cells #[.int .i64 3, .int .i64 f, .int .i64 t, .int .i64 h.n, .string h.r, .int .i64 n, .slice ao0 L cap0] 28)) = X) ∧ Below w.heap.size w X ∧ w.heap.size + 1 ≤ X.heap.size ∧ Hid (X.heap.size = w.heap.size + 1) ∧ Hid (X.heap[w.heap.size]? = some (.cells #[.int .i64 3, .int .i64 f, .int .i64 t, .int .i64 h.n, .string h.r, .int .i64 n, .slice ao0 L cap0] 28 (0, 0))) := ⟨_, rfl, ((Below.refl _ _).alloc (Nat.le_refl _) _), by simp, by show _ = _; simp, (by show _ = _; exact alloc_nth1_0 w _)⟩
  have z1 : w.heap.size ≤ W1.heap.size := b1.size
  have B1 : Hid (Below w.heap.size w W1) := B0.out.trans (b1.mono B0.out.size)
  have c_a1_0 : W1.cell? ⟨w.heap.size, 0, none⟩ = some (.int .i64 3) := row_at r_a1.out 0
  have c_a1_1 : W1.cell? ⟨w.heap.size, 1, none⟩ = some (.int .i64 f) := row_at r_a1.out 1
  have c_a1_2 : W1.cell? ⟨w.heap.size, 2, none⟩ = some (.int .i64 t) := row_at r_a1.out 2
  have c_a1_3 : W1.cell? ⟨w.heap.size, 3, none⟩ = some (.int .i64 h.n) := row_at r_a1.out 3
  have c_a1_4 : W1.cell? ⟨w.heap.size, 4, none⟩ = some (.string h.r) := row_at r_a1.out 4
  have c_a1_5 : W1.cell? ⟨w.heap.size, 5, none⟩ = some (.int .i64 n) := row_at r_a1.out 5
  have c_a1_6 : W1.cell? ⟨w.heap.size, 6, none⟩ = some (.slice ao0 L cap0) := row_at r_a1.out 6
  go_enter Try.func40, Try.ntmps40
  go_wp2
  go_ret
  exact ⟨rfl, by rw [HW1.out]; exact B1.out⟩

set_option maxRecDepth 1000000 in
set_option maxHeartbeats 4000000 in
theorem word0 (w : World) (k f t n : Int) (h : Hd) (ao0 : Option Addr) (L cap0 : Nat) (k1 : ¬ (k = 1 ∧ n = 0 ∧ L = 0)) (k2 : ¬ (k = 2 ∧ L = 0)) (k3 : ¬ k = 3) :
    Calls Try.prog 40 #[.agg #[.int .i64 k, .int .i64 f, .int .i64 t, .int .i64 h.n, .string h.r, .int .i64 n, .slice ao0 L cap0]] w fun e w' => e = .returned (.nilIface) ∧ Below w.heap.size w w' := by
  have B0 : Hid (Below w.heap.size w w) := Below.refl _ _
  have b3 : (k == 3) = false := by rw [beq_eq_false_iff_ne]; exact k3
  by_cases e1 : k = 1
  · subst e1
    by_cases e0 : n = 0
    · subst e0
      have lz : ¬ L = 0 := fun q => k1 ⟨rfl, rfl, q⟩
      have l1 : ¬ (L : Int) = 0 := by omega
      have l2 : ((L : Int) == 0) = false := by rw [beq_eq_false_iff_ne]; exact l1
      obtain ⟨W1, HW1, b1, y1, hS1, r_a1⟩ : ∃ X, Hid ((w.alloc (.cells #[.int .i64 1, .int .i64 f, .int .i64 t, .int .i64 h.n, .string h.r, .int .i64 0, .slice ao0 L cap0] 28)) = X) ∧ Below w.heap.size w X ∧ w.heap.size + 1 ≤ X.heap.size ∧ Hid (X.heap.size = w.heap.size + 1) ∧ Hid (X.heap[w.heap.size]? = some (.cells #[.int .i64 1, .int .i64 f, .int .i64 t, .int .i64 h.n, .string h.r, .int .i64 0, .slice ao0 L cap0] 28 (0, 0))) := ⟨_, rfl, ((Below.refl _ _).alloc (Nat.le_refl _) _), by simp, by show _ = _; simp, (by show _ = _; exact alloc_nth1_0 w _)⟩
      have z1 : w.heap.size ≤ W1.heap.size := b1.size
      have B1 : Hid (Below w.heap.size w W1) := B0.out.trans (b1.mono B0.out.size)
      have c_a1_0 : W1.cell? ⟨w.heap.size, 0, none⟩ = some (.int .i64 1) := row_at r_a1.out 0
      have c_a1_1 : W1.cell? ⟨w.heap.size, 1, none⟩ = some (.int .i64 f) := row_at r_a1.out 1
      have c_a1_2 : W1.cell? ⟨w.heap.size, 2, none⟩ = some (.int .i64 t) := row_at r_a1.out 2
      have c_a1_3 : W1.cell? ⟨w.heap.size, 3, none⟩ = some (.int .i64 h.n) := row_at r_a1.out 3
      have c_a1_4 : W1.cell? ⟨w.heap.size, 4, none⟩ = some (.string h.r) := row_at r_a1.out 4
      have c_a1_5 : W1.cell? ⟨w.heap.size, 5, none⟩ = some (.int .i64 0) := row_at r_a1.out 5
      have c_a1_6 : W1.cell? ⟨w.heap.size, 6, none⟩ = some (.slice ao0 L cap0) := row_at r_a1.out 6
      go_enter Try.func40, Try.ntmps40
      go_wp2
      go_ret
      exact ⟨rfl, by rw [HW1.out]; exact B1.out⟩
    · have nb : (n == 0) = false := by rw [beq_eq_false_iff_ne]; exact e0
      obtain ⟨W1, HW1, b1, y1, hS1, r_a1⟩ : ∃ X, Hid ((w.alloc (.cells #[.int .i64 1, .int .i64 f, .int .i64 t, .int .i64 h.n, .string h.r, .int .i64 n, .slice ao0 L cap0] 28)) = X) ∧ Below w.heap.size w X ∧ w.heap.size + 1 ≤ X.heap.size ∧ Hid (X.heap.size = w.heap.size + 1) ∧ Hid (X.heap[w.heap.size]? = some (.cells #[.int .i64 1, .int .i64 f, .int .i64 t, .int .i64 h.n, .string h.r, .int .i64 n, .slice ao0 L cap0] 28 (0, 0))) := ⟨_, rfl, ((Below.refl _ _).alloc (Nat.le_refl _) _), by simp, by show _ = _; simp, (by show _ = _; exact alloc_nth1_0 w _)⟩
      have z1 : w.heap.size ≤ W1.heap.size := b1.size
      have B1 : Hid (Below w.heap.size w W1) := B0.out.trans (b1.mono B0.out.size)
      have c_a1_0 : W1.cell? ⟨w.heap.size, 0, none⟩ = some (.int .i64 1) := row_at r_a1.out 0
      have c_a1_1 : W1.cell? ⟨w.heap.size, 1, none⟩ = some (.int .i64 f) := row_at r_a1.out 1
      have c_a1_2 : W1.cell? ⟨w.heap.size, 2, none⟩ = some (.int .i64 t) := row_at r_a1.out 2
      have c_a1_3 : W1.cell? ⟨w.heap.size, 3, none⟩ = some (.int .i64 h.n) := row_at r_a1.out 3
      have c_a1_4 : W1.cell? ⟨w.heap.size, 4, none⟩ = some (.string h.r) := row_at r_a1.out 4
      have c_a1_5 : W1.cell? ⟨w.heap.size, 5, none⟩ = some (.int .i64 n) := row_at r_a1.out 5
      have c_a1_6 : W1.cell? ⟨w.heap.size, 6, none⟩ = some (.slice ao0 L cap0) := row_at r_a1.out 6
      go_enter Try.func40, Try.ntmps40
      go_wp2
      go_ret
      exact ⟨rfl, by rw [HW1.out]; exact B1.out⟩
  · have b1 : (k == 1) = false := by rw [beq_eq_false_iff_ne]; exact e1
    by_cases e2 : k = 2
    · subst e2
      have lz : ¬ L = 0 := fun q => k2 ⟨rfl, q⟩
      have l1 : ¬ (L : Int) = 0 := by omega
      have l2 : ((L : Int) == 0) = false := by rw [beq_eq_false_iff_ne]; exact l1
      obtain ⟨W1, HW1, b1, y1, hS1, r_a1⟩ : ∃ X, Hid ((w.alloc (.cells #[.int .i64 2, .int .i64 f, .int .i64 t, .int .i64 h.n, .string h.r, .int .i64 n, .slice ao0 L cap0] 28)) = X) ∧ Below w.heap.size w X ∧ w.heap.size + 1 ≤ X.heap.size ∧ Hid (X.heap.size = w.heap.size + 1) ∧ Hid (X.heap[w.heap.size]? = some (.cells #[.int .i64 2, .int .i64 f, .int .i64 t, .int .i64 h.n, .string h.r, .int .i64 n, .slice ao0 L cap0] 28 (0, 0))) := ⟨_, rfl, ((Below.refl _ _).alloc (Nat.le_refl _) _), by simp, by show _ = _; simp, (by show _ = _; exact alloc_nth1_0 w _)⟩
      have z1 : w.heap.size ≤ W1.heap.size := b1.size
      have B1 : Hid (Below w.heap.size w W1) := B0.out.trans (b1.mono B0.out.size)
      have c_a1_0 : W1.cell? ⟨w.heap.size, 0, none⟩ = some (.int .i64 2) := row_at r_a1.out 0
      have c_a1_1 : W1.cell? ⟨w.heap.size, 1, none⟩ = some (.int .i64 f) := row_at r_a1.out 1
      have c_a1_2 : W1.cell? ⟨w.heap.size, 2, none⟩ = some (.int .i64 t) := row_at r_a1.out 2
      have c_a1_3 : W1.cell? ⟨w.heap.size, 3, none⟩ = some (.int .i64 h.n) := row_at r_a1.out 3
      have c_a1_4 : W1.cell? ⟨w.heap.size, 4, none⟩ = some (.string h.r) := row_at r_a1.out 4
      have c_a1_5 : W1.cell? ⟨w.heap.size, 5, none⟩ = some (.int .i64 n) := row_at r_a1.out 5
      have c_a1_6 : W1.cell? ⟨w.heap.size, 6, none⟩ = some (.slice ao0 L cap0) := row_at r_a1.out 6
      go_enter Try.func40, Try.ntmps40
      go_wp2
      go_ret
      exact ⟨rfl, by rw [HW1.out]; exact B1.out⟩
    · have b2 : (k == 2) = false := by rw [beq_eq_false_iff_ne]; exact e2
      obtain ⟨W1, HW1, b1, y1, hS1, r_a1⟩ : ∃ X, Hid ((w.alloc (.cells #[.int .i64 k, .int .i64 f, .int .i64 t, .int .i64 h.n, .string h.r, .int .i64 n, .slice ao0 L cap0] 28)) = X) ∧ Below w.heap.size w X ∧ w.heap.size + 1 ≤ X.heap.size ∧ Hid (X.heap.size = w.heap.size + 1) ∧ Hid (X.heap[w.heap.size]? = some (.cells #[.int .i64 k, .int .i64 f, .int .i64 t, .int .i64 h.n, .string h.r, .int .i64 n, .slice ao0 L cap0] 28 (0, 0))) := ⟨_, rfl, ((Below.refl _ _).alloc (Nat.le_refl _) _), by simp, by show _ = _; simp, (by show _ = _; exact alloc_nth1_0 w _)⟩
      have z1 : w.heap.size ≤ W1.heap.size := b1.size
      have B1 : Hid (Below w.heap.size w W1) := B0.out.trans (b1.mono B0.out.size)
      have c_a1_0 : W1.cell? ⟨w.heap.size, 0, none⟩ = some (.int .i64 k) := row_at r_a1.out 0
      have c_a1_1 : W1.cell? ⟨w.heap.size, 1, none⟩ = some (.int .i64 f) := row_at r_a1.out 1
      have c_a1_2 : W1.cell? ⟨w.heap.size, 2, none⟩ = some (.int .i64 t) := row_at r_a1.out 2
      have c_a1_3 : W1.cell? ⟨w.heap.size, 3, none⟩ = some (.int .i64 h.n) := row_at r_a1.out 3
      have c_a1_4 : W1.cell? ⟨w.heap.size, 4, none⟩ = some (.string h.r) := row_at r_a1.out 4
      have c_a1_5 : W1.cell? ⟨w.heap.size, 5, none⟩ = some (.int .i64 n) := row_at r_a1.out 5
      have c_a1_6 : W1.cell? ⟨w.heap.size, 6, none⟩ = some (.slice ao0 L cap0) := row_at r_a1.out 6
      go_enter Try.func40, Try.ntmps40
      go_wp2
      go_ret
      exact ⟨rfl, by rw [HW1.out]; exact B1.out⟩

set_option maxRecDepth 1000000 in
set_option maxHeartbeats 4000000 in
theorem mirror_impl (w : World) (n : Int) : Calls Try.prog 41 #[.int .i64 n] w fun e w' => e = .returned (.bool (decide (0 ≤ n ∧ n ≤ 20))) ∧ w = w' := by
  by_cases h0 : 0 ≤ n
  · by_cases h1 : n ≤ 20
    · rw [decide_eq_true (show 0 ≤ n ∧ n ≤ 20 from ⟨h0, h1⟩)]
      have d0 : decide (0 ≤ n) = true := decide_eq_true h0
      have d1 : decide (n ≤ 20) = true := decide_eq_true h1
      go_enter Try.func41, Try.ntmps41
      go_wp2
      go_ret
      exact ⟨rfl, rfl⟩
    · rw [decide_eq_false (show ¬ (0 ≤ n ∧ n ≤ 20) from fun q => h1 q.2)]
      have d0 : decide (0 ≤ n) = true := decide_eq_true h0
      have d1 : decide (n ≤ 20) = false := decide_eq_false h1
      go_enter Try.func41, Try.ntmps41
      go_wp2
      go_ret
      exact ⟨rfl, rfl⟩
  · rw [decide_eq_false (show ¬ (0 ≤ n ∧ n ≤ 20) from fun q => h0 q.1)]
    have d0 : decide (0 ≤ n) = false := decide_eq_false h0
    go_enter Try.func41, Try.ntmps41
    go_wp2
    go_ret
    exact ⟨rfl, rfl⟩

set_option maxRecDepth 1000000 in
set_option maxHeartbeats 4000000 in
theorem place_impl (w : World) (h : Hd) (n : Int) : Calls Try.prog 66 #[.agg #[.int .i64 h.n, .string h.r], .int .i64 n] w fun e w' => e = .returned (.bool (decide (0 ≤ n ∧ n < h.n))) ∧ Below w.heap.size w w' := by
  have HB : Hid (Below w.heap.size w (w.alloc (.cells #[.int .i64 h.n, .string h.r] 25))) := (Below.refl _ _).alloc (Nat.le_refl _) _
  by_cases h0 : 0 ≤ n
  · have d0 : decide (0 ≤ n) = true := decide_eq_true h0
    by_cases h1 : n < h.n
    · have HN : Hid (decide (0 ≤ n ∧ n < h.n) = true) := decide_eq_true ⟨h0, h1⟩
      have d1 : decide (n < h.n) = true := decide_eq_true h1
      rw [HN.out]
      go_enter Try.func66, Try.ntmps66
      go_wp2
      go_ret
      exact ⟨rfl, HB.out⟩
    · have HN : Hid (decide (0 ≤ n ∧ n < h.n) = false) := decide_eq_false (fun q => h1 q.2)
      have d1 : decide (n < h.n) = false := decide_eq_false h1
      rw [HN.out]
      go_enter Try.func66, Try.ntmps66
      go_wp2
      go_ret
      exact ⟨rfl, HB.out⟩
  · have d0 : decide (0 ≤ n) = false := decide_eq_false h0
    have HN : Hid (decide (0 ≤ n ∧ n < h.n) = false) := decide_eq_false (fun q => h0 q.1)
    rw [HN.out]
    go_enter Try.func66, Try.ntmps66
    go_wp2
    go_ret
    exact ⟨rfl, HB.out⟩

theorem method_h (v : Value) (w : World) : (Go.method 224 89 v "loop.example/g00233/impl.upTo").run Try.prog w = .ok (95, v) w := by kernel_rfl

set_option maxRecDepth 1000000 in
set_option maxHeartbeats 4000000 in
theorem upto_h (w : World) (h : Hd) : Calls Try.prog 95 #[.agg #[.int .i64 h.n, .string h.r]] w fun e w' => e = .returned (.agg #[.int .i64 h.n, .string h.r]) ∧ Below w.heap.size w w' := by
  have B0 : Hid (Below w.heap.size w w) := Below.refl _ _
  obtain ⟨W1, HW1, b1, y1, hS1, r_a1, r_res1⟩ : ∃ X, Hid (((w.alloc (.cells #[.int .i64 h.n, .string h.r] 89)).alloc (.cells #[.int .i64 0, .string ⟨#[]⟩] 25)) = X) ∧ Below w.heap.size w X ∧ w.heap.size + 2 ≤ X.heap.size ∧ Hid (X.heap.size = w.heap.size + 1 + 1) ∧ Hid (X.heap[w.heap.size]? = some (.cells #[.int .i64 h.n, .string h.r] 89 (0, 0))) ∧ Hid (X.heap[w.heap.size + 1]? = some (.cells #[.int .i64 0, .string ⟨#[]⟩] 25 (0, 0))) := ⟨_, rfl, (((Below.refl _ _).alloc (Nat.le_refl _) _).alloc (by simp) _), by simp, by show _ = _; simp, (by show _ = _; exact alloc_nth2_0 w _ _), (by show _ = _; exact alloc_nth2_1 w _ _)⟩
  have z1 : w.heap.size ≤ W1.heap.size := b1.size
  have B1 : Hid (Below w.heap.size w W1) := B0.out.trans (b1.mono B0.out.size)
  have c_a1_0 : W1.cell? ⟨w.heap.size, 0, none⟩ = some (.int .i64 h.n) := row_at r_a1.out 0
  have c_a1_1 : W1.cell? ⟨w.heap.size, 1, none⟩ = some (.string h.r) := row_at r_a1.out 1
  have c_res1_0 : W1.cell? ⟨w.heap.size + 1, 0, none⟩ = some (.int .i64 0) := row_at r_res1.out 0
  have c_res1_1 : W1.cell? ⟨w.heap.size + 1, 1, none⟩ = some (.string ⟨#[]⟩) := row_at r_res1.out 1
  go_enter Try.func95, Try.ntmps95
  go_wp2_with ((try rw [HW1.out]); refine wpList_store_row rfl 25 _ _ rfl (w.heap.size + 1) (hc h) rfl rfl 25 _ r_res1.out (sizeH h) rfl (oneH h) ?_)
  exact bodyPost_ret (v := .agg (hc h)) (results_cell_row rfl _ _ (w.heap.size + 1) 25 _ (0, 0) _ rfl (setRow_heap _ _ _ _ _ (0, 0) r_res1.out) Try.underlying25 rfl (sizeH h)) rfl ⟨rfl, below_setRow B1.out (by omega) _⟩

theorem method_a (v : Value) (w : World) : (Go.method 224 91 v "loop.example/g00233/impl.upTo").run Try.prog w = .ok (96, v) w := by kernel_rfl

set_option maxRecDepth 1000000 in
set_option maxHeartbeats 4000000 in
theorem upto_a (w : World) (h : Hd) (n : Int) : Calls Try.prog 96 #[.agg #[.int .i64 h.n, .string h.r, .int .i64 n]] w fun e w' => e = .returned (.agg #[.int .i64 h.n, .string h.r]) ∧ Below w.heap.size w w' := by
  have B0 : Hid (Below w.heap.size w w) := Below.refl _ _
  obtain ⟨W1, HW1, b1, y1, hS1, r_a1, r_res1⟩ : ∃ X, Hid (((w.alloc (.cells #[.int .i64 h.n, .string h.r, .int .i64 n] 91)).alloc (.cells #[.int .i64 0, .string ⟨#[]⟩] 25)) = X) ∧ Below w.heap.size w X ∧ w.heap.size + 2 ≤ X.heap.size ∧ Hid (X.heap.size = w.heap.size + 1 + 1) ∧ Hid (X.heap[w.heap.size]? = some (.cells #[.int .i64 h.n, .string h.r, .int .i64 n] 91 (0, 0))) ∧ Hid (X.heap[w.heap.size + 1]? = some (.cells #[.int .i64 0, .string ⟨#[]⟩] 25 (0, 0))) := ⟨_, rfl, (((Below.refl _ _).alloc (Nat.le_refl _) _).alloc (by simp) _), by simp, by show _ = _; simp, (by show _ = _; exact alloc_nth2_0 w _ _), (by show _ = _; exact alloc_nth2_1 w _ _)⟩
  have z1 : w.heap.size ≤ W1.heap.size := b1.size
  have B1 : Hid (Below w.heap.size w W1) := B0.out.trans (b1.mono B0.out.size)
  have c_a1_0 : W1.cell? ⟨w.heap.size, 0, none⟩ = some (.int .i64 h.n) := row_at r_a1.out 0
  have c_a1_1 : W1.cell? ⟨w.heap.size, 1, none⟩ = some (.string h.r) := row_at r_a1.out 1
  have c_a1_2 : W1.cell? ⟨w.heap.size, 2, none⟩ = some (.int .i64 n) := row_at r_a1.out 2
  have c_res1_0 : W1.cell? ⟨w.heap.size + 1, 0, none⟩ = some (.int .i64 0) := row_at r_res1.out 0
  have c_res1_1 : W1.cell? ⟨w.heap.size + 1, 1, none⟩ = some (.string ⟨#[]⟩) := row_at r_res1.out 1
  go_enter Try.func96, Try.ntmps96
  go_wp2_with ((try rw [HW1.out]); refine wpList_store_row rfl 25 _ _ rfl (w.heap.size + 1) (hc h) rfl rfl 25 _ r_res1.out (sizeH h) rfl (oneH h) ?_)
  exact bodyPost_ret (v := .agg (hc h)) (results_cell_row rfl _ _ (w.heap.size + 1) 25 _ (0, 0) _ rfl (setRow_heap _ _ _ _ _ (0, 0) r_res1.out) Try.underlying25 rfl (sizeH h)) rfl ⟨rfl, below_setRow B1.out (by omega) _⟩

theorem method_t (v : Value) (w : World) : (Go.method 224 93 v "loop.example/g00233/impl.upTo").run Try.prog w = .ok (97, v) w := by kernel_rfl

set_option maxRecDepth 1000000 in
set_option maxHeartbeats 4000000 in
theorem upto_t (w : World) (h : Hd) (n : Int) (ao0 : Option Addr) (L cap0 : Nat) : Calls Try.prog 97 #[.agg #[.int .i64 h.n, .string h.r, .int .i64 n, .slice ao0 L cap0]] w fun e w' => e = .returned (.agg #[.int .i64 h.n, .string h.r]) ∧ Below w.heap.size w w' := by
  have B0 : Hid (Below w.heap.size w w) := Below.refl _ _
  obtain ⟨W1, HW1, b1, y1, hS1, r_a1, r_res1⟩ : ∃ X, Hid (((w.alloc (.cells #[.int .i64 h.n, .string h.r, .int .i64 n, .slice ao0 L cap0] 93)).alloc (.cells #[.int .i64 0, .string ⟨#[]⟩] 25)) = X) ∧ Below w.heap.size w X ∧ w.heap.size + 2 ≤ X.heap.size ∧ Hid (X.heap.size = w.heap.size + 1 + 1) ∧ Hid (X.heap[w.heap.size]? = some (.cells #[.int .i64 h.n, .string h.r, .int .i64 n, .slice ao0 L cap0] 93 (0, 0))) ∧ Hid (X.heap[w.heap.size + 1]? = some (.cells #[.int .i64 0, .string ⟨#[]⟩] 25 (0, 0))) := ⟨_, rfl, (((Below.refl _ _).alloc (Nat.le_refl _) _).alloc (by simp) _), by simp, by show _ = _; simp, (by show _ = _; exact alloc_nth2_0 w _ _), (by show _ = _; exact alloc_nth2_1 w _ _)⟩
  have z1 : w.heap.size ≤ W1.heap.size := b1.size
  have B1 : Hid (Below w.heap.size w W1) := B0.out.trans (b1.mono B0.out.size)
  have c_a1_0 : W1.cell? ⟨w.heap.size, 0, none⟩ = some (.int .i64 h.n) := row_at r_a1.out 0
  have c_a1_1 : W1.cell? ⟨w.heap.size, 1, none⟩ = some (.string h.r) := row_at r_a1.out 1
  have c_a1_2 : W1.cell? ⟨w.heap.size, 2, none⟩ = some (.int .i64 n) := row_at r_a1.out 2
  have c_a1_3 : W1.cell? ⟨w.heap.size, 3, none⟩ = some (.slice ao0 L cap0) := row_at r_a1.out 3
  have c_res1_0 : W1.cell? ⟨w.heap.size + 1, 0, none⟩ = some (.int .i64 0) := row_at r_res1.out 0
  have c_res1_1 : W1.cell? ⟨w.heap.size + 1, 1, none⟩ = some (.string ⟨#[]⟩) := row_at r_res1.out 1
  go_enter Try.func97, Try.ntmps97
  go_wp2_with ((try rw [HW1.out]); refine wpList_store_row rfl 25 _ _ rfl (w.heap.size + 1) (hc h) rfl rfl 25 _ r_res1.out (sizeH h) rfl (oneH h) ?_)
  exact bodyPost_ret (v := .agg (hc h)) (results_cell_row rfl _ _ (w.heap.size + 1) 25 _ (0, 0) _ rfl (setRow_heap _ _ _ _ _ (0, 0) r_res1.out) Try.underlying25 rfl (sizeH h)) rfl ⟨rfl, below_setRow B1.out (by omega) _⟩

end Go.Proofs.Yteemblfjghnooaa.Wd
