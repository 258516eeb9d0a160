/- Texts in one: Cln, HfA, WdA, WdB, Puts2, Puts3. -/
import Derived.Test.YteemblfjghnooaaTr4
import Derived.Test.YteemblfjghnooaaHe3
import Derived.Test.YteemblfjghnooaaMg2
import Derived.Test.YteemblfjghnooaaPuts
import Derived.Test.YteemblfjghnooaaGro
import Derived.WalkKit
import Derived.Lib.Strings
import Derived.Lib.Walk
import Derived.Lib.BufferWrite
import Derived.Lib.UnsafeStr
import Derived.Lib.Hide
import Derived.Laws.MakeOwn
/- The library's strings.Clone: a copy of a text. -/
namespace Go.Proofs.Yteemblfjghnooaa.Cln
open Go.RowKit Go.Proofs.Yteemblfjghnooaa.Mem Go.Proofs.Yteemblfjghnooaa.Laws Go.Proofs.Yteemblfjghnooaa.Bytes Go.Proofs.Yteemblfjghnooaa.Sha
set_option linter.unusedVariables false
set_option linter.unusedSimpArgs false

end Go.Proofs.Yteemblfjghnooaa.Cln

/- Chapter 10, the landed code: whether a head is right; how two heads stand to each other; a copy of a head. -/
namespace Go.Proofs.Yteemblfjghnooaa.He
open Go.RowKit Go.Proofs.Yteemblfjghnooaa.Mem Go.Proofs.Yteemblfjghnooaa.Laws Go.Proofs.Yteemblfjghnooaa.Bytes Go.Proofs.Yteemblfjghnooaa.Sha Go.Proofs.Yteemblfjghnooaa.Tr
set_option linter.unusedVariables false
set_option linter.unusedSimpArgs false

set_option maxRecDepth 1000000 in
set_option maxHeartbeats 1000000 in
theorem ok_impl (w : World) (h : Hd) (hz : h.r.size ≤ 1000000000000) : Calls Try.prog 65 #[.agg #[.int .i64 h.n, .string h.r]] w fun e w' => e = .returned (.bool (okH h)) ∧ Below w.heap.size w w' := by
  have HB : Hid (Below w.heap.size w (w.alloc (.cells #[.int .i64 h.n, .string h.r] 25))) := (Below.refl _ _).alloc (Nat.le_refl _) _
  by_cases h0 : 0 ≤ h.n
  · by_cases h2 : h.n ≤ 200
    · obtain ⟨t, ht⟩ : ∃ t, ((h.r.size : Int) == 32) = t := ⟨_, rfl⟩
      have HN : Hid (okH h = t) := by
        show _ = _
        rw [← ht]
        unfold okH
        by_cases h32 : h.r.size = 32
        · rw [decide_eq_true ⟨⟨h0, h2⟩, h32⟩, h32]; rfl
        · rw [decide_eq_false (fun c => h32 c.2)]
          exact (beq_eq_false_iff_ne.2 (by omega)).symm
      go_enter Try.func65, Try.ntmps65
      go_wp2
      go_ret
      exact ⟨by rw [HN.out]; rfl, HB.out⟩
    · have HN : Hid (okH h = false) := by show _ = _; unfold okH; rw [decide_eq_false (fun c => h2 c.1.2)]
      go_enter Try.func65, Try.ntmps65
      go_wp2
      go_ret
      exact ⟨by rw [HN.out]; rfl, HB.out⟩
  · have HN : Hid (okH h = false) := by show _ = _; unfold okH; rw [decide_eq_false (fun c => h0 c.1.1)]
    go_enter Try.func65, Try.ntmps65
    go_wp2
    go_ret
    exact ⟨by rw [HN.out]; rfl, HB.out⟩

/-- how two heads stand to each other: 1 the same, 2 of one size, 0 else -/
def pk (a b : Hd) : Int := if eqH a b = true then 1 else if a.n = b.n then 2 else 0

end Go.Proofs.Yteemblfjghnooaa.He

/- Chapter 13, the landed code: a word as one of three types; whether it is right. -/
namespace Go.Proofs.Yteemblfjghnooaa.Wd
open Go.Proofs.Yteemblfjghnooaa.Mg
open Go.RowKit Go.Proofs.Yteemblfjghnooaa.Mem Go.Proofs.Yteemblfjghnooaa.Laws Go.Proofs.Yteemblfjghnooaa.Bytes Go.Proofs.Yteemblfjghnooaa.Sha Go.Proofs.Yteemblfjghnooaa.Tr Go.Proofs.Yteemblfjghnooaa.He
set_option linter.unusedVariables false
set_option linter.unusedSimpArgs false

theorem zero_h : (Try.prog.info? 89).map (·.zero) = some (some (.agg #[.int .i64 0, .string ⟨#[]⟩])) := by kernel_rfl
theorem zero_a : (Try.prog.info? 91).map (·.zero) = some (some (.agg #[.int .i64 0, .string ⟨#[]⟩, .int .i64 0])) := by kernel_rfl
theorem zero_t : (Try.prog.info? 93).map (·.zero) = some (some (.agg #[.int .i64 0, .string ⟨#[]⟩, .int .i64 0, .slice none 0 0])) := by kernel_rfl
theorem ta_hh (w : World) (v : Value) : (Instr.typeAssert (.iface 89 v) 66 89 true).run Try.prog w = .ok (.tuple #[v, .bool true]) w := by
  simp [Instr.typeAssert, run_underlying Try.underlying89, go_sem]
theorem ta_ah (w : World) (v : Value) : (Instr.typeAssert (.iface 91 v) 66 89 true).run Try.prog w = .ok (.tuple #[.agg #[.int .i64 0, .string ⟨#[]⟩], .bool false]) w := by
  obtain ⟨i, hi, hz⟩ := Option.map_eq_some_iff.1 zero_h
  simp [Instr.typeAssert, run_underlying Try.underlying89, zeroValue, typeInfo, hi, hz, go_sem]
theorem ta_th (w : World) (v : Value) : (Instr.typeAssert (.iface 93 v) 66 89 true).run Try.prog w = .ok (.tuple #[.agg #[.int .i64 0, .string ⟨#[]⟩], .bool false]) w := by
  obtain ⟨i, hi, hz⟩ := Option.map_eq_some_iff.1 zero_h
  simp [Instr.typeAssert, run_underlying Try.underlying89, zeroValue, typeInfo, hi, hz, go_sem]
theorem ta_aa (w : World) (v : Value) : (Instr.typeAssert (.iface 91 v) 66 91 true).run Try.prog w = .ok (.tuple #[v, .bool true]) w := by
  simp [Instr.typeAssert, run_underlying Try.underlying91, go_sem]
theorem ta_ha (w : World) (v : Value) : (Instr.typeAssert (.iface 89 v) 66 91 true).run Try.prog w = .ok (.tuple #[.agg #[.int .i64 0, .string ⟨#[]⟩, .int .i64 0], .bool false]) w := by
  obtain ⟨i, hi, hz⟩ := Option.map_eq_some_iff.1 zero_a
  simp [Instr.typeAssert, run_underlying Try.underlying91, zeroValue, typeInfo, hi, hz, go_sem]
theorem ta_ta (w : World) (v : Value) : (Instr.typeAssert (.iface 93 v) 66 91 true).run Try.prog w = .ok (.tuple #[.agg #[.int .i64 0, .string ⟨#[]⟩, .int .i64 0], .bool false]) w := by
  obtain ⟨i, hi, hz⟩ := Option.map_eq_some_iff.1 zero_a
  simp [Instr.typeAssert, run_underlying Try.underlying91, zeroValue, typeInfo, hi, hz, go_sem]
theorem ta_tt (w : World) (v : Value) : (Instr.typeAssert (.iface 93 v) 66 93 true).run Try.prog w = .ok (.tuple #[v, .bool true]) w := by
  simp [Instr.typeAssert, run_underlying Try.underlying93, go_sem]
theorem ta_ht (w : World) (v : Value) : (Instr.typeAssert (.iface 89 v) 66 93 true).run Try.prog w = .ok (.tuple #[.agg #[.int .i64 0, .string ⟨#[]⟩, .int .i64 0, .slice none 0 0], .bool false]) w := by
  obtain ⟨i, hi, hz⟩ := Option.map_eq_some_iff.1 zero_t
  simp [Instr.typeAssert, run_underlying Try.underlying93, zeroValue, typeInfo, hi, hz, go_sem]
theorem ta_at (w : World) (v : Value) : (Instr.typeAssert (.iface 91 v) 66 93 true).run Try.prog w = .ok (.tuple #[.agg #[.int .i64 0, .string ⟨#[]⟩, .int .i64 0, .slice none 0 0], .bool false]) w := by
  obtain ⟨i, hi, hz⟩ := Option.map_eq_some_iff.1 zero_t
  simp [Instr.typeAssert, run_underlying Try.underlying93, zeroValue, typeInfo, hi, hz, go_sem]

set_option maxRecDepth 1000000 in
set_option maxHeartbeats 4000000 in
theorem word1 (w : World) (f t : Int) (h : Hd) (ao0 : Option Addr) (cap0 : Nat) :
    Calls Try.prog 40 #[.agg #[.int .i64 1, .int .i64 f, .int .i64 t, .int .i64 h.n, .string h.r, .int .i64 0, .slice ao0 0 cap0]] w fun e w' => e = .returned (.iface 89 (.agg #[.int .i64 h.n, .string h.r])) ∧ Below w.heap.size w w' := by
  have B0 : Hid (Below w.heap.size w w) := Below.refl _ _
  obtain ⟨W1, HW1, b1, y1, hS1, r_a1⟩ : ∃ X, Hid ((w.alloc (.cells #[.int .i64 1, .int .i64 f, .int .i64 t, .int .i64 h.n, .string h.r, .int .i64 0, .slice ao0 0 cap0] 28)) = X) ∧ Below w.heap.size w X ∧ w.heap.size + 1 ≤ X.heap.size ∧ Hid (X.heap.size = w.heap.size + 1) ∧ Hid (X.heap[w.heap.size]? = some (.cells #[.int .i64 1, .int .i64 f, .int .i64 t, .int .i64 h.n, .string h.r, .int .i64 0, .slice ao0 0 cap0] 28 (0, 0))) := ⟨_, rfl, ((Below.refl _ _).alloc (Nat.le_refl _) _), by simp, by show _ = _; simp, (by show _ = _; exact alloc_nth1_0 w _)⟩
  have z1 : w.heap.size ≤ W1.heap.size := b1.size
  have B1 : Hid (Below w.heap.size w W1) := B0.out.trans (b1.mono B0.out.size)
  have c_a1_0 : W1.cell? ⟨w.heap.size, 0, none⟩ = some (.int .i64 1) := row_at r_a1.out 0
  have c_a1_1 : W1.cell? ⟨w.heap.size, 1, none⟩ = some (.int .i64 f) := row_at r_a1.out 1
  have c_a1_2 : W1.cell? ⟨w.heap.size, 2, none⟩ = some (.int .i64 t) := row_at r_a1.out 2
  have c_a1_3 : W1.cell? ⟨w.heap.size, 3, none⟩ = some (.int .i64 h.n) := row_at r_a1.out 3
  have c_a1_4 : W1.cell? ⟨w.heap.size, 4, none⟩ = some (.string h.r) := row_at r_a1.out 4
  have c_a1_5 : W1.cell? ⟨w.heap.size, 5, none⟩ = some (.int .i64 0) := row_at r_a1.out 5
  have c_a1_6 : W1.cell? ⟨w.heap.size, 6, none⟩ = some (.slice ao0 0 cap0) := row_at r_a1.out 6
  go_enter Try.func40, Try.ntmps40
  go_wp2
  go_ret
  exact ⟨rfl, by rw [HW1.out]; exact B1.out⟩

set_option maxRecDepth 1000000 in
set_option maxHeartbeats 4000000 in
theorem word2 (w : World) (f t n : Int) (h : Hd) (ao0 : Option Addr) (cap0 : Nat) :
    Calls Try.prog 40 #[.agg #[.int .i64 2, .int .i64 f, .int .i64 t, .int .i64 h.n, .string h.r, .int .i64 n, .slice ao0 0 cap0]] w fun e w' => e = .returned (.iface 91 (.agg #[.int .i64 h.n, .string h.r, .int .i64 n])) ∧ Below w.heap.size w w' := by
  have B0 : Hid (Below w.heap.size w w) := Below.refl _ _
  obtain ⟨W1, HW1, b1, y1, hS1, r_a1⟩ : ∃ X, Hid ((w.alloc (.cells #[.int .i64 2, .int .i64 f, .int .i64 t, .int .i64 h.n, .string h.r, .int .i64 n, .slice ao0 0 cap0] 28)) = X) ∧ Below w.heap.size w X ∧ w.heap.size + 1 ≤ X.heap.size ∧ Hid (X.heap.size = w.heap.size + 1) ∧ Hid (X.heap[w.heap.size]? = some (.cells #[.int .i64 2, .int .i64 f, .int .i64 t, .int .i64 h.n, .string h.r, .int .i64 n, .slice ao0 0 cap0] 28 (0, 0))) := ⟨_, rfl, ((Below.refl _ _).alloc (Nat.le_refl _) _), by simp, by show _ = _; simp, (by show _ = _; exact alloc_nth1_0 w _)⟩
  have z1 : w.heap.size ≤ W1.heap.size := b1.size
  have B1 : Hid (Below w.heap.size w W1) := B0.out.trans (b1.mono B0.out.size)
  have c_a1_0 : W1.cell? ⟨w.heap.size, 0, none⟩ = some (.int .i64 2) := row_at r_a1.out 0
  have c_a1_1 : W1.cell? ⟨w.heap.size, 1, none⟩ = some (.int .i64 f) := row_at r_a1.out 1
  have c_a1_2 : W1.cell? ⟨w.heap.size, 2, none⟩ = some (.int .i64 t) := row_at r_a1.out 2
  have c_a1_3 : W1.cell? ⟨w.heap.size, 3, none⟩ = some (.int .i64 h.n) := row_at r_a1.out 3
  have c_a1_4 : W1.cell? ⟨w.heap.size, 4, none⟩ = some (.string h.r) := row_at r_a1.out 4
  have c_a1_5 : W1.cell? ⟨w.heap.size, 5, none⟩ = some (.int .i64 n) := row_at r_a1.out 5
  have c_a1_6 : W1.cell? ⟨w.heap.size, 6, none⟩ = some (.slice ao0 0 cap0) := row_at r_a1.out 6
  go_enter Try.func40, Try.ntmps40
  go_wp2
  go_ret
  exact ⟨rfl, by rw [HW1.out]; exact B1.out⟩

set_option maxRecDepth 1000000 in
set_option maxHeartbeats 4000000 in
theorem word3 (w : World) (f t n : Int) (h : Hd) (ao0 : Option Addr) (L cap0 : Nat) :
    Calls Try.prog 40 #[.agg #[.int .i64 3, .int .i64 f, .int .i64 t, .int .i64 h.n, .string h.r, .int .i64 n, .slice ao0 L cap0]] w fun e w' => e = .returned (.iface 93 (.agg #[.int .i64 h.n, .string h.r, .int .i64 n, .slice ao0 L cap0])) ∧ Below w.heap.size w w' := by
  have B0 : Hid (Below w.heap.size w w) := Below.refl _ _
  obtain ⟨W1, HW1, b1, y1, hS1, r_a1⟩ : ∃ X, Hid ((w.alloc (.cells #[.int .i64 3, .int .i64 f, .int .i64 t, .int .i64 h.n, .string h.r, .int .i64 n, .slice ao0 L cap0] 28)) = X) ∧ Below w.heap.size w X ∧ w.heap.size + 1 ≤ X.heap.size ∧ Hid (X.heap.size = w.heap.size + 1) ∧ Hid (X.heap[w.heap.size]? = some (.cells #[.int .i64 3, .int .i64 f, .int .i64 t, .int .i64 h.n, .string h.r, .int .i64 n, .slice ao0 L cap0] 28 (0, 0))) := ⟨_, rfl, ((Below.refl _ _).alloc (Nat.le_refl _) _), by simp, by show _ = _; simp, (by show _ = _; exact alloc_nth1_0 w _)⟩
  have z1 : w.heap.size ≤ W1.heap.size := b1.size
  have B1 : Hid (Below w.heap.size w W1) := B0.out.trans (b1.mono B0.out.size)
  have c_a1_0 : W1.cell? ⟨w.heap.size, 0, none⟩ = some (.int .i64 3) := row_at r_a1.out 0
  have c_a1_1 : W1.cell? ⟨w.heap.size, 1, none⟩ = some (.int .i64 f) := row_at r_a1.out 1
  have c_a1_2 : W1.cell? ⟨w.heap.size, 2, none⟩ = some (.int .i64 t) := row_at r_a1.out 2
  have c_a1_3 : W1.cell? ⟨w.heap.size, 3, none⟩ = some (.int .i64 h.n) := row_at r_a1.out 3
  have c_a1_4 : W1.cell? ⟨w.heap.size, 4, none⟩ = some (.string h.r) := row_at r_a1.out 4
  have c_a1_5 : W1.cell? ⟨w.heap.size, 5, none⟩ = some (.int .i64 n) := row_at r_a1.out 5
  have c_a1_6 : W1.cell? ⟨w.heap.size, 6, none⟩ = some (.slice ao0 L cap0) := row_at r_a1.out 6
  go_enter Try.func40, Try.ntmps40
  go_wp2
  go_ret
  exact ⟨rfl, by rw [HW1.out]; exact B1.out⟩

set_option maxRecDepth 1000000 in
set_option maxHeartbeats 4000000 in
theorem word0 (w : World) (k f t n : Int) (h : Hd) (ao0 : Option Addr) (L cap0 : Nat) (k1 : ¬ (k = 1 ∧ n = 0 ∧ L = 0)) (k2 : ¬ (k = 2 ∧ L = 0)) (k3 : ¬ k = 3) :
    Calls Try.prog 40 #[.agg #[.int .i64 k, .int .i64 f, .int .i64 t, .int .i64 h.n, .string h.r, .int .i64 n, .slice ao0 L cap0]] w fun e w' => e = .returned (.nilIface) ∧ Below w.heap.size w w' := by
  have B0 : Hid (Below w.heap.size w w) := Below.refl _ _
  have b3 : (k == 3) = false := by rw [beq_eq_false_iff_ne]; exact k3
  by_cases e1 : k = 1
  · subst e1
    by_cases e0 : n = 0
    · subst e0
      have lz : ¬ L = 0 := fun q => k1 ⟨rfl, rfl, q⟩
      have l1 : ¬ (L : Int) = 0 := by omega
      have l2 : ((L : Int) == 0) = false := by rw [beq_eq_false_iff_ne]; exact l1
      obtain ⟨W1, HW1, b1, y1, hS1, r_a1⟩ : ∃ X, Hid ((w.alloc (.cells #[.int .i64 1, .int .i64 f, .int .i64 t, .int .i64 h.n, .string h.r, .int .i64 0, .slice ao0 L cap0] 28)) = X) ∧ Below w.heap.size w X ∧ w.heap.size + 1 ≤ X.heap.size ∧ Hid (X.heap.size = w.heap.size + 1) ∧ Hid (X.heap[w.heap.size]? = some (.cells #[.int .i64 1, .int .i64 f, .int .i64 t, .int .i64 h.n, .string h.r, .int .i64 0, .slice ao0 L cap0] 28 (0, 0))) := ⟨_, rfl, ((Below.refl _ _).alloc (Nat.le_refl _) _), by simp, by show _ = _; simp, (by show _ = _; exact alloc_nth1_0 w _)⟩
      have z1 : w.heap.size ≤ W1.heap.size := b1.size
      have B1 : Hid (Below w.heap.size w W1) := B0.out.trans (b1.mono B0.out.size)
      have c_a1_0 : W1.cell? ⟨w.heap.size, 0, none⟩ = some (.int .i64 1) := row_at r_a1.out 0
      have c_a1_1 : W1.cell? ⟨w.heap.size, 1, none⟩ = some (.int .i64 f) := row_at r_a1.out 1
      have c_a1_2 : W1.cell? ⟨w.heap.size, 2, none⟩ = some (.int .i64 t) := row_at r_a1.out 2
      have c_a1_3 : W1.cell? ⟨w.heap.size, 3, none⟩ = some (.int .i64 h.n) := row_at r_a1.out 3
      have c_a1_4 : W1.cell? ⟨w.heap.size, 4, none⟩ = some (.string h.r) := row_at r_a1.out 4
      have c_a1_5 : W1.cell? ⟨w.heap.size, 5, none⟩ = some (.int .i64 0) := row_at r_a1.out 5
      have c_a1_6 : W1.cell? ⟨w.heap.size, 6, none⟩ = some (.slice ao0 L cap0) := row_at r_a1.out 6
      go_enter Try.func40, Try.ntmps40
      go_wp2
      go_ret
      exact ⟨rfl, by rw [HW1.out]; exact B1.out⟩
    · have nb : (n == 0) = false := by rw [beq_eq_false_iff_ne]; exact e0
      obtain ⟨W1, HW1, b1, y1, hS1, r_a1⟩ : ∃ X, Hid ((w.alloc (.cells #[.int .i64 1, .int .i64 f, .int .i64 t, .int .i64 h.n, .string h.r, .int .i64 n, .slice ao0 L cap0] 28)) = X) ∧ Below w.heap.size w X ∧ w.heap.size + 1 ≤ X.heap.size ∧ Hid (X.heap.size = w.heap.size + 1) ∧ Hid (X.heap[w.heap.size]? = some (.cells #[.int .i64 1, .int .i64 f, .int .i64 t, .int .i64 h.n, .string h.r, .int .i64 n, .slice ao0 L cap0] 28 (0, 0))) := ⟨_, rfl, ((Below.refl _ _).alloc (Nat.le_refl _) _), by simp, by show _ = _; simp, (by show _ = _; exact alloc_nth1_0 w _)⟩
      have z1 : w.heap.size ≤ W1.heap.size := b1.size
      have B1 : Hid (Below w.heap.size w W1) := B0.out.trans (b1.mono B0.out.size)
      have c_a1_0 : W1.cell? ⟨w.heap.size, 0, none⟩ = some (.int .i64 1) := row_at r_a1.out 0
      have c_a1_1 : W1.cell? ⟨w.heap.size, 1, none⟩ = some (.int .i64 f) := row_at r_a1.out 1
      have c_a1_2 : W1.cell? ⟨w.heap.size, 2, none⟩ = some (.int .i64 t) := row_at r_a1.out 2
      have c_a1_3 : W1.cell? ⟨w.heap.size, 3, none⟩ = some (.int .i64 h.n) := row_at r_a1.out 3
      have c_a1_4 : W1.cell? ⟨w.heap.size, 4, none⟩ = some (.string h.r) := row_at r_a1.out 4
      have c_a1_5 : W1.cell? ⟨w.heap.size, 5, none⟩ = some (.int .i64 n) := row_at r_a1.out 5
      have c_a1_6 : W1.cell? ⟨w.heap.size, 6, none⟩ = some (.slice ao0 L cap0) := row_at r_a1.out 6
      go_enter Try.func40, Try.ntmps40
      go_wp2
      go_ret
      exact ⟨rfl, by rw [HW1.out]; exact B1.out⟩
  · have b1 : (k == 1) = false := by rw [beq_eq_false_iff_ne]; exact e1
    by_cases e2 : k = 2
    · subst e2
      have lz : ¬ L = 0 := fun q => k2 ⟨rfl, q⟩
      have l1 : ¬ (L : Int) = 0 := by omega
      have l2 : ((L : Int) == 0) = false := by rw [beq_eq_false_iff_ne]; exact l1
      obtain ⟨W1, HW1, b1, y1, hS1, r_a1⟩ : ∃ X, Hid ((w.alloc (.cells #[.int .i64 2, .int .i64 f, .int .i64 t, .int .i64 h.n, .string h.r, .int .i64 n, .slice ao0 L cap0] 28)) = X) ∧ Below w.heap.size w X ∧ w.heap.size + 1 ≤ X.heap.size ∧ Hid (X.heap.size = w.heap.size + 1) ∧ Hid (X.heap[w.heap.size]? = some (.cells #[.int .i64 2, .int .i64 f, .int .i64 t, .int .i64 h.n, .string h.r, .int .i64 n, .slice ao0 L cap0] 28 (0, 0))) := ⟨_, rfl, ((Below.refl _ _).alloc (Nat.le_refl _) _), by simp, by show _ = _; simp, (by show _ = _; exact alloc_nth1_0 w _)⟩
      have z1 : w.heap.size ≤ W1.heap.size := b1.size
      have B1 : Hid (Below w.heap.size w W1) := B0.out.trans (b1.mono B0.out.size)
      have c_a1_0 : W1.cell? ⟨w.heap.size, 0, none⟩ = some (.int .i64 2) := row_at r_a1.out 0
      have c_a1_1 : W1.cell? ⟨w.heap.size, 1, none⟩ = some (.int .i64 f) := row_at r_a1.out 1
      have c_a1_2 : W1.cell? ⟨w.heap.size, 2, none⟩ = some (.int .i64 t) := row_at r_a1.out 2
      have c_a1_3 : W1.cell? ⟨w.heap.size, 3, none⟩ = some (.int .i64 h.n) := row_at r_a1.out 3
      have c_a1_4 : W1.cell? ⟨w.heap.size, 4, none⟩ = some (.string h.r) := row_at r_a1.out 4
      have c_a1_5 : W1.cell? ⟨w.heap.size, 5, none⟩ = some (.int .i64 n) := row_at r_a1.out 5
      have c_a1_6 : W1.cell? ⟨w.heap.size, 6, none⟩ = some (.slice ao0 L cap0) := row_at r_a1.out 6
      go_enter Try.func40, Try.ntmps40
      go_wp2
      go_ret
      exact ⟨rfl, by rw [HW1.out]; exact B1.out⟩
    · have b2 : (k == 2) = false := by rw [beq_eq_false_iff_ne]; exact e2
      obtain ⟨W1, HW1, b1, y1, hS1, r_a1⟩ : ∃ X, Hid ((w.alloc (.cells #[.int .i64 k, .int .i64 f, .int .i64 t, .int .i64 h.n, .string h.r, .int .i64 n, .slice ao0 L cap0] 28)) = X) ∧ Below w.heap.size w X ∧ w.heap.size + 1 ≤ X.heap.size ∧ Hid (X.heap.size = w.heap.size + 1) ∧ Hid (X.heap[w.heap.size]? = some (.cells #[.int .i64 k, .int .i64 f, .int .i64 t, .int .i64 h.n, .string h.r, .int .i64 n, .slice ao0 L cap0] 28 (0, 0))) := ⟨_, rfl, ((Below.refl _ _).alloc (Nat.le_refl _) _), by simp, by show _ = _; simp, (by show _ = _; exact alloc_nth1_0 w _)⟩
      have z1 : w.heap.size ≤ W1.heap.size := b1.size
      have B1 : Hid (Below w.heap.size w W1) := B0.out.trans (b1.mono B0.out.size)
      have c_a1_0 : W1.cell? ⟨w.heap.size, 0, none⟩ = some (.int .i64 k) := row_at r_a1.out 0
      have c_a1_1 : W1.cell? ⟨w.heap.size, 1, none⟩ = some (.int .i64 f) := row_at r_a1.out 1
      have c_a1_2 : W1.cell? ⟨w.heap.size, 2, none⟩ = some (.int .i64 t) := row_at r_a1.out 2
      have c_a1_3 : W1.cell? ⟨w.heap.size, 3, none⟩ = some (.int .i64 h.n) := row_at r_a1.out 3
      have c_a1_4 : W1.cell? ⟨w.heap.size, 4, none⟩ = some (.string h.r) := row_at r_a1.out 4
      have c_a1_5 : W1.cell? ⟨w.heap.size, 5, none⟩ = some (.int .i64 n) := row_at r_a1.out 5
      have c_a1_6 : W1.cell? ⟨w.heap.size, 6, none⟩ = some (.slice ao0 L cap0) := row_at r_a1.out 6
      go_enter Try.func40, Try.ntmps40
      go_wp2
      go_ret
      exact ⟨rfl, by rw [HW1.out]; exact B1.out⟩

set_option maxRecDepth 1000000 in
set_option maxHeartbeats 4000000 in
theorem mirror_impl (w : World) (n : Int) : Calls Try.prog 41 #[.int .i64 n] w fun e w' => e = .returned (.bool (decide (0 ≤ n ∧ n ≤ 20))) ∧ w = w' := by
  by_cases h0 : 0 ≤ n
  · by_cases h1 : n ≤ 20
    · rw [decide_eq_true (show 0 ≤ n ∧ n ≤ 20 from ⟨h0, h1⟩)]
      have d0 : decide (0 ≤ n) = true := decide_eq_true h0
      have d1 : decide (n ≤ 20) = true := decide_eq_true h1
      go_enter Try.func41, Try.ntmps41
      go_wp2
      go_ret
      exact ⟨rfl, rfl⟩
    · rw [decide_eq_false (show ¬ (0 ≤ n ∧ n ≤ 20) from fun q => h1 q.2)]
      have d0 : decide (0 ≤ n) = true := decide_eq_true h0
      have d1 : decide (n ≤ 20) = false := decide_eq_false h1
      go_enter Try.func41, Try.ntmps41
      go_wp2
      go_ret
      exact ⟨rfl, rfl⟩
  · rw [decide_eq_false (show ¬ (0 ≤ n ∧ n ≤ 20) from fun q => h0 q.1)]
    have d0 : decide (0 ≤ n) = false := decide_eq_false h0
    go_enter Try.func41, Try.ntmps41
    go_wp2
    go_ret
    exact ⟨rfl, rfl⟩

set_option maxRecDepth 1000000 in
set_option maxHeartbeats 4000000 in
theorem place_impl (w : World) (h : Hd) (n : Int) : Calls Try.prog 66 #[.agg #[.int .i64 h.n, .string h.r], .int .i64 n] w fun e w' => e = .returned (.bool (decide (0 ≤ n ∧ n < h.n))) ∧ Below w.heap.size w w' := by
  have HB : Hid (Below w.heap.size w (w.alloc (.cells #[.int .i64 h.n, .string h.r] 25))) := (Below.refl _ _).alloc (Nat.le_refl _) _
  by_cases h0 : 0 ≤ n
  · have d0 : decide (0 ≤ n) = true := decide_eq_true h0
    by_cases h1 : n < h.n
    · have HN : Hid (decide (0 ≤ n ∧ n < h.n) = true) := decide_eq_true ⟨h0, h1⟩
      have d1 : decide (n < h.n) = true := decide_eq_true h1
      rw [HN.out]
      go_enter Try.func66, Try.ntmps66
      go_wp2
      go_ret
      exact ⟨rfl, HB.out⟩
    · have HN : Hid (decide (0 ≤ n ∧ n < h.n) = false) := decide_eq_false (fun q => h1 q.2)
      have d1 : decide (n < h.n) = false := decide_eq_false h1
      rw [HN.out]
      go_enter Try.func66, Try.ntmps66
      go_wp2
      go_ret
      exact ⟨rfl, HB.out⟩
  · have d0 : decide (0 ≤ n) = false := decide_eq_false h0
    have HN : Hid (decide (0 ≤ n ∧ n < h.n) = false) := decide_eq_false (fun q => h0 q.1)
    rw [HN.out]
    go_enter Try.func66, Try.ntmps66
    go_wp2
    go_ret
    exact ⟨rfl, HB.out⟩

theorem method_h (v : Value) (w : World) : (Go.method 224 89 v "loop.example/g00233/impl.upTo").run Try.prog w = .ok (95, v) w := by kernel_rfl

set_option maxRecDepth 1000000 in
set_option maxHeartbeats 4000000 in
theorem upto_h (w : World) (h : Hd) : Calls Try.prog 95 #[.agg #[.int .i64 h.n, .string h.r]] w fun e w' => e = .returned (.agg #[.int .i64 h.n, .string h.r]) ∧ Below w.heap.size w w' := by
  have B0 : Hid (Below w.heap.size w w) := Below.refl _ _
  obtain ⟨W1, HW1, b1, y1, hS1, r_a1, r_res1⟩ : ∃ X, Hid (((w.alloc (.cells #[.int .i64 h.n, .string h.r] 89)).alloc (.cells #[.int .i64 0, .string ⟨#[]⟩] 25)) = X) ∧ Below w.heap.size w X ∧ w.heap.size + 2 ≤ X.heap.size ∧ Hid (X.heap.size = w.heap.size + 1 + 1) ∧ Hid (X.heap[w.heap.size]? = some (.cells #[.int .i64 h.n, .string h.r] 89 (0, 0))) ∧ Hid (X.heap[w.heap.size + 1]? = some (.cells #[.int .i64 0, .string ⟨#[]⟩] 25 (0, 0))) := ⟨_, rfl, (((Below.refl _ _).alloc (Nat.le_refl _) _).alloc (by simp) _), by simp, by show _ = _; simp, (by show _ = _; exact alloc_nth2_0 w _ _), (by show _ = _; exact alloc_nth2_1 w _ _)⟩
  have z1 : w.heap.size ≤ W1.heap.size := b1.size
  have B1 : Hid (Below w.heap.size w W1) := B0.out.trans (b1.mono B0.out.size)
  have c_a1_0 : W1.cell? ⟨w.heap.size, 0, none⟩ = some (.int .i64 h.n) := row_at r_a1.out 0
  have c_a1_1 : W1.cell? ⟨w.heap.size, 1, none⟩ = some (.string h.r) := row_at r_a1.out 1
  have c_res1_0 : W1.cell? ⟨w.heap.size + 1, 0, none⟩ = some (.int .i64 0) := row_at r_res1.out 0
  have c_res1_1 : W1.cell? ⟨w.heap.size + 1, 1, none⟩ = some (.string ⟨#[]⟩) := row_at r_res1.out 1
  go_enter Try.func95, Try.ntmps95
  go_wp2_with ((try rw [HW1.out]); refine wpList_store_row rfl 25 _ _ rfl (w.heap.size + 1) (hc h) rfl rfl 25 _ r_res1.out (sizeH h) rfl (oneH h) ?_)
  exact bodyPost_ret (v := .agg (hc h)) (results_cell_row rfl _ _ (w.heap.size + 1) 25 _ (0, 0) _ rfl (setRow_heap _ _ _ _ _ (0, 0) r_res1.out) Try.underlying25 rfl (sizeH h)) rfl ⟨rfl, below_setRow B1.out (by omega) _⟩

theorem method_a (v : Value) (w : World) : (Go.method 224 91 v "loop.example/g00233/impl.upTo").run Try.prog w = .ok (96, v) w := by kernel_rfl

set_option maxRecDepth 1000000 in
set_option maxHeartbeats 4000000 in
theorem upto_a (w : World) (h : Hd) (n : Int) : Calls Try.prog 96 #[.agg #[.int .i64 h.n, .string h.r, .int .i64 n]] w fun e w' => e = .returned (.agg #[.int .i64 h.n, .string h.r]) ∧ Below w.heap.size w w' := by
  have B0 : Hid (Below w.heap.size w w) := Below.refl _ _
  obtain ⟨W1, HW1, b1, y1, hS1, r_a1, r_res1⟩ : ∃ X, Hid (((w.alloc (.cells #[.int .i64 h.n, .string h.r, .int .i64 n] 91)).alloc (.cells #[.int .i64 0, .string ⟨#[]⟩] 25)) = X) ∧ Below w.heap.size w X ∧ w.heap.size + 2 ≤ X.heap.size ∧ Hid (X.heap.size = w.heap.size + 1 + 1) ∧ Hid (X.heap[w.heap.size]? = some (.cells #[.int .i64 h.n, .string h.r, .int .i64 n] 91 (0, 0))) ∧ Hid (X.heap[w.heap.size + 1]? = some (.cells #[.int .i64 0, .string ⟨#[]⟩] 25 (0, 0))) := ⟨_, rfl, (((Below.refl _ _).alloc (Nat.le_refl _) _).alloc (by simp) _), by simp, by show _ = _; simp, (by show _ = _; exact alloc_nth2_0 w _ _), (by show _ = _; exact alloc_nth2_1 w _ _)⟩
  have z1 : w.heap.size ≤ W1.heap.size := b1.size
  have B1 : Hid (Below w.heap.size w W1) := B0.out.trans (b1.mono B0.out.size)
  have c_a1_0 : W1.cell? ⟨w.heap.size, 0, none⟩ = some (.int .i64 h.n) := row_at r_a1.out 0
  have c_a1_1 : W1.cell? ⟨w.heap.size, 1, none⟩ = some (.string h.r) := row_at r_a1.out 1
  have c_a1_2 : W1.cell? ⟨w.heap.size, 2, none⟩ = some (.int .i64 n) := row_at r_a1.out 2
  have c_res1_0 : W1.cell? ⟨w.heap.size + 1, 0, none⟩ = some (.int .i64 0) := row_at r_res1.out 0
  have c_res1_1 : W1.cell? ⟨w.heap.size + 1, 1, none⟩ = some (.string ⟨#[]⟩) := row_at r_res1.out 1
  go_enter Try.func96, Try.ntmps96
  go_wp2_with ((try rw [HW1.out]); refine wpList_store_row rfl 25 _ _ rfl (w.heap.size + 1) (hc h) rfl rfl 25 _ r_res1.out (sizeH h) rfl (oneH h) ?_)
  exact bodyPost_ret (v := .agg (hc h)) (results_cell_row rfl _ _ (w.heap.size + 1) 25 _ (0, 0) _ rfl (setRow_heap _ _ _ _ _ (0, 0) r_res1.out) Try.underlying25 rfl (sizeH h)) rfl ⟨rfl, below_setRow B1.out (by omega) _⟩

theorem method_t (v : Value) (w : World) : (Go.method 224 93 v "loop.example/g00233/impl.upTo").run Try.prog w = .ok (97, v) w := by kernel_rfl

set_option maxRecDepth 1000000 in
set_option maxHeartbeats 4000000 in
theorem upto_t (w : World) (h : Hd) (n : Int) (ao0 : Option Addr) (L cap0 : Nat) : Calls Try.prog 97 #[.agg #[.int .i64 h.n, .string h.r, .int .i64 n, .slice ao0 L cap0]] w fun e w' => e = .returned (.agg #[.int .i64 h.n, .string h.r]) ∧ Below w.heap.size w w' := by
  have B0 : Hid (Below w.heap.size w w) := Below.refl _ _
  obtain ⟨W1, HW1, b1, y1, hS1, r_a1, r_res1⟩ : ∃ X, Hid (((w.alloc (.cells #[.int .i64 h.n, .string h.r, .int .i64 n, .slice ao0 L cap0] 93)).alloc (.cells #[.int .i64 0, .string ⟨#[]⟩] 25)) = X) ∧ Below w.heap.size w X ∧ w.heap.size + 2 ≤ X.heap.size ∧ Hid (X.heap.size = w.heap.size + 1 + 1) ∧ Hid (X.heap[w.heap.size]? = some (.cells #[.int .i64 h.n, .string h.r, .int .i64 n, .slice ao0 L cap0] 93 (0, 0))) ∧ Hid (X.heap[w.heap.size + 1]? = some (.cells #[.int .i64 0, .string ⟨#[]⟩] 25 (0, 0))) := ⟨_, rfl, (((Below.refl _ _).alloc (Nat.le_refl _) _).alloc (by simp) _), by simp, by show _ = _; simp, (by show _ = _; exact alloc_nth2_0 w _ _), (by show _ = _; exact alloc_nth2_1 w _ _)⟩
  have z1 : w.heap.size ≤ W1.heap.size := b1.size
  have B1 : Hid (Below w.heap.size w W1) := B0.out.trans (b1.mono B0.out.size)
  have c_a1_0 : W1.cell? ⟨w.heap.size, 0, none⟩ = some (.int .i64 h.n) := row_at r_a1.out 0
  have c_a1_1 : W1.cell? ⟨w.heap.size, 1, none⟩ = some (.string h.r) := row_at r_a1.out 1
  have c_a1_2 : W1.cell? ⟨w.heap.size, 2, none⟩ = some (.int .i64 n) := row_at r_a1.out 2
  have c_a1_3 : W1.cell? ⟨w.heap.size, 3, none⟩ = some (.slice ao0 L cap0) := row_at r_a1.out 3
  have c_res1_0 : W1.cell? ⟨w.heap.size + 1, 0, none⟩ = some (.int .i64 0) := row_at r_res1.out 0
  have c_res1_1 : W1.cell? ⟨w.heap.size + 1, 1, none⟩ = some (.string ⟨#[]⟩) := row_at r_res1.out 1
  go_enter Try.func97, Try.ntmps97
  go_wp2_with ((try rw [HW1.out]); refine wpList_store_row rfl 25 _ _ rfl (w.heap.size + 1) (hc h) rfl rfl 25 _ r_res1.out (sizeH h) rfl (oneH h) ?_)
  exact bodyPost_ret (v := .agg (hc h)) (results_cell_row rfl _ _ (w.heap.size + 1) 25 _ (0, 0) _ rfl (setRow_heap _ _ _ _ _ (0, 0) r_res1.out) Try.underlying25 rfl (sizeH h)) rfl ⟨rfl, below_setRow B1.out (by omega) _⟩

end Go.Proofs.Yteemblfjghnooaa.Wd

/- Chapter 13, the landed code: whether a word is right. -/
namespace Go.Proofs.Yteemblfjghnooaa.Wd
open Go.Proofs.Yteemblfjghnooaa.Mg
open Go.RowKit Go.Proofs.Yteemblfjghnooaa.Mem Go.Proofs.Yteemblfjghnooaa.Laws Go.Proofs.Yteemblfjghnooaa.Bytes Go.Proofs.Yteemblfjghnooaa.Sha Go.Proofs.Yteemblfjghnooaa.Tr Go.Proofs.Yteemblfjghnooaa.He
set_option linter.unusedVariables false
set_option linter.unusedSimpArgs false

theorem kind_top {m : Ms} (h : Mg.kindOk m = true) (ho : okH m.h = true) : m.n ≤ 200 := by
  have h1 := okH_parts13 ho
  unfold Mg.kindOk at h
  split at h
  · simp only [Bool.and_eq_true, decide_eq_true_eq] at h
    omega
  · split at h
    · simp only [Bool.and_eq_true, decide_eq_true_eq] at h
      omega
    · split at h
      · simp only [Bool.and_eq_true, decide_eq_true_eq] at h
        omega
      · cases h
theorem msg_alt (m : Ms) : msgOk m = (decide (0 ≤ m.f ∧ m.f ≤ 20) && decide (0 ≤ m.t ∧ m.t ≤ 20) && !decide (m.f = m.t) && (okH m.h && decide (0 ≤ m.n) && Mg.kindOk m)) := by
  rw [Bool.eq_iff_iff]
  unfold msgOk face
  simp only [Bool.and_eq_true, decide_eq_true_eq, Bool.not_eq_true', decide_eq_false_iff_not]
  constructor
  · rintro ⟨⟨⟨⟨⟨a, b⟩, c⟩, d⟩, e⟩, f⟩
    exact ⟨⟨⟨a, b⟩, c⟩, ⟨d, e.1⟩, f⟩
  · rintro ⟨⟨⟨a, b⟩, c⟩, ⟨d, e⟩, f⟩
    exact ⟨⟨⟨⟨⟨a, b⟩, c⟩, d⟩, ⟨e, kind_top f d⟩⟩, f⟩

set_option maxRecDepth 1000000 in
set_option maxHeartbeats 4000000 in
theorem right_h (w : World) (h : Hd) (hr : h.r.size ≤ 1000000000000) : Calls Try.prog 42 #[.iface 89 (.agg #[.int .i64 h.n, .string h.r])] w fun e w' => e = .returned (.bool (okH h)) ∧ Below w.heap.size w w' := by
  have B0 : Hid (Below w.heap.size w w) := Below.refl _ _
  have m1 := method_h
  have qh : ∀ W, _ := fun W => He.ok_impl W h hr
  obtain ⟨A, hA⟩ : ∃ A, okH h = A := ⟨_, rfl⟩
  simp only [hA] at qh
  rw [hA]
  have HA : Hid (okH h = A) := hA
  clear hA
  have t_hh := fun W v => ta_hh W v
  have t_ha := fun W v => ta_ha W v
  have t_ht := fun W v => ta_ht W v
  go_enter Try.func42, Try.ntmps42
  go_wp2_with fail
  refine (upto_h w h).mono ?_
  rintro e W1 ⟨rfl, b1⟩
  have z1 : w.heap.size ≤ W1.heap.size := b1.size
  have B1 : Hid (Below w.heap.size w W1) := B0.out.trans (b1.mono B0.out.size)
  go_wp2_with fail
  refine (qh W1).mono ?_
  rintro e W2 ⟨rfl, b2⟩
  have z2 : W1.heap.size ≤ W2.heap.size := b2.size
  have B2 : Hid (Below w.heap.size w W2) := B1.out.trans (b2.mono B1.out.size)
  clear qh
  cases A
  · go_wp2
    go_ret
    exact ⟨rfl, B2.out⟩
  · obtain ⟨W3, HW3, b3, y3, hS3, r_u3⟩ : ∃ X, Hid ((W2.alloc (.cells #[.int .i64 h.n, .string h.r] 89)) = X) ∧ Below W2.heap.size W2 X ∧ W2.heap.size + 1 ≤ X.heap.size ∧ Hid (X.heap.size = W2.heap.size + 1) ∧ Hid (X.heap[W2.heap.size]? = some (.cells #[.int .i64 h.n, .string h.r] 89 (0, 0))) := ⟨_, rfl, ((Below.refl _ _).alloc (Nat.le_refl _) _), by simp, by show _ = _; simp, (by show _ = _; exact alloc_nth1_0 W2 _)⟩
    have z3 : W2.heap.size ≤ W3.heap.size := b3.size
    have B3 : Hid (Below w.heap.size w W3) := B2.out.trans (b3.mono B2.out.size)
    have c_u3_0 : W3.cell? ⟨W2.heap.size, 0, none⟩ = some (.int .i64 h.n) := row_at r_u3.out 0
    have c_u3_1 : W3.cell? ⟨W2.heap.size, 1, none⟩ = some (.string h.r) := row_at r_u3.out 1
    go_wp2
    go_ret
    exact ⟨rfl, by rw [HW3.out]; exact B3.out⟩

set_option maxRecDepth 1000000 in
set_option maxHeartbeats 4000000 in
theorem right_a (w : World) (h : Hd) (n : Int) (hr : h.r.size ≤ 1000000000000) : Calls Try.prog 42 #[.iface 91 (.agg #[.int .i64 h.n, .string h.r, .int .i64 n])] w fun e w' => e = .returned (.bool (okH h && decide (0 ≤ n ∧ n < h.n))) ∧ Below w.heap.size w w' := by
  have B0 : Hid (Below w.heap.size w w) := Below.refl _ _
  have m1 := method_a
  have qh : ∀ W, _ := fun W => He.ok_impl W h hr
  obtain ⟨A, hA⟩ : ∃ A, okH h = A := ⟨_, rfl⟩
  simp only [hA] at qh
  rw [hA]
  have HA : Hid (okH h = A) := hA
  clear hA
  have qp : ∀ W, _ := fun W => place_impl W h n
  obtain ⟨P, hP⟩ : ∃ P, decide (0 ≤ n ∧ n < h.n) = P := ⟨_, rfl⟩
  simp only [hP] at qp
  rw [hP]
  have HP : Hid (decide (0 ≤ n ∧ n < h.n) = P) := hP
  clear hP
  have t_ah := fun W v => ta_ah W v
  have t_aa := fun W v => ta_aa W v
  have t_at := fun W v => ta_at W v
  go_enter Try.func42, Try.ntmps42
  go_wp2_with fail
  refine (upto_a w h n).mono ?_
  rintro e W1 ⟨rfl, b1⟩
  have z1 : w.heap.size ≤ W1.heap.size := b1.size
  have B1 : Hid (Below w.heap.size w W1) := B0.out.trans (b1.mono B0.out.size)
  go_wp2_with fail
  refine (qh W1).mono ?_
  rintro e W2 ⟨rfl, b2⟩
  have z2 : W1.heap.size ≤ W2.heap.size := b2.size
  have B2 : Hid (Below w.heap.size w W2) := B1.out.trans (b2.mono B1.out.size)
  clear qh
  cases A
  · go_wp2
    go_ret
    exact ⟨rfl, B2.out⟩
  · obtain ⟨W3, HW3, b3, y3, hS3, r_u3⟩ : ∃ X, Hid ((W2.alloc (.cells #[.int .i64 h.n, .string h.r, .int .i64 n] 91)) = X) ∧ Below W2.heap.size W2 X ∧ W2.heap.size + 1 ≤ X.heap.size ∧ Hid (X.heap.size = W2.heap.size + 1) ∧ Hid (X.heap[W2.heap.size]? = some (.cells #[.int .i64 h.n, .string h.r, .int .i64 n] 91 (0, 0))) := ⟨_, rfl, ((Below.refl _ _).alloc (Nat.le_refl _) _), by simp, by show _ = _; simp, (by show _ = _; exact alloc_nth1_0 W2 _)⟩
    have z3 : W2.heap.size ≤ W3.heap.size := b3.size
    have B3 : Hid (Below w.heap.size w W3) := B2.out.trans (b3.mono B2.out.size)
    have c_u3_0 : W3.cell? ⟨W2.heap.size, 0, none⟩ = some (.int .i64 h.n) := row_at r_u3.out 0
    have c_u3_1 : W3.cell? ⟨W2.heap.size, 1, none⟩ = some (.string h.r) := row_at r_u3.out 1
    have c_u3_2 : W3.cell? ⟨W2.heap.size, 2, none⟩ = some (.int .i64 n) := row_at r_u3.out 2
    go_wp2_with fail
    rw [HW3.out]
    refine (qp W3).mono ?_
    rintro e W4 ⟨rfl, b4⟩
    have z4 : W3.heap.size ≤ W4.heap.size := b4.size
    have B4 : Hid (Below w.heap.size w W4) := B3.out.trans (b4.mono B3.out.size)
    have r_u4 : Hid (W4.heap[W2.heap.size]? = some (.cells #[.int .i64 h.n, .string h.r, .int .i64 n] 91 (0, 0))) := rowKeep r_u3.out b4
    have c_u4_0 : W4.cell? ⟨W2.heap.size, 0, none⟩ = some (.int .i64 h.n) := row_at r_u4.out 0
    have c_u4_1 : W4.cell? ⟨W2.heap.size, 1, none⟩ = some (.string h.r) := row_at r_u4.out 1
    have c_u4_2 : W4.cell? ⟨W2.heap.size, 2, none⟩ = some (.int .i64 n) := row_at r_u4.out 2
    clear r_u3 c_u3_0 c_u3_1 c_u3_2
    clear qp
    go_wp2
    go_ret
    exact ⟨by simp, B4.out⟩

set_option maxRecDepth 1000000 in
set_option maxHeartbeats 4000000 in
theorem right_t (w : World) (h : Hd) (n : Int) (ao0 : Option Addr) (L cap0 : Nat) (hr : h.r.size ≤ 1000000000000) (hL : L ≤ 1000000000000) : Calls Try.prog 42 #[.iface 93 (.agg #[.int .i64 h.n, .string h.r, .int .i64 n, .slice ao0 L cap0])] w fun e w' => e = .returned (.bool (okH h && decide (0 ≤ n ∧ n < h.n) && decide ((L : Int) = h.n - n))) ∧ Below w.heap.size w w' := by
  have B0 : Hid (Below w.heap.size w w) := Below.refl _ _
  have m1 := method_t
  have qh : ∀ W, _ := fun W => He.ok_impl W h hr
  obtain ⟨A, hA⟩ : ∃ A, okH h = A := ⟨_, rfl⟩
  simp only [hA] at qh
  rw [hA]
  have HA : Hid (okH h = A) := hA
  clear hA
  have qp : ∀ W, _ := fun W => place_impl W h n
  obtain ⟨P, hP⟩ : ∃ P, decide (0 ≤ n ∧ n < h.n) = P := ⟨_, rfl⟩
  simp only [hP] at qp
  rw [hP]
  have HP : Hid (decide (0 ≤ n ∧ n < h.n) = P) := hP
  clear hP
  have t_th := fun W v => ta_th W v
  have t_ta := fun W v => ta_ta W v
  have t_tt := fun W v => ta_tt W v
  go_enter Try.func42, Try.ntmps42
  go_wp2_with fail
  refine (upto_t w h n ao0 L cap0).mono ?_
  rintro e W1 ⟨rfl, b1⟩
  have z1 : w.heap.size ≤ W1.heap.size := b1.size
  have B1 : Hid (Below w.heap.size w W1) := B0.out.trans (b1.mono B0.out.size)
  go_wp2_with fail
  refine (qh W1).mono ?_
  rintro e W2 ⟨rfl, b2⟩
  have z2 : W1.heap.size ≤ W2.heap.size := b2.size
  have B2 : Hid (Below w.heap.size w W2) := B1.out.trans (b2.mono B1.out.size)
  clear qh
  cases A
  · go_wp2
    go_ret
    exact ⟨rfl, B2.out⟩
  · obtain ⟨W3, HW3, b3, y3, hS3, r_u3⟩ : ∃ X, Hid ((W2.alloc (.cells #[.int .i64 h.n, .string h.r, .int .i64 n, .slice ao0 L cap0] 93)) = X) ∧ Below W2.heap.size W2 X ∧ W2.heap.size + 1 ≤ X.heap.size ∧ Hid (X.heap.size = W2.heap.size + 1) ∧ Hid (X.heap[W2.heap.size]? = some (.cells #[.int .i64 h.n, .string h.r, .int .i64 n, .slice ao0 L cap0] 93 (0, 0))) := ⟨_, rfl, ((Below.refl _ _).alloc (Nat.le_refl _) _), by simp, by show _ = _; simp, (by show _ = _; exact alloc_nth1_0 W2 _)⟩
    have z3 : W2.heap.size ≤ W3.heap.size := b3.size
    have B3 : Hid (Below w.heap.size w W3) := B2.out.trans (b3.mono B2.out.size)
    have c_u3_0 : W3.cell? ⟨W2.heap.size, 0, none⟩ = some (.int .i64 h.n) := row_at r_u3.out 0
    have c_u3_1 : W3.cell? ⟨W2.heap.size, 1, none⟩ = some (.string h.r) := row_at r_u3.out 1
    have c_u3_2 : W3.cell? ⟨W2.heap.size, 2, none⟩ = some (.int .i64 n) := row_at r_u3.out 2
    have c_u3_3 : W3.cell? ⟨W2.heap.size, 3, none⟩ = some (.slice ao0 L cap0) := row_at r_u3.out 3
    go_wp2_with fail
    rw [HW3.out]
    refine (qp W3).mono ?_
    rintro e W4 ⟨rfl, b4⟩
    have z4 : W3.heap.size ≤ W4.heap.size := b4.size
    have B4 : Hid (Below w.heap.size w W4) := B3.out.trans (b4.mono B3.out.size)
    have r_u4 : Hid (W4.heap[W2.heap.size]? = some (.cells #[.int .i64 h.n, .string h.r, .int .i64 n, .slice ao0 L cap0] 93 (0, 0))) := rowKeep r_u3.out b4
    have c_u4_0 : W4.cell? ⟨W2.heap.size, 0, none⟩ = some (.int .i64 h.n) := row_at r_u4.out 0
    have c_u4_1 : W4.cell? ⟨W2.heap.size, 1, none⟩ = some (.string h.r) := row_at r_u4.out 1
    have c_u4_2 : W4.cell? ⟨W2.heap.size, 2, none⟩ = some (.int .i64 n) := row_at r_u4.out 2
    have c_u4_3 : W4.cell? ⟨W2.heap.size, 3, none⟩ = some (.slice ao0 L cap0) := row_at r_u4.out 3
    clear r_u3 c_u3_0 c_u3_1 c_u3_2 c_u3_3
    clear qp
    cases P
    · go_wp2
      go_ret
      exact ⟨by simp, B4.out⟩
    · have hp := of_decide_eq_true HP.out
      have hh := okH_parts13 HA.out
      have wr : IntKind.i64.wrap (h.n - n) = h.n - n := by rw [IntKind.wrap_i64]; omega
      clear hh
      by_cases l0 : (L : Int) = h.n - n
      · have l2 : ((L : Int) == h.n - n) = true := by rw [l0]; simp
        have HL0 : Hid (decide ((L : Int) = h.n - n) = true) := decide_eq_true l0
        clear l0
        go_wp2
        go_ret
        exact ⟨by rw [HL0.out]; rfl, B4.out⟩
      · have l2 : ((L : Int) == h.n - n) = false := by rw [beq_eq_false_iff_ne]; exact l0
        have HL0 : Hid (decide ((L : Int) = h.n - n) = false) := decide_eq_false l0
        go_wp2
        go_ret
        exact ⟨by rw [HL0.out]; rfl, B4.out⟩

set_option maxRecDepth 1000000 in
set_option maxHeartbeats 4000000 in
theorem word_any (w : World) (k f t n : Int) (h : Hd) (x : List ByteArray) (ao0 : Option Addr) (cap0 : Nat) (hr : h.r.size ≤ 1000000000000) (hl : x.length ≤ 1000000000000) :
    Calls Try.prog 40 #[.agg #[.int .i64 k, .int .i64 f, .int .i64 t, .int .i64 h.n, .string h.r, .int .i64 n, .slice ao0 x.length cap0]] w fun e w' => (∃ X, e = .returned X ∧ ((X = .nilIface ∧ Hid (Mg.kindOk ⟨k, f, t, h, n, x⟩ = false)) ∨ ∃ T u, X = .iface T u ∧ Hid (∀ W, Calls Try.prog 42 #[.iface T u] W fun e w' => e = .returned (.bool (okH h && decide (0 ≤ n) && Mg.kindOk ⟨k, f, t, h, n, x⟩)) ∧ Below W.heap.size W w'))) ∧ Below w.heap.size w w' := by
  by_cases c1 : k = 1 ∧ n = 0 ∧ x.length = 0
  · obtain ⟨rfl, rfl, c⟩ := c1
    have hx : x = [] := List.eq_nil_of_length_eq_zero c
    subst hx
    refine (word1 w f t h ao0 cap0).mono ?_
    rintro e w' ⟨rfl, hb⟩
    refine ⟨⟨_, rfl, .inr ⟨_, _, rfl, fun W => (right_h W h hr).mono ?_⟩⟩, hb⟩
    rintro e w' ⟨rfl, hb⟩
    exact ⟨by simp [Mg.kindOk], hb⟩
  · by_cases c2 : k = 2 ∧ x.length = 0
    · obtain ⟨rfl, c⟩ := c2
      have hx : x = [] := List.eq_nil_of_length_eq_zero c
      subst hx
      refine (word2 w f t n h ao0 cap0).mono ?_
      rintro e w' ⟨rfl, hb⟩
      refine ⟨⟨_, rfl, .inr ⟨_, _, rfl, fun W => (right_a W h n hr).mono ?_⟩⟩, hb⟩
      rintro e w' ⟨rfl, hb⟩
      exact ⟨by simp [Mg.kindOk, Bool.and_assoc], hb⟩
    · by_cases c3 : k = 3
      · subst c3
        refine (word3 w f t n h ao0 x.length cap0).mono ?_
        rintro e w' ⟨rfl, hb⟩
        refine ⟨⟨_, rfl, .inr ⟨_, _, rfl, fun W => (right_t W h n ao0 x.length cap0 hr hl).mono ?_⟩⟩, hb⟩
        rintro e w' ⟨rfl, hb⟩
        exact ⟨by simp [Mg.kindOk, Bool.and_assoc], hb⟩
      · refine (word0 w k f t n h ao0 x.length cap0 c1 c2 c3).mono ?_
        rintro e w' ⟨rfl, hb⟩
        refine ⟨⟨_, rfl, .inl ⟨rfl, ?_⟩⟩, hb⟩
        show _ = _
        unfold Mg.kindOk
        simp only
        split
        · rename_i q
          subst q
          by_cases c : n = 0
          · have : ¬ x.length = 0 := fun z => c1 ⟨rfl, c, z⟩
            simp [this]
          · simp [c]
        · split
          · rename_i q
            subst q
            have : ¬ x.length = 0 := fun z => c2 ⟨rfl, z⟩
            simp [this]
          · rfl

set_option maxRecDepth 1000000 in
set_option maxHeartbeats 4000000 in
theorem msgok_impl (w : World) (v : Value) (m : Ms) (hs : Sl w v (ss m.x)) (hl : m.x.length ≤ 1000000000000) (hr : m.h.r.size ≤ 1000000000000) :
    Calls Try.prog 14 #[.agg #[.int .i64 m.k, .int .i64 m.f, .int .i64 m.t, .int .i64 m.h.n, .string m.h.r, .int .i64 m.n, v]] w fun e w' => e = .returned (.bool (msgOk m)) ∧ Below w.heap.size w w' := by
  rw [msg_alt]
  obtain ⟨R, hR⟩ : ∃ R, (decide (0 ≤ m.f ∧ m.f ≤ 20) && decide (0 ≤ m.t ∧ m.t ≤ 20) && !decide (m.f = m.t) && (okH m.h && decide (0 ≤ m.n) && Mg.kindOk m)) = R := ⟨_, rfl⟩
  rw [hR]
  have HR : Hid ((decide (0 ≤ m.f ∧ m.f ≤ 20) && decide (0 ≤ m.t ∧ m.t ≤ 20) && !decide (m.f = m.t) && (okH m.h && decide (0 ≤ m.n) && Mg.kindOk m)) = R) := hR
  clear hR
  obtain ⟨k, f, t, h, n, x⟩ := m
  simp only at *
  have HS : Hid (Sl w v (ss x)) := hs
  obtain ⟨ao0, cap0, rfl, hc0⟩ := hs.form
  simp only [ss_len] at *
  clear hs
  have B0 : Hid (Below w.heap.size w w) := Below.refl _ _
  obtain ⟨W1, HW1, b1, y1, hS1, r_a1⟩ : ∃ X, Hid ((w.alloc (.cells #[.int .i64 k, .int .i64 f, .int .i64 t, .int .i64 h.n, .string h.r, .int .i64 n, .slice ao0 x.length cap0] 28)) = X) ∧ Below w.heap.size w X ∧ w.heap.size + 1 ≤ X.heap.size ∧ Hid (X.heap.size = w.heap.size + 1) ∧ Hid (X.heap[w.heap.size]? = some (.cells #[.int .i64 k, .int .i64 f, .int .i64 t, .int .i64 h.n, .string h.r, .int .i64 n, .slice ao0 x.length cap0] 28 (0, 0))) := ⟨_, rfl, ((Below.refl _ _).alloc (Nat.le_refl _) _), by simp, by show _ = _; simp, (by show _ = _; exact alloc_nth1_0 w _)⟩
  have z1 : w.heap.size ≤ W1.heap.size := b1.size
  have B1 : Hid (Below w.heap.size w W1) := B0.out.trans (b1.mono B0.out.size)
  have c_a1_0 : W1.cell? ⟨w.heap.size, 0, none⟩ = some (.int .i64 k) := row_at r_a1.out 0
  have c_a1_1 : W1.cell? ⟨w.heap.size, 1, none⟩ = some (.int .i64 f) := row_at r_a1.out 1
  have c_a1_2 : W1.cell? ⟨w.heap.size, 2, none⟩ = some (.int .i64 t) := row_at r_a1.out 2
  have c_a1_3 : W1.cell? ⟨w.heap.size, 3, none⟩ = some (.int .i64 h.n) := row_at r_a1.out 3
  have c_a1_4 : W1.cell? ⟨w.heap.size, 4, none⟩ = some (.string h.r) := row_at r_a1.out 4
  have c_a1_5 : W1.cell? ⟨w.heap.size, 5, none⟩ = some (.int .i64 n) := row_at r_a1.out 5
  have c_a1_6 : W1.cell? ⟨w.heap.size, 6, none⟩ = some (.slice ao0 x.length cap0) := row_at r_a1.out 6
  have qm : ∀ W n, _ := fun W n => mirror_impl W n
  have qw : ∀ W, _ := fun W => word_any W k f t n h x ao0 cap0 hr hl
  go_enter Try.func14, Try.ntmps14
  go_wp2_with fail
  rw [HW1.out]
  refine (qw W1).mono ?_
  rintro e W2 ⟨⟨X, rfl, hX⟩, b2⟩
  have z2 : W1.heap.size ≤ W2.heap.size := b2.size
  have B2 : Hid (Below w.heap.size w W2) := B1.out.trans (b2.mono B1.out.size)
  have r_a2 : Hid (W2.heap[w.heap.size]? = some (.cells #[.int .i64 k, .int .i64 f, .int .i64 t, .int .i64 h.n, .string h.r, .int .i64 n, .slice ao0 x.length cap0] 28 (0, 0))) := rowKeep r_a1.out b2
  have c_a2_0 : W2.cell? ⟨w.heap.size, 0, none⟩ = some (.int .i64 k) := row_at r_a2.out 0
  have c_a2_1 : W2.cell? ⟨w.heap.size, 1, none⟩ = some (.int .i64 f) := row_at r_a2.out 1
  have c_a2_2 : W2.cell? ⟨w.heap.size, 2, none⟩ = some (.int .i64 t) := row_at r_a2.out 2
  have c_a2_3 : W2.cell? ⟨w.heap.size, 3, none⟩ = some (.int .i64 h.n) := row_at r_a2.out 3
  have c_a2_4 : W2.cell? ⟨w.heap.size, 4, none⟩ = some (.string h.r) := row_at r_a2.out 4
  have c_a2_5 : W2.cell? ⟨w.heap.size, 5, none⟩ = some (.int .i64 n) := row_at r_a2.out 5
  have c_a2_6 : W2.cell? ⟨w.heap.size, 6, none⟩ = some (.slice ao0 x.length cap0) := row_at r_a2.out 6
  clear r_a1 c_a1_0 c_a1_1 c_a1_2 c_a1_3 c_a1_4 c_a1_5 c_a1_6
  clear qw
  rcases hX with hX | hX
  · obtain ⟨rfl, HX⟩ := hX
    go_wp2_with fail
    refine (qm W2 f).mono ?_
    rintro e W_ ⟨rfl, hW_⟩
    subst hW_
    obtain ⟨If, hIf⟩ : ∃ I, decide (0 ≤ f ∧ f ≤ 20) = I := ⟨_, rfl⟩
    rw [hIf]
    have HIf : Hid (decide (0 ≤ f ∧ f ≤ 20) = If) := hIf
    clear hIf
    cases If
    · have HN : Hid (R = false) := by show _ = _; rw [← HR.out]; rw [HIf.out]; rfl
      go_wp2
      go_ret
      exact ⟨by rw [HN.out]; rfl, B2.out⟩
    · go_wp2_with fail
      refine (qm W2 t).mono ?_
      rintro e W_ ⟨rfl, hW_⟩
      subst hW_
      obtain ⟨It, hIt⟩ : ∃ I, decide (0 ≤ t ∧ t ≤ 20) = I := ⟨_, rfl⟩
      rw [hIt]
      have HIt : Hid (decide (0 ≤ t ∧ t ≤ 20) = It) := hIt
      clear hIt
      cases It
      · have HN : Hid (R = false) := by show _ = _; rw [← HR.out]; rw [HIt.out]; simp
        go_wp2
        go_ret
        exact ⟨by rw [HN.out]; rfl, B2.out⟩
      · by_cases hft : f = t
        · subst hft
          have hbb : (f == f) = true := by simp
          have hbc : (f != f) = false := by simp
          have HN : Hid (R = false) := by show _ = _; rw [← HR.out]; simp
          go_wp2
          go_ret
          exact ⟨by rw [HN.out]; rfl, B2.out⟩
        · have hbb : (f == t) = false := by rw [beq_eq_false_iff_ne]; exact hft
          have hbc : (f != t) = true := by rw [bne, hbb]; rfl
          have HN : Hid (R = false) := by show _ = _; rw [← HR.out]; rw [HX.out]; simp
          go_wp2
          go_ret
          exact ⟨by rw [HN.out]; rfl, B2.out⟩
  · obtain ⟨T, u, rfl, HX⟩ := hX
    go_wp2_with fail
    refine (qm W2 f).mono ?_
    rintro e W_ ⟨rfl, hW_⟩
    subst hW_
    obtain ⟨If, hIf⟩ : ∃ I, decide (0 ≤ f ∧ f ≤ 20) = I := ⟨_, rfl⟩
    rw [hIf]
    have HIf : Hid (decide (0 ≤ f ∧ f ≤ 20) = If) := hIf
    clear hIf
    cases If
    · have HN : Hid (R = false) := by show _ = _; rw [← HR.out]; rw [HIf.out]; rfl
      go_wp2
      go_ret
      exact ⟨by rw [HN.out]; rfl, B2.out⟩
    · go_wp2_with fail
      refine (qm W2 t).mono ?_
      rintro e W_ ⟨rfl, hW_⟩
      subst hW_
      obtain ⟨It, hIt⟩ : ∃ I, decide (0 ≤ t ∧ t ≤ 20) = I := ⟨_, rfl⟩
      rw [hIt]
      have HIt : Hid (decide (0 ≤ t ∧ t ≤ 20) = It) := hIt
      clear hIt
      cases It
      · have HN : Hid (R = false) := by show _ = _; rw [← HR.out]; rw [HIt.out]; simp
        go_wp2
        go_ret
        exact ⟨by rw [HN.out]; rfl, B2.out⟩
      · by_cases hft : f = t
        · subst hft
          have hbb : (f == f) = true := by simp
          have hbc : (f != f) = false := by simp
          have HN : Hid (R = false) := by show _ = _; rw [← HR.out]; simp
          go_wp2
          go_ret
          exact ⟨by rw [HN.out]; rfl, B2.out⟩
        · have hbb : (f == t) = false := by rw [beq_eq_false_iff_ne]; exact hft
          have hbc : (f != t) = true := by rw [bne, hbb]; rfl
          obtain ⟨A, hA⟩ : ∃ A, (okH h && decide (0 ≤ n) && Mg.kindOk ⟨k, f, t, h, n, x⟩) = A := ⟨_, rfl⟩
          have qX := HX.out
          simp only [hA] at qX
          have HN : Hid (R = A) := by show _ = _; rw [← HR.out, HIf.out, HIt.out, hA]; simp [hft]
          clear hA HX
          go_wp2_with fail
          refine (qX W2).mono ?_
          rintro e W3 ⟨rfl, b3⟩
          have z3 : W2.heap.size ≤ W3.heap.size := b3.size
          have B3 : Hid (Below w.heap.size w W3) := B2.out.trans (b3.mono B2.out.size)
          have r_a3 : Hid (W3.heap[w.heap.size]? = some (.cells #[.int .i64 k, .int .i64 f, .int .i64 t, .int .i64 h.n, .string h.r, .int .i64 n, .slice ao0 x.length cap0] 28 (0, 0))) := rowKeep r_a2.out b3
          have c_a3_0 : W3.cell? ⟨w.heap.size, 0, none⟩ = some (.int .i64 k) := row_at r_a3.out 0
          have c_a3_1 : W3.cell? ⟨w.heap.size, 1, none⟩ = some (.int .i64 f) := row_at r_a3.out 1
          have c_a3_2 : W3.cell? ⟨w.heap.size, 2, none⟩ = some (.int .i64 t) := row_at r_a3.out 2
          have c_a3_3 : W3.cell? ⟨w.heap.size, 3, none⟩ = some (.int .i64 h.n) := row_at r_a3.out 3
          have c_a3_4 : W3.cell? ⟨w.heap.size, 4, none⟩ = some (.string h.r) := row_at r_a3.out 4
          have c_a3_5 : W3.cell? ⟨w.heap.size, 5, none⟩ = some (.int .i64 n) := row_at r_a3.out 5
          have c_a3_6 : W3.cell? ⟨w.heap.size, 6, none⟩ = some (.slice ao0 x.length cap0) := row_at r_a3.out 6
          clear r_a2 c_a2_0 c_a2_1 c_a2_2 c_a2_3 c_a2_4 c_a2_5 c_a2_6
          clear qX
          go_wp2
          go_ret
          exact ⟨by rw [HN.out]; simp, B3.out⟩

end Go.Proofs.Yteemblfjghnooaa.Wd

/- Several numbers put one behind the other, onto a row that the caller owns; the numbers lie ahead of it. -/
namespace Go.Proofs.Yteemblfjghnooaa.Puts
open Go.RowKit Go.Proofs.Yteemblfjghnooaa.Mem Go.Proofs.Yteemblfjghnooaa.Plain Go.Proofs.Yteemblfjghnooaa.Laws Go.Proofs.Yteemblfjghnooaa.Bytes
set_option linter.unusedVariables false
set_option linter.unusedSimpArgs false

/-- numbers as bytes -/
def numsB (ns : List Int) : List Int := (ns.map num).flatten
theorem numsB_cons (n : Int) (ns : List Int) : numsB (n :: ns) = num n ++ numsB ns := rfl
theorem numsB_len : ∀ ns : List Int, (numsB ns).length ≤ 5 * ns.length := by
  intro ns
  induction ns with
  | nil => exact Nat.le_refl _
  | cons n r ih =>
    have := (num_len n).2
    rw [numsB_cons, List.length_append, List.length_cons]
    omega

set_option maxRecDepth 1000000 in
set_option maxHeartbeats 2000000 in
theorem nums_any (w : World) (lo : Nat) (v : Value) (xs : List Int) (g off cap : Nat) (ns : List Int) (h : Own w lo w.heap.size 5 v (bs xs)) (hlo : lo ≤ w.heap.size) (hx : xs.length ≤ 70368744177664) (hn : ns.length ≤ 1000)
    (hcell : ∀ w', Below lo w w' → ∀ (j : Nat) (n : Int), ns[j]? = some n → w'.cell? ⟨g, off + j, none⟩ = some (.int .i64 n)) :
    Calls Try.prog 28 #[v, .slice (some ⟨g, off, none⟩) ns.length cap] w fun e w' => ∃ v', e = .returned v' ∧ Own w' lo w'.heap.size 5 v' (bs (xs ++ numsB ns)) ∧ Below lo w w' := by
  obtain ⟨i0, hi, hz0, hz1, hz2⟩ := info_parts info5
  have HC : Hid (∀ w', Below lo w w' → ∀ (j : Nat) (n : Int), ns[j]? = some n → w'.cell? ⟨g, off + j, none⟩ = some (.int .i64 n)) := hcell
  obtain ⟨N, hN⟩ : ∃ N, ns.length = N := ⟨_, rfl⟩
  have HN : Hid (ns.length = N) := hN
  rw [hN] at hn ⊢
  clear hcell hN
  go_enter Try.func28, Try.ntmps28
  go_wp2
  go_loopw [0, 9] (fun b i wr => ∃ (k : Nat) (zs : List Int), k ≤ N ∧ i = .int .i64 (k : Int) ∧ Hid (zs ++ numsB (ns.drop k) = xs ++ numsB ns) ∧ zs.length ≤ xs.length + 5 * k ∧ Own wr lo wr.heap.size 5 b (bs zs) ∧ Below lo w wr) (fun _ i _ => N - (intOf i).toNat)
  case atStart => exact ⟨0, xs, Nat.zero_le _, rfl, rfl, by omega, h, Below.refl _ _⟩
  case round =>
    obtain ⟨k, zs, hk, rfl, HE, hzl, ho, hb⟩ := hrel
    have hsz := hb.size
    by_cases hlt : k < N
    · obtain ⟨n, hnk⟩ : ∃ n, ns[k]? = some n := ⟨ns[k]'(by rw [HN.out]; exact hlt), by simp⟩
      have HD : Hid (ns.drop k = n :: ns.drop (k + 1)) := by
        obtain ⟨hk', rfl⟩ := List.getElem?_eq_some_iff.1 hnk
        exact List.drop_eq_getElem_cons hk'
      have hcell := HC.out wr hb k n hnk
      have HNX : Hid ((zs ++ num n) ++ numsB (ns.drop (k + 1)) = xs ++ numsB ns) := by
        show _ = _; rw [← HE.out, HD.out, numsB_cons, List.append_assoc]
      have hlt' : (k : Int) < (N : Int) := by omega
      have hcb := clampN_bd n
      clear hnk HD HE h
      go_wp2_with (go_at_call 56; refine (near_any _ _).mono ?_; rintro e w' ⟨rfl, rfl⟩)
      obtain ⟨m0, hm0⟩ : ∃ m0 : Nat, clampN n = (m0 : Int) := ⟨(clampN n).toNat, by omega⟩
      have HM : Hid (num n = enc m0) := by show num n = enc m0; unfold num; rw [hm0]; rfl
      have hm0b : m0 ≤ 1000000000 := by omega
      have hnl := num_len n
      rw [hm0]
      clear hcb hcell hm0
      go_loopw [0, 6] (fun b nn wr => ∃ (m : Nat) (ys : List Int), m ≤ 1000000000 ∧ nn = .int .i64 m ∧ Hid (ys ++ enc m = zs ++ num n) ∧ Own wr lo wr.heap.size 5 b (bs ys) ∧ Below lo w wr) (fun _ nn _ => (intOf nn).toNat)
      case atStart => exact ⟨m0, zs, hm0b, rfl, by show _ = _; rw [HM.out], ho, hb⟩
      case round =>
        obtain ⟨m, ys, hm, rfl, HE, ho, hb⟩ := hrel
        have hyl : ys.length ≤ zs.length + 5 := by have := congrArg List.length HE.out; simp at this; omega
        have hsz := hb.size
        clear HM
        by_cases hl8 : 128 ≤ m
        · have HS : Hid ((ys ++ [((m % 128 + 128 : Nat) : Int)]) ++ enc (m / 128) = zs ++ num n) := by
            show _ = _; rw [← HE.out, enc_step (show ¬ m < 128 by omega), List.append_assoc]; rfl
          have c2 : (bs ys).length + 1 ≤ maxLen := by rw [bs_len]; unfold maxLen; omega
          have c3 : ((bs ys).length + 1) * 1 ≤ 140737488355328 := by rw [bs_len]; omega
          have c4 : ∀ o, lo ≤ (wr.alloc o).heap.size := fun o => by simp; omega
          go_wp2_with (at_builtin; go_must (refine wpl_app _ rfl (.tmp 17) (.tmp 22) 22 rfl 5 i0 (.int .u8 0) 1 Try.underlying22 hi hz0 hz1 hz2 rfl lo _ (bs ys) rfl (ho.alloc _) _ rfl [.int .u8 ((m : Int) % 128 + 128)] (Sl.one _ _ _) (one_byte _) c2 c3 (c4 _) ?_); intro v1 w1 ho1 hb1 hg1)
          have hb2 : Below lo w w1 := (hb.alloc (by omega) _).trans hb1
          have ho2 : Own w1 lo w1.heap.size 5 v1 (bs (ys ++ [((m % 128 + 128 : Nat) : Int)])) := by rw [bs_app]; exact ho1
          go_roundw
          case rel => exact ⟨m / 128, ys ++ [((m % 128 + 128 : Nat) : Int)], by omega, by go_num, HS, ho2, hb2⟩
          case measure => simp [intOf]; omega
        · have c2 : (bs ys).length + 1 ≤ maxLen := by rw [bs_len]; unfold maxLen; omega
          have c3 : ((bs ys).length + 1) * 1 ≤ 140737488355328 := by rw [bs_len]; omega
          have c4 : ∀ o, lo ≤ (wr.alloc o).heap.size := fun o => by simp; omega
          have HS : Hid (ys ++ [(m : Int)] = zs ++ num n) := by show _ = _; rw [← HE.out, enc_small (show m < 128 by omega)]
          go_wp2_with (at_builtin; go_must (refine wpl_app _ rfl (.tmp 26) (.tmp 29) 22 rfl 5 i0 (.int .u8 0) 1 Try.underlying22 hi hz0 hz1 hz2 rfl lo _ (bs ys) rfl (ho.alloc _) _ rfl [.int .u8 (m : Int)] (Sl.one _ _ _) (one_byte _) c2 c3 (c4 _) ?_); intro v1 w1 ho1 hb1 hg1)
          have hb2 : Below lo w w1 := (hb.alloc (by omega) _).trans hb1
          have ho2 : Own w1 lo w1.heap.size 5 v1 (bs (zs ++ num n)) := by rw [← HS.out, bs_app]; exact ho1
          have hzn : (zs ++ num n).length ≤ xs.length + 5 * (k + 1) := by rw [List.length_append]; omega
          go_roundw
          case rel => exact ⟨k + 1, zs ++ num n, by omega, by go_num, HNX, hzn, ho2, hb2⟩
          case measure => simp [intOf]; omega
    · have hlt' : ¬ (k : Int) < (N : Int) := by omega
      go_wp2
      go_ret
      have h1 := HE.out
      rw [List.drop_eq_nil_of_le (by rw [HN.out]; omega)] at h1
      have h2 : numsB [] = [] := rfl
      rw [h2, List.append_nil] at h1
      rw [h1] at ho
      exact ⟨_, rfl, ho, hb⟩

end Go.Proofs.Yteemblfjghnooaa.Puts

/- Numbers and texts put onto a row that the caller owns: every row of another type stays. -/
namespace Go.Proofs.Yteemblfjghnooaa.Puts
open Go.RowKit Go.Proofs.Yteemblfjghnooaa.Mem Go.Proofs.Yteemblfjghnooaa.Plain Go.Proofs.Yteemblfjghnooaa.Laws Go.Proofs.Yteemblfjghnooaa.Bytes
set_option linter.unusedVariables false
set_option linter.unusedSimpArgs false

/-- rows that are not of bytes stay -/
def Kr (w w' : World) : Prop := ∀ (g : Nat) (cs : Array Value) (t : TypeId) (fr : Nat × Nat), t ≠ 5 → w.heap[g]? = some (.cells cs t fr) → w'.heap[g]? = some (.cells cs t fr)
theorem Kr.refl (w : World) : Kr w w := fun _ _ _ _ _ h => h
theorem Kr.trans {a b c : World} (h : Kr a b) (k : Kr b c) : Kr a c := fun g cs t fr ht hg => k g cs t fr ht (h g cs t fr ht hg)
theorem Kr.alloc (w : World) (o : Obj) : Kr w (w.alloc o) := fun g cs t fr _ hg => (heap_alloc_old w o (Array.getElem?_eq_some_iff.1 hg).1).trans hg
theorem Kr.gro {w w' : World} {lo hi : Nat} {v : Value} {cs : List Value} (h : Own w lo hi 5 v cs) (g : w.grownBy w' v.ownBlock) : Kr w w' := fun k c t fr ht hk => rowGro hk g (Own.neRow h hk ht)
theorem Kr.later {w w' : World} (h : Below w.heap.size w w') : Kr w w' := fun g cs t fr _ hg => (h.block g (Array.getElem?_eq_some_iff.1 hg).1).trans hg
theorem new_row (w : World) (u : Value) (t : TypeId) : (w.alloc (.cells #[u] t)).heap[w.heap.size]? = some (.cells #[u] t (0, 0)) := heap_alloc_new w _
theorem row_cell {w : World} {g : Nat} {u : Value} {t : TypeId} (h : w.heap[g]? = some (.cells #[u] t (0, 0))) : w.cell? ⟨g, 0, none⟩ = some u := by
  simp [World.cell?, h]

set_option maxRecDepth 1000000 in
set_option maxHeartbeats 2000000 in
theorem nums_keep (w : World) (lo : Nat) (v : Value) (xs : List Int) (g off cap : Nat) (ns : List Int) (h : Own w lo w.heap.size 5 v (bs xs)) (hlo : lo ≤ w.heap.size) (hx : xs.length ≤ 70368744177664) (hn : ns.length ≤ 1000)
    (hcell : ∀ w', Kr w w' → ∀ (j : Nat) (n : Int), ns[j]? = some n → w'.cell? ⟨g, off + j, none⟩ = some (.int .i64 n)) :
    Calls Try.prog 28 #[v, .slice (some ⟨g, off, none⟩) ns.length cap] w fun e w' => ∃ v', e = .returned v' ∧ Own w' lo w'.heap.size 5 v' (bs (xs ++ numsB ns)) ∧ Below lo w w' ∧ Kr w w' := by
  obtain ⟨i0, hi, hz0, hz1, hz2⟩ := info_parts info5
  have HC : Hid (∀ w', Kr w w' → ∀ (j : Nat) (n : Int), ns[j]? = some n → w'.cell? ⟨g, off + j, none⟩ = some (.int .i64 n)) := hcell
  obtain ⟨N, hN⟩ : ∃ N, ns.length = N := ⟨_, rfl⟩
  have HN : Hid (ns.length = N) := hN
  rw [hN] at hn ⊢
  clear hcell hN
  go_enter Try.func28, Try.ntmps28
  go_wp2
  go_loopw [0, 9] (fun b i wr => ∃ (k : Nat) (zs : List Int), k ≤ N ∧ i = .int .i64 (k : Int) ∧ Hid (zs ++ numsB (ns.drop k) = xs ++ numsB ns) ∧ zs.length ≤ xs.length + 5 * k ∧ Own wr lo wr.heap.size 5 b (bs zs) ∧ Below lo w wr ∧ Kr w wr) (fun _ i _ => N - (intOf i).toNat)
  case atStart => exact ⟨0, xs, Nat.zero_le _, rfl, rfl, by omega, h, Below.refl _ _, Kr.refl _⟩
  case round =>
    obtain ⟨k, zs, hk, rfl, HE, hzl, ho, hb, hkr⟩ := hrel
    have hkr : Hid (Kr w wr) := hkr
    have hsz := hb.size
    by_cases hlt : k < N
    · obtain ⟨n, hnk⟩ : ∃ n, ns[k]? = some n := ⟨ns[k]'(by rw [HN.out]; exact hlt), by simp⟩
      have HD : Hid (ns.drop k = n :: ns.drop (k + 1)) := by
        obtain ⟨hk', rfl⟩ := List.getElem?_eq_some_iff.1 hnk
        exact List.drop_eq_getElem_cons hk'
      have hcell := HC.out wr hkr.out k n hnk
      have HNX : Hid ((zs ++ num n) ++ numsB (ns.drop (k + 1)) = xs ++ numsB ns) := by
        show _ = _; rw [← HE.out, HD.out, numsB_cons, List.append_assoc]
      have hlt' : (k : Int) < (N : Int) := by omega
      have hcb := clampN_bd n
      clear hnk HD HE h
      go_wp2_with (go_at_call 56; refine (near_any _ _).mono ?_; rintro e w' ⟨rfl, rfl⟩)
      obtain ⟨m0, hm0⟩ : ∃ m0 : Nat, clampN n = (m0 : Int) := ⟨(clampN n).toNat, by omega⟩
      have HM : Hid (num n = enc m0) := by show num n = enc m0; unfold num; rw [hm0]; rfl
      have hm0b : m0 ≤ 1000000000 := by omega
      have hnl := num_len n
      rw [hm0]
      clear hcb hcell hm0
      go_loopw [0, 6] (fun b nn wr => ∃ (m : Nat) (ys : List Int), m ≤ 1000000000 ∧ nn = .int .i64 m ∧ Hid (ys ++ enc m = zs ++ num n) ∧ Own wr lo wr.heap.size 5 b (bs ys) ∧ Below lo w wr ∧ Kr w wr) (fun _ nn _ => (intOf nn).toNat)
      case atStart => exact ⟨m0, zs, hm0b, rfl, by show _ = _; rw [HM.out], ho, hb, hkr.out⟩
      case round =>
        obtain ⟨m, ys, hm, rfl, HE, ho, hb, hkr0⟩ := hrel
        clear hkr
        have hkr : Hid (Kr w wr) := hkr0
        clear hkr0
        have hyl : ys.length ≤ zs.length + 5 := by have := congrArg List.length HE.out; simp at this; omega
        have hsz := hb.size
        clear HM
        by_cases hl8 : 128 ≤ m
        · have HS : Hid ((ys ++ [((m % 128 + 128 : Nat) : Int)]) ++ enc (m / 128) = zs ++ num n) := by
            show _ = _; rw [← HE.out, enc_step (show ¬ m < 128 by omega), List.append_assoc]; rfl
          have c2 : (bs ys).length + 1 ≤ maxLen := by rw [bs_len]; unfold maxLen; omega
          have c3 : ((bs ys).length + 1) * 1 ≤ 140737488355328 := by rw [bs_len]; omega
          have c4 : ∀ o, lo ≤ (wr.alloc o).heap.size := fun o => by simp; omega
          go_wp2_with (at_builtin; go_must (refine wpl_app _ rfl (.tmp 17) (.tmp 22) 22 rfl 5 i0 (.int .u8 0) 1 Try.underlying22 hi hz0 hz1 hz2 rfl lo _ (bs ys) rfl (ho.alloc _) _ rfl [.int .u8 ((m : Int) % 128 + 128)] (Sl.one _ _ _) (one_byte _) c2 c3 (c4 _) ?_); intro v1 w1 ho1 hb1 hg1)
          have hb2 : Below lo w w1 := (hb.alloc (by omega) _).trans hb1
          have hkr2 : Hid (Kr w w1) := (hkr.out.trans (Kr.alloc _ _)).trans (Kr.gro (ho.alloc _) hg1)
          have ho2 : Own w1 lo w1.heap.size 5 v1 (bs (ys ++ [((m % 128 + 128 : Nat) : Int)])) := by rw [bs_app]; exact ho1
          go_roundw
          case rel => exact ⟨m / 128, ys ++ [((m % 128 + 128 : Nat) : Int)], by omega, by go_num, HS, ho2, hb2, hkr2.out⟩
          case measure => simp [intOf]; omega
        · have c2 : (bs ys).length + 1 ≤ maxLen := by rw [bs_len]; unfold maxLen; omega
          have c3 : ((bs ys).length + 1) * 1 ≤ 140737488355328 := by rw [bs_len]; omega
          have c4 : ∀ o, lo ≤ (wr.alloc o).heap.size := fun o => by simp; omega
          have HS : Hid (ys ++ [(m : Int)] = zs ++ num n) := by show _ = _; rw [← HE.out, enc_small (show m < 128 by omega)]
          go_wp2_with (at_builtin; go_must (refine wpl_app _ rfl (.tmp 26) (.tmp 29) 22 rfl 5 i0 (.int .u8 0) 1 Try.underlying22 hi hz0 hz1 hz2 rfl lo _ (bs ys) rfl (ho.alloc _) _ rfl [.int .u8 (m : Int)] (Sl.one _ _ _) (one_byte _) c2 c3 (c4 _) ?_); intro v1 w1 ho1 hb1 hg1)
          have hb2 : Below lo w w1 := (hb.alloc (by omega) _).trans hb1
          have hkr2 : Hid (Kr w w1) := (hkr.out.trans (Kr.alloc _ _)).trans (Kr.gro (ho.alloc _) hg1)
          have ho2 : Own w1 lo w1.heap.size 5 v1 (bs (zs ++ num n)) := by rw [← HS.out, bs_app]; exact ho1
          have hzn : (zs ++ num n).length ≤ xs.length + 5 * (k + 1) := by rw [List.length_append]; omega
          go_roundw
          case rel => exact ⟨k + 1, zs ++ num n, by omega, by go_num, HNX, hzn, ho2, hb2, hkr2.out⟩
          case measure => simp [intOf]; omega
    · have hlt' : ¬ (k : Int) < (N : Int) := by omega
      go_wp2
      go_ret
      have h1 := HE.out
      rw [List.drop_eq_nil_of_le (by rw [HN.out]; omega)] at h1
      have h2 : numsB [] = [] := rfl
      rw [h2, List.append_nil] at h1
      rw [h1] at ho
      exact ⟨_, rfl, ho, hb, hkr.out⟩

/-- one number -/
theorem nums_keep1 (w : World) (lo : Nat) (v : Value) (xs : List Int) (g : Nat) (n : Int) (h : Own w lo w.heap.size 5 v (bs xs)) (hg : g < w.heap.size) (hlo : lo ≤ w.heap.size) (hx : xs.length ≤ 70368744177664)
    (hrow : w.heap[g]? = some (.cells #[.int .i64 n] 3 (0, 0))) :
    Calls Try.prog 28 #[v, .slice (some ⟨g, 0, none⟩) 1 1] w fun e w' => ∃ v', e = .returned v' ∧ Own w' lo w'.heap.size 5 v' (bs (xs ++ num n)) ∧ Below lo w w' ∧ Kr w w' := by
  refine (nums_keep w lo v xs g 0 1 [n] h hlo hx (by simp) ?_).mono ?_
  · intro w' hk j m hj
    cases j with
    | zero => simp at hj; subst hj; exact row_cell (hk g _ _ _ (by decide) hrow)
    | succ j => simp at hj
  · rintro e w' ⟨v', rfl, ho, hb, hk⟩
    have e9 : numsB [n] = num n := by simp [numsB]
    rw [e9] at ho
    exact ⟨v', rfl, ho, hb, hk⟩

set_option maxRecDepth 1000000 in
set_option maxHeartbeats 1000000 in
/-- addTexts, onto a row that the caller owns; the texts lie ahead of it, or there is one of them alone. -/
theorem texts_keep (w : World) (lo : Nat) (v : Value) (xs : List Int) (vt : Value) (l : List ByteArray) (h : Own w lo w.heap.size 5 v (bs xs)) (hlo : lo ≤ w.heap.size) (ht : Sl w vt (ss l)) (hkeep : ∀ w', Below lo w w' → 1 < l.length → Sl w' vt (ss l))
    (hx : xs.length + (txs l).length ≤ 35184372088832) (hl : l.length ≤ 35184372088832) :
    Calls Try.prog 30 #[v, vt] w fun e w' => ∃ v', e = .returned v' ∧ Own w' lo w'.heap.size 5 v' (bs (xs ++ txs l)) ∧ Below lo w w' ∧ Kr w w' := by
  obtain ⟨i0, hi, hz0, hz1, hz2⟩ := info_parts info5
  obtain ⟨ao, cap, rfl, hc, hn, hr⟩ := ht
  rw [ss_len] at hr hc hkeep
  rw [ss_len]
  go_enter Try.func30, Try.ntmps30
  go_wp2
  go_loopw [0, 9] (fun b i wr => ∃ (k : Nat) (ys : List Int), k ≤ l.length ∧ i = .int .i64 k ∧ ys ++ txs (l.drop k) = xs ++ txs l ∧ Own wr lo wr.heap.size 5 b (bs ys) ∧ Below lo w wr ∧ Kr w wr ∧ (k = 0 → wr = w)) (fun _ i _ => l.length - (intOf i).toNat)
  case atStart => exact ⟨0, xs, Nat.zero_le _, rfl, rfl, h, Below.refl _ _, Kr.refl _, fun _ => rfl⟩
  case round =>
    obtain ⟨k, ys, hk, rfl, hE0, ho, hb, hkr0, hfirst⟩ := hrel
    have hkr : Hid (Kr w wr) := hkr0
    clear hkr0
    have HE : Hid (ys ++ txs (l.drop k) = xs ++ txs l) := hE0
    have hsz := hb.size
    by_cases hlt : k < l.length
    · obtain ⟨s, hs0⟩ : ∃ s, l[k]? = some s := ⟨l[k], by simp⟩
      have HD : Hid (l.drop k = s :: l.drop (k + 1)) := by
        obtain ⟨hk', rfl⟩ := List.getElem?_eq_some_iff.1 hs0
        exact List.drop_eq_getElem_cons hk'
      have hlen : ys.length + (tx s).length ≤ 35184372088832 := by
        have h1 := congrArg List.length HE.out
        rw [HD.out] at h1
        simp only [txs, List.length_append] at h1
        omega
      have htl : s.size ≤ (tx s).length := by unfold tx; rw [List.length_append, sb_len]; omega
      have hnl := num_len (s.size : Int)
      have hcl : ∃ b off, ao = some ⟨b, off, none⟩ ∧ wr.cell? ⟨b, off + k, none⟩ = some (.string s) := by
        have key : ∀ w0 : World, (0 < l.length → ∃ b off, ao = some ⟨b, off, none⟩ ∧ ∀ j, j < l.length → w0.cell? ⟨b, off + j, none⟩ = (ss l)[j]?) → ∃ b off, ao = some ⟨b, off, none⟩ ∧ w0.cell? ⟨b, off + k, none⟩ = some (.string s) := by
          intro w0 hq
          obtain ⟨b, off, he, hc⟩ := hq (by omega)
          exact ⟨b, off, he, by rw [hc k hlt]; simp [ss, hs0]⟩
        by_cases h0 : k = 0
        · rw [hfirst h0]; exact key w hr
        · obtain ⟨ao', cap', he, _, _, hr'⟩ := hkeep wr hb (by omega)
          rw [ss_len] at he hr'
          simp only [Value.slice.injEq] at he
          obtain ⟨rfl, _, rfl⟩ := he
          exact key wr hr'
      obtain ⟨b, off, rfl, hcell⟩ := hcl
      have HN : Hid ((ys ++ tx s) ++ txs (l.drop (k + 1)) = xs ++ txs l) := by
        show _ = _; rw [← HE.out, HD.out, List.append_assoc]; rfl
      clear hs0 HD hE0 HE hr hkeep hfirst h
      have hss : (s.size : Int) ≤ 35184372088832 := by omega
      go_wp2_with fail
      refine (nums_keep1 _ lo _ ys wr.heap.size (s.size : Int) (ho.alloc _) (by simp) (by simp; omega) (by omega) (new_row _ _ _)).mono ?_
      rintro e w1 ⟨v1, rfl, ho1, hb1, hk1⟩
      have hkr1 : Hid (Kr w w1) := (hkr.out.trans (Kr.alloc _ _)).trans hk1
      clear hk1
      have hb1' : Below lo w w1 := (hb.alloc (by omega) _).trans hb1
      have hsz1 : lo ≤ w1.heap.size := by have := hb1'.size; omega
      have c1 : (ys ++ num (s.size : Int)).length + s.size ≤ 140737488355328 := by rw [List.length_append]; omega
      go_wp2_with (at_builtin; go_must (refine wpl_strG _ rfl (.tmp 17) (.tmp 18) 22 9 rfl 5 i0 Try.underlying22 Try.underlying9 hi hz0 hz1 hz2 lo _ _ rfl ho1 s rfl c1 hsz1 ?_); intro v2 w2 ho2 hg2)
      have hb2 : Below lo w1 w2 := belowGro (Below.refl _ _) hg2 hsz1 (Own.low ho1 (Nat.le_refl _))
      have hkr2 : Hid (Kr w w2) := hkr1.out.trans (Kr.gro ho1 hg2)
      clear hg2 hkr1
      rw [List.append_assoc] at ho2
      have hb3 : Below lo w w2 := hb1'.trans hb2
      go_roundw
      case rel => exact ⟨k + 1, ys ++ tx s, by omega, by go_num, HN.out, ho2, hb3, hkr2.out, fun h => by omega⟩
      case measure => simp [intOf]; omega
    · go_wp2
      go_ret
      have h1 := HE.out
      rw [List.drop_eq_nil_of_le (by omega)] at h1
      simp only [txs, List.append_nil] at h1
      rw [h1] at ho
      exact ⟨_, rfl, ho, hb, hkr.out⟩

end Go.Proofs.Yteemblfjghnooaa.Puts
