/- Texts in one: WdA, WdB, MjA. -/
import Derived.Test.YtchonoonclllbaaGreatDoorPf27
namespace Go.Proofs.YtchonoonclllbaaGreatDoor.Wd
open Go.Proofs.YtchonoonclllbaaGreatDoor.Mg
open Go.RowKit Go.Proofs.YtchonoonclllbaaGreatDoor.Mem Go.Proofs.YtchonoonclllbaaGreatDoor.Laws Go.Proofs.YtchonoonclllbaaGreatDoor.Bytes Go.Proofs.YtchonoonclllbaaGreatDoor.Sha Go.Proofs.YtchonoonclllbaaGreatDoor.Tr Go.Proofs.YtchonoonclllbaaGreatDoor.He
set_option linter.unusedVariables false
set_option linter.unusedSimpArgs false
theorem zero_h : (Tryz.prog.info? 123).map (·.zero) = some (some (.agg #[.int .i64 0, .string ⟨#[]⟩])) := by kernel_rfl
theorem zero_a : (Tryz.prog.info? 125).map (·.zero) = some (some (.agg #[.int .i64 0, .string ⟨#[]⟩, .int .i64 0])) := by kernel_rfl
theorem zero_t : (Tryz.prog.info? 127).map (·.zero) = some (some (.agg #[.int .i64 0, .string ⟨#[]⟩, .int .i64 0, .slice none 0 0])) := by kernel_rfl
theorem ta_hh (w : World) (v : Value) : (Instr.typeAssert (.iface 123 v) 86 123 true).run Tryz.prog w = .ok (.tuple #[v, .bool true]) w := by
 simp [Instr.typeAssert, run_underlying Tryz.underlying123, go_sem]
theorem ta_ah (w : World) (v : Value) : (Instr.typeAssert (.iface 125 v) 86 123 true).run Tryz.prog w = .ok (.tuple #[.agg #[.int .i64 0, .string ⟨#[]⟩], .bool false]) w := by
 obtain ⟨i, hi, hz⟩ := Option.map_eq_some_iff.1 zero_h
 simp [Instr.typeAssert, run_underlying Tryz.underlying123, zeroValue, typeInfo, hi, hz, go_sem]
theorem ta_th (w : World) (v : Value) : (Instr.typeAssert (.iface 127 v) 86 123 true).run Tryz.prog w = .ok (.tuple #[.agg #[.int .i64 0, .string ⟨#[]⟩], .bool false]) w := by
 obtain ⟨i, hi, hz⟩ := Option.map_eq_some_iff.1 zero_h
 simp [Instr.typeAssert, run_underlying Tryz.underlying123, zeroValue, typeInfo, hi, hz, go_sem]
theorem ta_aa (w : World) (v : Value) : (Instr.typeAssert (.iface 125 v) 86 125 true).run Tryz.prog w = .ok (.tuple #[v, .bool true]) w := by
 simp [Instr.typeAssert, run_underlying Tryz.underlying125, go_sem]
theorem ta_ha (w : World) (v : Value) : (Instr.typeAssert (.iface 123 v) 86 125 true).run Tryz.prog w = .ok (.tuple #[.agg #[.int .i64 0, .string ⟨#[]⟩, .int .i64 0], .bool false]) w := by
 obtain ⟨i, hi, hz⟩ := Option.map_eq_some_iff.1 zero_a
 simp [Instr.typeAssert, run_underlying Tryz.underlying125, zeroValue, typeInfo, hi, hz, go_sem]
theorem ta_ta (w : World) (v : Value) : (Instr.typeAssert (.iface 127 v) 86 125 true).run Tryz.prog w = .ok (.tuple #[.agg #[.int .i64 0, .string ⟨#[]⟩, .int .i64 0], .bool false]) w := by
 obtain ⟨i, hi, hz⟩ := Option.map_eq_some_iff.1 zero_a
 simp [Instr.typeAssert, run_underlying Tryz.underlying125, zeroValue, typeInfo, hi, hz, go_sem]
theorem ta_tt (w : World) (v : Value) : (Instr.typeAssert (.iface 127 v) 86 127 true).run Tryz.prog w = .ok (.tuple #[v, .bool true]) w := by
 simp [Instr.typeAssert, run_underlying Tryz.underlying127, go_sem]
theorem ta_ht (w : World) (v : Value) : (Instr.typeAssert (.iface 123 v) 86 127 true).run Tryz.prog w = .ok (.tuple #[.agg #[.int .i64 0, .string ⟨#[]⟩, .int .i64 0, .slice none 0 0], .bool false]) w := by
 obtain ⟨i, hi, hz⟩ := Option.map_eq_some_iff.1 zero_t
 simp [Instr.typeAssert, run_underlying Tryz.underlying127, zeroValue, typeInfo, hi, hz, go_sem]
theorem ta_at (w : World) (v : Value) : (Instr.typeAssert (.iface 125 v) 86 127 true).run Tryz.prog w = .ok (.tuple #[.agg #[.int .i64 0, .string ⟨#[]⟩, .int .i64 0, .slice none 0 0], .bool false]) w := by
 obtain ⟨i, hi, hz⟩ := Option.map_eq_some_iff.1 zero_t
 simp [Instr.typeAssert, run_underlying Tryz.underlying127, zeroValue, typeInfo, hi, hz, go_sem]
set_option maxRecDepth 1000000 in
set_option maxHeartbeats 4000000 in
theorem word1 (w : World) (f t : Int) (h : Hd) (ao0 : Option Addr) (cap0 : Nat) :
  Calls Tryz.prog 55 #[.agg #[.int .i64 1, .int .i64 f, .int .i64 t, .int .i64 h.n, .string h.r, .int .i64 0, .slice ao0 0 cap0]] w fun e w' => e = .returned (.iface 123 (.agg #[.int .i64 h.n, .string h.r])) ∧ Below w.heap.size w w' := by
 have B0 : Hid (Below w.heap.size w w) := Below.refl _ _
 obtain ⟨W1, HW1, b1, y1, hS1, r_a1⟩ := Ke.l1 w #[.int .i64 1, .int .i64 f, .int .i64 t, .int .i64 h.n, .string h.r, .int .i64 0, .slice ao0 0 cap0] 35
 have z1 := b1.size
 have B1 := Ke.b B0 b1
 have c_a1 := Ke.c r_a1
 go_enter Tryz.func55, Tryz.ntmps55
 go_wp2
 go_ret
 exact ⟨rfl, by rw [HW1.out]; exact B1.out⟩
set_option maxRecDepth 1000000 in
set_option maxHeartbeats 4000000 in
theorem word2 (w : World) (f t n : Int) (h : Hd) (ao0 : Option Addr) (cap0 : Nat) :
  Calls Tryz.prog 55 #[.agg #[.int .i64 2, .int .i64 f, .int .i64 t, .int .i64 h.n, .string h.r, .int .i64 n, .slice ao0 0 cap0]] w fun e w' => e = .returned (.iface 125 (.agg #[.int .i64 h.n, .string h.r, .int .i64 n])) ∧ Below w.heap.size w w' := by
 have B0 : Hid (Below w.heap.size w w) := Below.refl _ _
 obtain ⟨W1, HW1, b1, y1, hS1, r_a1⟩ := Ke.l1 w #[.int .i64 2, .int .i64 f, .int .i64 t, .int .i64 h.n, .string h.r, .int .i64 n, .slice ao0 0 cap0] 35
 have z1 := b1.size
 have B1 := Ke.b B0 b1
 have c_a1 := Ke.c r_a1
 go_enter Tryz.func55, Tryz.ntmps55
 go_wp2
 go_ret
 exact ⟨rfl, by rw [HW1.out]; exact B1.out⟩
set_option maxRecDepth 1000000 in
set_option maxHeartbeats 4000000 in
theorem word3 (w : World) (f t n : Int) (h : Hd) (ao0 : Option Addr) (L cap0 : Nat) :
  Calls Tryz.prog 55 #[.agg #[.int .i64 3, .int .i64 f, .int .i64 t, .int .i64 h.n, .string h.r, .int .i64 n, .slice ao0 L cap0]] w fun e w' => e = .returned (.iface 127 (.agg #[.int .i64 h.n, .string h.r, .int .i64 n, .slice ao0 L cap0])) ∧ Below w.heap.size w w' := by
 have B0 : Hid (Below w.heap.size w w) := Below.refl _ _
 obtain ⟨W1, HW1, b1, y1, hS1, r_a1⟩ := Ke.l1 w #[.int .i64 3, .int .i64 f, .int .i64 t, .int .i64 h.n, .string h.r, .int .i64 n, .slice ao0 L cap0] 35
 have z1 := b1.size
 have B1 := Ke.b B0 b1
 have c_a1 := Ke.c r_a1
 go_enter Tryz.func55, Tryz.ntmps55
 go_wp2
 go_ret
 exact ⟨rfl, by rw [HW1.out]; exact B1.out⟩
set_option maxRecDepth 1000000 in
set_option maxHeartbeats 4000000 in
theorem word0 (w : World) (k f t n : Int) (h : Hd) (ao0 : Option Addr) (L cap0 : Nat) (k1 : ¬ (k = 1 ∧ n = 0 ∧ L = 0)) (k2 : ¬ (k = 2 ∧ L = 0)) (k3 : ¬ k = 3) :
  Calls Tryz.prog 55 #[.agg #[.int .i64 k, .int .i64 f, .int .i64 t, .int .i64 h.n, .string h.r, .int .i64 n, .slice ao0 L cap0]] w fun e w' => e = .returned (.nilIface) ∧ Below w.heap.size w w' := by
 have B0 : Hid (Below w.heap.size w w) := Below.refl _ _
 have b3 : (k == 3) = false := by rw [beq_eq_false_iff_ne]; exact k3
 by_cases e1 : k = 1
 ·
  subst e1
  by_cases e0 : n = 0
  ·
   subst e0
   have lz : ¬ L = 0 := fun q => k1 ⟨rfl, rfl, q⟩
   have l1 : ¬ (L : Int) = 0 := by omega
   have l2 : ((L : Int) == 0) = false := by rw [beq_eq_false_iff_ne]; exact l1
   obtain ⟨W1, HW1, b1, y1, hS1, r_a1⟩ := Ke.l1 w #[.int .i64 1, .int .i64 f, .int .i64 t, .int .i64 h.n, .string h.r, .int .i64 0, .slice ao0 L cap0] 35
   have z1 := b1.size
   have B1 := Ke.b B0 b1
   have c_a1 := Ke.c r_a1
   go_enter Tryz.func55, Tryz.ntmps55
   go_wp2
   go_ret
   exact ⟨rfl, by rw [HW1.out]; exact B1.out⟩
  ·
   have nb : (n == 0) = false := by rw [beq_eq_false_iff_ne]; exact e0
   obtain ⟨W1, HW1, b1, y1, hS1, r_a1⟩ := Ke.l1 w #[.int .i64 1, .int .i64 f, .int .i64 t, .int .i64 h.n, .string h.r, .int .i64 n, .slice ao0 L cap0] 35
   have z1 := b1.size
   have B1 := Ke.b B0 b1
   have c_a1 := Ke.c r_a1
   go_enter Tryz.func55, Tryz.ntmps55
   go_wp2
   go_ret
   exact ⟨rfl, by rw [HW1.out]; exact B1.out⟩
 ·
  have b1 : (k == 1) = false := by rw [beq_eq_false_iff_ne]; exact e1
  by_cases e2 : k = 2
  ·
   subst e2
   have lz : ¬ L = 0 := fun q => k2 ⟨rfl, q⟩
   have l1 : ¬ (L : Int) = 0 := by omega
   have l2 : ((L : Int) == 0) = false := by rw [beq_eq_false_iff_ne]; exact l1
   obtain ⟨W1, HW1, b1, y1, hS1, r_a1⟩ := Ke.l1 w #[.int .i64 2, .int .i64 f, .int .i64 t, .int .i64 h.n, .string h.r, .int .i64 n, .slice ao0 L cap0] 35
   have z1 := b1.size
   have B1 := Ke.b B0 b1
   have c_a1 := Ke.c r_a1
   go_enter Tryz.func55, Tryz.ntmps55
   go_wp2
   go_ret
   exact ⟨rfl, by rw [HW1.out]; exact B1.out⟩
  ·
   have b2 : (k == 2) = false := by rw [beq_eq_false_iff_ne]; exact e2
   obtain ⟨W1, HW1, b1, y1, hS1, r_a1⟩ := Ke.l1 w #[.int .i64 k, .int .i64 f, .int .i64 t, .int .i64 h.n, .string h.r, .int .i64 n, .slice ao0 L cap0] 35
   have z1 := b1.size
   have B1 := Ke.b B0 b1
   have c_a1 := Ke.c r_a1
   go_enter Tryz.func55, Tryz.ntmps55
   go_wp2
   go_ret
   exact ⟨rfl, by rw [HW1.out]; exact B1.out⟩
set_option maxRecDepth 1000000 in
set_option maxHeartbeats 4000000 in
theorem mirror_impl (w : World) (n : Int) : Calls Tryz.prog 52 #[.int .i64 n] w fun e w' => e = .returned (.bool (decide (0 ≤ n ∧ n ≤ 20))) ∧ w = w' := by
 by_cases h0 : 0 ≤ n
 ·
  by_cases h1 : n ≤ 20
  ·
   rw [decide_eq_true (show 0 ≤ n ∧ n ≤ 20 from ⟨h0, h1⟩)]
   have d0 : decide (0 ≤ n) = true := decide_eq_true h0
   have d1 : decide (n ≤ 20) = true := decide_eq_true h1
   go_enter Tryz.func52, Tryz.ntmps52
   go_wp2
   go_ret
   exact ⟨rfl, rfl⟩
  ·
   rw [decide_eq_false (show ¬ (0 ≤ n ∧ n ≤ 20) from fun q => h1 q.2)]
   have d0 : decide (0 ≤ n) = true := decide_eq_true h0
   have d1 : decide (n ≤ 20) = false := decide_eq_false h1
   go_enter Tryz.func52, Tryz.ntmps52
   go_wp2
   go_ret
   exact ⟨rfl, rfl⟩
 ·
  rw [decide_eq_false (show ¬ (0 ≤ n ∧ n ≤ 20) from fun q => h0 q.1)]
  have d0 : decide (0 ≤ n) = false := decide_eq_false h0
  go_enter Tryz.func52, Tryz.ntmps52
  go_wp2
  go_ret
  exact ⟨rfl, rfl⟩
set_option maxRecDepth 1000000 in
set_option maxHeartbeats 4000000 in
theorem place_impl (w : World) (h : Hd) (n : Int) : Calls Tryz.prog 98 #[.agg #[.int .i64 h.n, .string h.r], .int .i64 n] w fun e w' => e = .returned (.bool (decide (0 ≤ n ∧ n < h.n))) ∧ Below w.heap.size w w' := by
 have HB : Hid (Below w.heap.size w (w.alloc (.cells #[.int .i64 h.n, .string h.r] 26))) := (Below.refl _ _).alloc (Nat.le_refl _) _
 by_cases h0 : 0 ≤ n
 ·
  have d0 : decide (0 ≤ n) = true := decide_eq_true h0
  by_cases h1 : n < h.n
  ·
   have HN : Hid (decide (0 ≤ n ∧ n < h.n) = true) := decide_eq_true ⟨h0, h1⟩
   have d1 : decide (n < h.n) = true := decide_eq_true h1
   rw [HN.out]
   go_enter Tryz.func98, Tryz.ntmps98
   go_wp2
   go_ret
   exact ⟨rfl, HB.out⟩
  ·
   have HN : Hid (decide (0 ≤ n ∧ n < h.n) = false) := decide_eq_false (fun q => h1 q.2)
   have d1 : decide (n < h.n) = false := decide_eq_false h1
   rw [HN.out]
   go_enter Tryz.func98, Tryz.ntmps98
   go_wp2
   go_ret
   exact ⟨rfl, HB.out⟩
 ·
  have d0 : decide (0 ≤ n) = false := decide_eq_false h0
  have HN : Hid (decide (0 ≤ n ∧ n < h.n) = false) := decide_eq_false (fun q => h0 q.1)
  rw [HN.out]
  go_enter Tryz.func98, Tryz.ntmps98
  go_wp2
  go_ret
  exact ⟨rfl, HB.out⟩
theorem method_h (v : Value) (w : World) : (Go.method 374 123 v "loop.example/g00233/impl.upTo").run Tryz.prog w = .ok (218, v) w := by kernel_rfl
set_option maxRecDepth 1000000 in
set_option maxHeartbeats 4000000 in
theorem upto_h (w : World) (h : Hd) : Calls Tryz.prog 218 #[.agg #[.int .i64 h.n, .string h.r]] w fun e w' => e = .returned (.agg #[.int .i64 h.n, .string h.r]) ∧ Below w.heap.size w w' := by
 have B0 : Hid (Below w.heap.size w w) := Below.refl _ _
 obtain ⟨W1, HW1, b1, y1, hS1, r_a1, r_res1⟩ := Ke.l2 w #[.int .i64 h.n, .string h.r] 123 #[.int .i64 0, .string ⟨#[]⟩] 26
 have z1 := b1.size
 have B1 := Ke.b B0 b1
 have c_a1 := Ke.c r_a1
 have c_res1 := Ke.c r_res1
 go_enter Tryz.func218, Tryz.ntmps218
 go_wp2_with ((try rw [HW1.out]); refine wpList_store_row rfl 26 _ _ rfl (w.heap.size + 1) (hc h) rfl rfl 26 _ r_res1.out (sizeH h) rfl (oneH h) ?_)
 exact bodyPost_ret (v := .agg (hc h)) (results_cell_row rfl _ _ (w.heap.size + 1) 26 _ (0, 0) _ rfl (setRow_heap _ _ _ _ _ (0, 0) r_res1.out) Tryz.underlying26 rfl (sizeH h)) rfl ⟨rfl, below_setRow B1.out (by omega) _⟩
theorem method_a (v : Value) (w : World) : (Go.method 374 125 v "loop.example/g00233/impl.upTo").run Tryz.prog w = .ok (219, v) w := by kernel_rfl
set_option maxRecDepth 1000000 in
set_option maxHeartbeats 4000000 in
theorem upto_a (w : World) (h : Hd) (n : Int) : Calls Tryz.prog 219 #[.agg #[.int .i64 h.n, .string h.r, .int .i64 n]] w fun e w' => e = .returned (.agg #[.int .i64 h.n, .string h.r]) ∧ Below w.heap.size w w' := by
 have B0 : Hid (Below w.heap.size w w) := Below.refl _ _
 obtain ⟨W1, HW1, b1, y1, hS1, r_a1, r_res1⟩ := Ke.l2 w #[.int .i64 h.n, .string h.r, .int .i64 n] 125 #[.int .i64 0, .string ⟨#[]⟩] 26
 have z1 := b1.size
 have B1 := Ke.b B0 b1
 have c_a1 := Ke.c r_a1
 have c_res1 := Ke.c r_res1
 go_enter Tryz.func219, Tryz.ntmps219
 go_wp2_with ((try rw [HW1.out]); refine wpList_store_row rfl 26 _ _ rfl (w.heap.size + 1) (hc h) rfl rfl 26 _ r_res1.out (sizeH h) rfl (oneH h) ?_)
 exact bodyPost_ret (v := .agg (hc h)) (results_cell_row rfl _ _ (w.heap.size + 1) 26 _ (0, 0) _ rfl (setRow_heap _ _ _ _ _ (0, 0) r_res1.out) Tryz.underlying26 rfl (sizeH h)) rfl ⟨rfl, below_setRow B1.out (by omega) _⟩
theorem method_t (v : Value) (w : World) : (Go.method 374 127 v "loop.example/g00233/impl.upTo").run Tryz.prog w = .ok (220, v) w := by kernel_rfl
set_option maxRecDepth 1000000 in
set_option maxHeartbeats 4000000 in
theorem upto_t (w : World) (h : Hd) (n : Int) (ao0 : Option Addr) (L cap0 : Nat) : Calls Tryz.prog 220 #[.agg #[.int .i64 h.n, .string h.r, .int .i64 n, .slice ao0 L cap0]] w fun e w' => e = .returned (.agg #[.int .i64 h.n, .string h.r]) ∧ Below w.heap.size w w' := by
 have B0 : Hid (Below w.heap.size w w) := Below.refl _ _
 obtain ⟨W1, HW1, b1, y1, hS1, r_a1, r_res1⟩ := Ke.l2 w #[.int .i64 h.n, .string h.r, .int .i64 n, .slice ao0 L cap0] 127 #[.int .i64 0, .string ⟨#[]⟩] 26
 have z1 := b1.size
 have B1 := Ke.b B0 b1
 have c_a1 := Ke.c r_a1
 have c_res1 := Ke.c r_res1
 go_enter Tryz.func220, Tryz.ntmps220
 go_wp2_with ((try rw [HW1.out]); refine wpList_store_row rfl 26 _ _ rfl (w.heap.size + 1) (hc h) rfl rfl 26 _ r_res1.out (sizeH h) rfl (oneH h) ?_)
 exact bodyPost_ret (v := .agg (hc h)) (results_cell_row rfl _ _ (w.heap.size + 1) 26 _ (0, 0) _ rfl (setRow_heap _ _ _ _ _ (0, 0) r_res1.out) Tryz.underlying26 rfl (sizeH h)) rfl ⟨rfl, below_setRow B1.out (by omega) _⟩
theorem kind_top {m : Ms} (h : Mg.kindOk m = true) (ho : okH m.h = true) : m.n ≤ 200 := by
 have h1 := okH_parts13 ho
 unfold Mg.kindOk at h
 split at h
 ·
  simp only [Bool.and_eq_true, decide_eq_true_eq] at h
  omega
 ·
  split at h
  ·
   simp only [Bool.and_eq_true, decide_eq_true_eq] at h
   omega
  ·
   split at h
   ·
    simp only [Bool.and_eq_true, decide_eq_true_eq] at h
    omega
   ·
    cases h
theorem msg_alt (m : Ms) : msgOk m = (decide (0 ≤ m.f ∧ m.f ≤ 20) && decide (0 ≤ m.t ∧ m.t ≤ 20) && !decide (m.f = m.t) && (okH m.h && decide (0 ≤ m.n) && Mg.kindOk m)) := by
 rw [Bool.eq_iff_iff]
 unfold msgOk face
 simp only [Bool.and_eq_true, decide_eq_true_eq, Bool.not_eq_true', decide_eq_false_iff_not]
 constructor
 ·
  rintro ⟨⟨⟨⟨⟨a, b⟩, c⟩, d⟩, e⟩, f⟩
  exact ⟨⟨⟨a, b⟩, c⟩, ⟨d, e.1⟩, f⟩
 ·
  rintro ⟨⟨⟨a, b⟩, c⟩, ⟨d, e⟩, f⟩
  exact ⟨⟨⟨⟨⟨a, b⟩, c⟩, d⟩, ⟨e, kind_top f d⟩⟩, f⟩
set_option maxRecDepth 1000000 in
set_option maxHeartbeats 4000000 in
theorem right_h (w : World) (h : Hd) (hr : h.r.size ≤ 1000000000000) : Calls Tryz.prog 56 #[.iface 123 (.agg #[.int .i64 h.n, .string h.r])] w fun e w' => e = .returned (.bool (okH h)) ∧ Below w.heap.size w w' := by
 have B0 : Hid (Below w.heap.size w w) := Below.refl _ _
 have m1 := method_h
 have qh : ∀ W, _ := fun W => He.ok_impl W h hr
 obtain ⟨A, hA⟩ : ∃ A, okH h = A := ⟨_, rfl⟩
 simp only [hA] at qh
 rw [hA]
 have HA : Hid (okH h = A) := hA
 clear hA
 have t_hh := fun W v => ta_hh W v
 have t_ha := fun W v => ta_ha W v
 have t_ht := fun W v => ta_ht W v
 go_enter Tryz.func56, Tryz.ntmps56
 go_wp2_with fail
 refine (upto_h w h).mono ?_
 rintro e W1 ⟨rfl, b1⟩
 have z1 := b1.size
 have B1 := Ke.b B0 b1
 go_wp2_with fail
 refine (qh W1).mono ?_
 rintro e W2 ⟨rfl, b2⟩
 have z2 := b2.size
 have B2 := Ke.b B1 b2
 clear qh
 cases A
 ·
  go_wp2
  go_ret
  exact ⟨rfl, B2.out⟩
 ·
  obtain ⟨W3, HW3, b3, y3, hS3, r_u3⟩ := Ke.l1 W2 #[.int .i64 h.n, .string h.r] 123
  have z3 := b3.size
  have B3 := Ke.b B2 b3
  have c_u3 := Ke.c r_u3
  go_wp2
  go_ret
  exact ⟨rfl, by rw [HW3.out]; exact B3.out⟩
set_option maxRecDepth 1000000 in
set_option maxHeartbeats 4000000 in
theorem right_a (w : World) (h : Hd) (n : Int) (hr : h.r.size ≤ 1000000000000) : Calls Tryz.prog 56 #[.iface 125 (.agg #[.int .i64 h.n, .string h.r, .int .i64 n])] w fun e w' => e = .returned (.bool (okH h && decide (0 ≤ n ∧ n < h.n))) ∧ Below w.heap.size w w' := by
 have B0 : Hid (Below w.heap.size w w) := Below.refl _ _
 have m1 := method_a
 have qh : ∀ W, _ := fun W => He.ok_impl W h hr
 obtain ⟨A, hA⟩ : ∃ A, okH h = A := ⟨_, rfl⟩
 simp only [hA] at qh
 rw [hA]
 have HA : Hid (okH h = A) := hA
 clear hA
 have qp : ∀ W, _ := fun W => place_impl W h n
 obtain ⟨P, hP⟩ : ∃ P, decide (0 ≤ n ∧ n < h.n) = P := ⟨_, rfl⟩
 simp only [hP] at qp
 rw [hP]
 have HP : Hid (decide (0 ≤ n ∧ n < h.n) = P) := hP
 clear hP
 have t_ah := fun W v => ta_ah W v
 have t_aa := fun W v => ta_aa W v
 have t_at := fun W v => ta_at W v
 go_enter Tryz.func56, Tryz.ntmps56
 go_wp2_with fail
 refine (upto_a w h n).mono ?_
 rintro e W1 ⟨rfl, b1⟩
 have z1 := b1.size
 have B1 := Ke.b B0 b1
 go_wp2_with fail
 refine (qh W1).mono ?_
 rintro e W2 ⟨rfl, b2⟩
 have z2 := b2.size
 have B2 := Ke.b B1 b2
 clear qh
 cases A
 ·
  go_wp2
  go_ret
  exact ⟨rfl, B2.out⟩
 ·
  obtain ⟨W3, HW3, b3, y3, hS3, r_u3⟩ := Ke.l1 W2 #[.int .i64 h.n, .string h.r, .int .i64 n] 125
  have z3 := b3.size
  have B3 := Ke.b B2 b3
  have c_u3 := Ke.c r_u3
  go_wp2_with fail
  rw [HW3.out]
  refine (qp W3).mono ?_
  rintro e W4 ⟨rfl, b4⟩
  have z4 := b4.size
  have B4 := Ke.b B3 b4
  have r_u4 := Ke.r r_u3 b4
  have c_u4 := Ke.c r_u4
  clear r_u3 c_u3
  clear qp
  go_wp2
  go_ret
  exact ⟨by simp, B4.out⟩
set_option maxRecDepth 1000000 in
set_option maxHeartbeats 4000000 in
theorem right_t (w : World) (h : Hd) (n : Int) (ao0 : Option Addr) (L cap0 : Nat) (hr : h.r.size ≤ 1000000000000) (hL : L ≤ 1000000000000) : Calls Tryz.prog 56 #[.iface 127 (.agg #[.int .i64 h.n, .string h.r, .int .i64 n, .slice ao0 L cap0])] w fun e w' => e = .returned (.bool (okH h && decide (0 ≤ n ∧ n < h.n) && decide ((L : Int) = h.n - n))) ∧ Below w.heap.size w w' := by
 have B0 : Hid (Below w.heap.size w w) := Below.refl _ _
 have m1 := method_t
 have qh : ∀ W, _ := fun W => He.ok_impl W h hr
 obtain ⟨A, hA⟩ : ∃ A, okH h = A := ⟨_, rfl⟩
 simp only [hA] at qh
 rw [hA]
 have HA : Hid (okH h = A) := hA
 clear hA
 have qp : ∀ W, _ := fun W => place_impl W h n
 obtain ⟨P, hP⟩ : ∃ P, decide (0 ≤ n ∧ n < h.n) = P := ⟨_, rfl⟩
 simp only [hP] at qp
 rw [hP]
 have HP : Hid (decide (0 ≤ n ∧ n < h.n) = P) := hP
 clear hP
 have t_th := fun W v => ta_th W v
 have t_ta := fun W v => ta_ta W v
 have t_tt := fun W v => ta_tt W v
 go_enter Tryz.func56, Tryz.ntmps56
 go_wp2_with fail
 refine (upto_t w h n ao0 L cap0).mono ?_
 rintro e W1 ⟨rfl, b1⟩
 have z1 := b1.size
 have B1 := Ke.b B0 b1
 go_wp2_with fail
 refine (qh W1).mono ?_
 rintro e W2 ⟨rfl, b2⟩
 have z2 := b2.size
 have B2 := Ke.b B1 b2
 clear qh
 cases A
 ·
  go_wp2
  go_ret
  exact ⟨rfl, B2.out⟩
 ·
  obtain ⟨W3, HW3, b3, y3, hS3, r_u3⟩ := Ke.l1 W2 #[.int .i64 h.n, .string h.r, .int .i64 n, .slice ao0 L cap0] 127
  have z3 := b3.size
  have B3 := Ke.b B2 b3
  have c_u3 := Ke.c r_u3
  go_wp2_with fail
  rw [HW3.out]
  refine (qp W3).mono ?_
  rintro e W4 ⟨rfl, b4⟩
  have z4 := b4.size
  have B4 := Ke.b B3 b4
  have r_u4 := Ke.r r_u3 b4
  have c_u4 := Ke.c r_u4
  clear r_u3 c_u3
  clear qp
  cases P
  ·
   go_wp2
   go_ret
   exact ⟨by simp, B4.out⟩
  ·
   have hp := of_decide_eq_true HP.out
   have hh := okH_parts13 HA.out
   have wr : IntKind.i64.wrap (h.n - n) = h.n - n := by rw [IntKind.wrap_i64]; omega
   clear hh
   by_cases l0 : (L : Int) = h.n - n
   ·
    have l2 : ((L : Int) == h.n - n) = true := by rw [l0]; simp
    have HL0 : Hid (decide ((L : Int) = h.n - n) = true) := decide_eq_true l0
    clear l0
    go_wp2
    go_ret
    exact ⟨by rw [HL0.out]; rfl, B4.out⟩
   ·
    have l2 : ((L : Int) == h.n - n) = false := by rw [beq_eq_false_iff_ne]; exact l0
    have HL0 : Hid (decide ((L : Int) = h.n - n) = false) := decide_eq_false l0
    go_wp2
    go_ret
    exact ⟨by rw [HL0.out]; rfl, B4.out⟩
set_option maxRecDepth 1000000 in
set_option maxHeartbeats 4000000 in
theorem word_any (w : World) (k f t n : Int) (h : Hd) (x : List ByteArray) (ao0 : Option Addr) (cap0 : Nat) (hr : h.r.size ≤ 1000000000000) (hl : x.length ≤ 1000000000000) :
  Calls Tryz.prog 55 #[.agg #[.int .i64 k, .int .i64 f, .int .i64 t, .int .i64 h.n, .string h.r, .int .i64 n, .slice ao0 x.length cap0]] w fun e w' => (∃ X, e = .returned X ∧ ((X = .nilIface ∧ Hid (Mg.kindOk ⟨k, f, t, h, n, x⟩ = false)) ∨ ∃ T u, X = .iface T u ∧ Hid (∀ W, Calls Tryz.prog 56 #[.iface T u] W fun e w' => e = .returned (.bool (okH h && decide (0 ≤ n) && Mg.kindOk ⟨k, f, t, h, n, x⟩)) ∧ Below W.heap.size W w'))) ∧ Below w.heap.size w w' := by
 by_cases c1 : k = 1 ∧ n = 0 ∧ x.length = 0
 ·
  obtain ⟨rfl, rfl, c⟩ := c1
  have hx : x = [] := List.eq_nil_of_length_eq_zero c
  subst hx
  refine (word1 w f t h ao0 cap0).mono ?_
  rintro e w' ⟨rfl, hb⟩
  refine ⟨⟨_, rfl, .inr ⟨_, _, rfl, fun W => (right_h W h hr).mono ?_⟩⟩, hb⟩
  rintro e w' ⟨rfl, hb⟩
  exact ⟨by simp [Mg.kindOk], hb⟩
 ·
  by_cases c2 : k = 2 ∧ x.length = 0
  ·
   obtain ⟨rfl, c⟩ := c2
   have hx : x = [] := List.eq_nil_of_length_eq_zero c
   subst hx
   refine (word2 w f t n h ao0 cap0).mono ?_
   rintro e w' ⟨rfl, hb⟩
   refine ⟨⟨_, rfl, .inr ⟨_, _, rfl, fun W => (right_a W h n hr).mono ?_⟩⟩, hb⟩
   rintro e w' ⟨rfl, hb⟩
   exact ⟨by simp [Mg.kindOk, Bool.and_assoc], hb⟩
  ·
   by_cases c3 : k = 3
   ·
    subst c3
    refine (word3 w f t n h ao0 x.length cap0).mono ?_
    rintro e w' ⟨rfl, hb⟩
    refine ⟨⟨_, rfl, .inr ⟨_, _, rfl, fun W => (right_t W h n ao0 x.length cap0 hr hl).mono ?_⟩⟩, hb⟩
    rintro e w' ⟨rfl, hb⟩
    exact ⟨by simp [Mg.kindOk, Bool.and_assoc], hb⟩
   ·
    refine (word0 w k f t n h ao0 x.length cap0 c1 c2 c3).mono ?_
    rintro e w' ⟨rfl, hb⟩
    refine ⟨⟨_, rfl, .inl ⟨rfl, ?_⟩⟩, hb⟩
    show _ = _
    unfold Mg.kindOk
    simp only
    split
    ·
     rename_i q
     subst q
     by_cases c : n = 0
     ·
      have : ¬ x.length = 0 := fun z => c1 ⟨rfl, c, z⟩
      simp [this]
     ·
      simp [c]
    ·
     split
     ·
      rename_i q
      subst q
      have : ¬ x.length = 0 := fun z => c2 ⟨rfl, z⟩
      simp [this]
     ·
      rfl
set_option maxRecDepth 1000000 in
set_option maxHeartbeats 4000000 in
theorem msgok_impl (w : World) (v : Value) (m : Ms) (hs : Sl w v (ss m.x)) (hl : m.x.length ≤ 1000000000000) (hr : m.h.r.size ≤ 1000000000000) :
  Calls Tryz.prog 15 #[.agg #[.int .i64 m.k, .int .i64 m.f, .int .i64 m.t, .int .i64 m.h.n, .string m.h.r, .int .i64 m.n, v]] w fun e w' => e = .returned (.bool (msgOk m)) ∧ Below w.heap.size w w' := by
 rw [msg_alt]
 obtain ⟨R, hR⟩ : ∃ R, (decide (0 ≤ m.f ∧ m.f ≤ 20) && decide (0 ≤ m.t ∧ m.t ≤ 20) && !decide (m.f = m.t) && (okH m.h && decide (0 ≤ m.n) && Mg.kindOk m)) = R := ⟨_, rfl⟩
 rw [hR]
 have HR : Hid ((decide (0 ≤ m.f ∧ m.f ≤ 20) && decide (0 ≤ m.t ∧ m.t ≤ 20) && !decide (m.f = m.t) && (okH m.h && decide (0 ≤ m.n) && Mg.kindOk m)) = R) := hR
 clear hR
 obtain ⟨k, f, t, h, n, x⟩ := m
 simp only at *
 have HS : Hid (Sl w v (ss x)) := hs
 obtain ⟨ao0, cap0, rfl, hc0⟩ := hs.form
 simp only [ss_len] at *
 clear hs
 have B0 : Hid (Below w.heap.size w w) := Below.refl _ _
 obtain ⟨W1, HW1, b1, y1, hS1, r_a1⟩ := Ke.l1 w #[.int .i64 k, .int .i64 f, .int .i64 t, .int .i64 h.n, .string h.r, .int .i64 n, .slice ao0 x.length cap0] 35
 have z1 := b1.size
 have B1 := Ke.b B0 b1
 have c_a1 := Ke.c r_a1
 have qm : ∀ W n, _ := fun W n => mirror_impl W n
 have qw : ∀ W, _ := fun W => word_any W k f t n h x ao0 cap0 hr hl
 go_enter Tryz.func15, Tryz.ntmps15
 go_wp2_with fail
 rw [HW1.out]
 refine (qw W1).mono ?_
 rintro e W2 ⟨⟨X, rfl, hX⟩, b2⟩
 have z2 := b2.size
 have B2 := Ke.b B1 b2
 have r_a2 := Ke.r r_a1 b2
 have c_a2 := Ke.c r_a2
 clear r_a1 c_a1
 clear qw
 rcases hX with hX | hX
 ·
  obtain ⟨rfl, HX⟩ := hX
  go_wp2_with fail
  refine (qm W2 f).mono ?_
  rintro e W_ ⟨rfl, hW_⟩
  subst hW_
  obtain ⟨If, hIf⟩ : ∃ I, decide (0 ≤ f ∧ f ≤ 20) = I := ⟨_, rfl⟩
  rw [hIf]
  have HIf : Hid (decide (0 ≤ f ∧ f ≤ 20) = If) := hIf
  clear hIf
  cases If
  ·
   have HN : Hid (R = false) := by show _ = _; rw [← HR.out]; rw [HIf.out]; rfl
   go_wp2
   go_ret
   exact ⟨by rw [HN.out]; rfl, B2.out⟩
  ·
   go_wp2_with fail
   refine (qm W2 t).mono ?_
   rintro e W_ ⟨rfl, hW_⟩
   subst hW_
   obtain ⟨It, hIt⟩ : ∃ I, decide (0 ≤ t ∧ t ≤ 20) = I := ⟨_, rfl⟩
   rw [hIt]
   have HIt : Hid (decide (0 ≤ t ∧ t ≤ 20) = It) := hIt
   clear hIt
   cases It
   ·
    have HN : Hid (R = false) := by show _ = _; rw [← HR.out]; rw [HIt.out]; simp
    go_wp2
    go_ret
    exact ⟨by rw [HN.out]; rfl, B2.out⟩
   ·
    by_cases hft : f = t
    ·
     subst hft
     have hbb : (f == f) = true := by simp
     have hbc : (f != f) = false := by simp
     have HN : Hid (R = false) := by show _ = _; rw [← HR.out]; simp
     go_wp2
     go_ret
     exact ⟨by rw [HN.out]; rfl, B2.out⟩
    ·
     have hbb : (f == t) = false := by rw [beq_eq_false_iff_ne]; exact hft
     have hbc : (f != t) = true := by rw [bne, hbb]; rfl
     have HN : Hid (R = false) := by show _ = _; rw [← HR.out]; rw [HX.out]; simp
     go_wp2
     go_ret
     exact ⟨by rw [HN.out]; rfl, B2.out⟩
 ·
  obtain ⟨T, u, rfl, HX⟩ := hX
  go_wp2_with fail
  refine (qm W2 f).mono ?_
  rintro e W_ ⟨rfl, hW_⟩
  subst hW_
  obtain ⟨If, hIf⟩ : ∃ I, decide (0 ≤ f ∧ f ≤ 20) = I := ⟨_, rfl⟩
  rw [hIf]
  have HIf : Hid (decide (0 ≤ f ∧ f ≤ 20) = If) := hIf
  clear hIf
  cases If
  ·
   have HN : Hid (R = false) := by show _ = _; rw [← HR.out]; rw [HIf.out]; rfl
   go_wp2
   go_ret
   exact ⟨by rw [HN.out]; rfl, B2.out⟩
  ·
   go_wp2_with fail
   refine (qm W2 t).mono ?_
   rintro e W_ ⟨rfl, hW_⟩
   subst hW_
   obtain ⟨It, hIt⟩ : ∃ I, decide (0 ≤ t ∧ t ≤ 20) = I := ⟨_, rfl⟩
   rw [hIt]
   have HIt : Hid (decide (0 ≤ t ∧ t ≤ 20) = It) := hIt
   clear hIt
   cases It
   ·
    have HN : Hid (R = false) := by show _ = _; rw [← HR.out]; rw [HIt.out]; simp
    go_wp2
    go_ret
    exact ⟨by rw [HN.out]; rfl, B2.out⟩
   ·
    by_cases hft : f = t
    ·
     subst hft
     have hbb : (f == f) = true := by simp
     have hbc : (f != f) = false := by simp
     have HN : Hid (R = false) := by show _ = _; rw [← HR.out]; simp
     go_wp2
     go_ret
     exact ⟨by rw [HN.out]; rfl, B2.out⟩
    ·
     have hbb : (f == t) = false := by rw [beq_eq_false_iff_ne]; exact hft
     have hbc : (f != t) = true := by rw [bne, hbb]; rfl
     obtain ⟨A, hA⟩ : ∃ A, (okH h && decide (0 ≤ n) && Mg.kindOk ⟨k, f, t, h, n, x⟩) = A := ⟨_, rfl⟩
     have qX := HX.out
     simp only [hA] at qX
     have HN : Hid (R = A) := by show _ = _; rw [← HR.out, HIf.out, HIt.out, hA]; simp [hft]
     clear hA HX
     go_wp2_with fail
     refine (qX W2).mono ?_
     rintro e W3 ⟨rfl, b3⟩
     have z3 := b3.size
     have B3 := Ke.b B2 b3
     have r_a3 := Ke.r r_a2 b3
     have c_a3 := Ke.c r_a3
     clear r_a2 c_a2
     clear qX
     go_wp2
     go_ret
     exact ⟨by rw [HN.out]; simp, B3.out⟩
end Go.Proofs.YtchonoonclllbaaGreatDoor.Wd
namespace Go.Proofs.YtchonoonclllbaaGreatDoor.Mi
open Go.RowKit Go.Proofs.YtchonoonclllbaaGreatDoor.Mem Go.Proofs.YtchonoonclllbaaGreatDoor.Laws Go.Proofs.YtchonoonclllbaaGreatDoor.Bytes Go.Proofs.YtchonoonclllbaaGreatDoor.Sha Go.Proofs.YtchonoonclllbaaGreatDoor.Tr Go.Proofs.YtchonoonclllbaaGreatDoor.He Go.Proofs.YtchonoonclllbaaGreatDoor.Lg Go.Proofs.YtchonoonclllbaaGreatDoor.Sr Go.Proofs.YtchonoonclllbaaGreatDoor.Mg
set_option linter.unusedVariables false
set_option linter.unusedSimpArgs false
theorem slNil14 (w : World) : Sl w (.slice none 0 0) (ss []) := ⟨none, 0, rfl, Nat.le_refl _, fun _ => rfl, fun h => by simp [ss] at h⟩
set_option maxRecDepth 1000000 in
set_option maxHeartbeats 16000000 in
theorem known_impl (w : World) (vt : Value) (t : List Hd) (h : Hd) (hG : Glob w) (hst : Sh w vt t) (htl : t.length ≤ 1000000000) :
  Calls Tryz.prog 54 #[vt, .agg #[.int .i64 h.n, .string h.r]] w fun e w' => e = .returned (.bool (known t h)) ∧ Below w.heap.size w w' := by
 obtain ⟨R, hR⟩ : ∃ R, known t h = R := ⟨_, rfl⟩
 have HR : Hid (known t h = R) := hR
 rw [hR]
 have HT : Hid (Sh w vt t) := hst
 have HG : Hid (Glob w) := hG
 obtain ⟨ao0, cap0, rfl, hc0⟩ := hst.form
 clear hst hR hG
 have B0 : Hid (Below w.heap.size w w) := Below.refl _ _
 obtain ⟨W1, HW1, b1, y1, hS1, r_h1⟩ := Ke.l1 w #[.int .i64 h.n, .string h.r] 26
 have z1 := b1.size
 have B1 := Ke.b B0 b1
 have c_h1 := Ke.c r_h1
 obtain ⟨M, hM⟩ : ∃ M, headOf [] = M := ⟨_, rfl⟩
 obtain ⟨E, hE⟩ : ∃ E, eqH h M = E := ⟨_, rfl⟩
 have e1 : ∀ W, _ := fun W => eqlH W h M
 have e2 : ∀ W op y z xs ys, _ := fun W op y z xs ys => grdH W op y z xs ys
 simp only [hE] at e1
 have q1 : ∀ W, Glob W → _ := fun W hW => headOf_impl W (.slice none 0 0) [] hW (slNil14 W) (by simp) (fun s hs => by cases hs)
 simp only [hM] at q1
 have q2 : ∀ W v1, Sh W v1 t → _ := fun W v1 h1 => signed_impl W v1 t h h1 (by omega)
 obtain ⟨A, hA⟩ : ∃ A, signed t h = A := ⟨_, rfl⟩
 simp only [hA] at q2
 have HD : Hid (R = (E || A)) := by show _ = _; rw [← HR.out]; unfold known; rw [hM, hE, hA]
 clear HR hM hE hA
 go_enter Tryz.func54, Tryz.ntmps54
 go_wp2_with fail
 rw [HW1.out]
 refine wp_region_held_drew (S := fun w' => w'.cell? ⟨w.heap.size, 0, none⟩ = some (.int .i64 h.n) ∧ w'.cell? ⟨w.heap.size, 1, none⟩ = some (.string h.r)) (by kernel_rfl) ⟨(c_h1 0), (c_h1 1)⟩ (fun hHeld => ?_)
 refine Ke.y 0 rfl (fun _ _ _ h => h) ?_
 try simp only [Act.put, pu1, pu2, pu3, pu4, pu5, pu6]
 refine Ke.z 1 rfl (fun K hK => ?_)
 go_simp
 refine (q1 W1.drew ((HG.out.later B1.out).later (Below.drew (Below.refl _ _)))).mono ?_
 rintro e W2 ⟨rfl, b2⟩
 have b2 : Below W1.heap.size W1 W2 := (Below.drew (Below.refl _ _)).trans b2
 refine hK.out _ _ ⟨(keepR (W := W1) hHeld.1 b2), (keepR (W := W1) hHeld.2 b2)⟩ (fun hHeld => ?_)
 clear hK K
 try simp only [Act.put, pu1, pu2, pu3, pu4, pu5, pu6]
 have z2 := b2.size
 have B2 := Ke.b B1 b2
 have r_h2 := Ke.r r_h1 b2
 have c_h2 := Ke.c r_h2
 clear r_h1 c_h1
 refine Ke.y 2 rfl (fun _ _ _ h => h) ?_
 try simp only [Act.put, pu1, pu2, pu3, pu4, pu5, pu6]
 refine Ke.y 3 rfl (fun _ _ _ h => h) ?_
 try simp only [Act.put, pu1, pu2, pu3, pu4, pu5, pu6]
 cases E
 ·
  refine Ke.y 4 rfl (fun _ _ _ h => h) ?_
  try simp only [Act.put, pu1, pu2, pu3, pu4, pu5, pu6]
  refine Ke.y 5 rfl (fun _ _ _ h => h) ?_
  try simp only [Act.put, pu1, pu2, pu3, pu4, pu5, pu6]
  refine Ke.z 6 rfl (fun K hK => ?_)
  go_simp
  refine (q2 W2 _ (HT.out.later B2.out)).mono ?_
  rintro e W3 ⟨rfl, b3⟩
  refine hK.out _ _ ⟨(keepR (W := W2) hHeld.1 b3), (keepR (W := W2) hHeld.2 b3)⟩ (fun hHeld => ?_)
  clear hK K
  try simp only [Act.put, pu1, pu2, pu3, pu4, pu5, pu6]
  have z3 := b3.size
  have B3 := Ke.b B2 b3
  have r_h3 := Ke.r r_h2 b3
  have c_h3 := Ke.c r_h3
  clear r_h2 c_h2
  refine Ke.y 7 rfl (fun _ _ _ h => h) ?_
  try simp only [Act.put, pu1, pu2, pu3, pu4, pu5, pu6]
  refine Ke.y 8 rfl (fun _ _ _ h => h) ?_
  try simp only [Act.put, pu1, pu2, pu3, pu4, pu5, pu6]
  refine wpAnyH_done (by kernel_rfl) ?_ _
  clear hHeld
  go_wp2
  go_ret
  exact ⟨by rw [HD.out]; rfl, B3.out⟩
 ·
  refine Ke.x 4 rfl (fun _ _ _ h => h) ?_
  try simp only [Act.put, pu1, pu2, pu3, pu4, pu5, pu6]
  refine Ke.x 5 rfl (fun _ _ _ h => h) ?_
  try simp only [Act.put, pu1, pu2, pu3, pu4, pu5, pu6]
  refine Ke.x 6 rfl (fun _ _ _ h => h) ?_
  try simp only [Act.put, pu1, pu2, pu3, pu4, pu5, pu6]
  refine Ke.y 7 rfl (fun _ _ _ h => h) ?_
  try simp only [Act.put, pu1, pu2, pu3, pu4, pu5, pu6]
  refine Ke.y 8 rfl (fun _ _ _ h => h) ?_
  try simp only [Act.put, pu1, pu2, pu3, pu4, pu5, pu6]
  refine wpAnyH_done (by kernel_rfl) ?_ _
  clear hHeld
  go_wp2
  go_ret
  exact ⟨by rw [HD.out]; rfl, B2.out⟩
set_option maxRecDepth 1000000 in
set_option maxHeartbeats 16000000 in
theorem mirrorok_impl (w : World) (v vb vt : Value) (m : Mr) (t : List Hd) (hG : Glob w) (hN : NoC w) (hgr : m.b.r.size ≤ 1000000000000) (hs : Sl w v (ss m.st.l)) (hb : Sl w vb (bs m.st.b)) (hby : Byt m.st.b) (hst : Sh w vt t) (hl : m.st.l.length ≤ 1000000000) (hbl : m.st.b.length ≤ 1000000000) (htl : t.length ≤ 1000000000) (hz : ∀ s ∈ m.st.l, s.size ≤ 10000000000) :
  Calls Tryz.prog 14 #[.agg #[.int .i64 m.id, v, .int .i64 m.st.h.n, .string m.st.h.r, vb, .int .i64 m.st.s, .int .i64 m.b.n, .string m.b.r], vt] w fun e w' => e = .returned (.bool (mirrorOk m t)) ∧ Below w.heap.size w w' := by
 obtain ⟨R, hR⟩ : ∃ R, mirrorOk m t = R := ⟨_, rfl⟩
 have HR : Hid (mirrorOk m t = R) := hR
 rw [hR]
 obtain ⟨id, ⟨l, h, b, s⟩, g⟩ := m
 simp only at *
 have HS : Hid (Sl w v (ss l)) := hs
 have HSB : Hid (Sl w vb (bs b)) := hb
 have HBY : Hid (Byt b) := hby
 have HT : Hid (Sh w vt t) := hst
 have HG : Hid (Glob w) := hG
 have HN : Hid (NoC w) := hN
 obtain ⟨ao0, cap0, rfl, hc0⟩ := hs.form
 obtain ⟨ao1, cap1, rfl, hc1⟩ := hb.form
 obtain ⟨ao2, cap2, rfl, hc2⟩ := hst.form
 simp only [ss_len, bs_len] at *
 clear hs hb hby hst hR hG hN
 have B0 : Hid (Below w.heap.size w w) := Below.refl _ _
 obtain ⟨W1, HW1, b1, y1, hS1, r_a1⟩ := Ke.l1 w #[.int .i64 id, .slice ao0 l.length cap0, .int .i64 h.n, .string h.r, .slice ao1 b.length cap1, .int .i64 s, .int .i64 g.n, .string g.r] 32
 have z1 := b1.size
 have B1 := Ke.b B0 b1
 have c_a1 := Ke.c r_a1
 have q1 : ∀ W v1 v2, Glob W → NoC W → Sl W v1 (ss l) → Sl W v2 (bs b) → _ := fun W v1 v2 hG hN h1 h2 => storeok_impl W v1 v2 ⟨l, h, b, s⟩ hG hN h1 h2 HBY.out hl hbl hz
 obtain ⟨A, hA⟩ : ∃ A, storeOk ⟨l, h, b, s⟩ = A := ⟨_, rfl⟩
 simp only [hA] at q1
 have q2 : ∀ W, _ := fun W => ok_impl W g hgr
 obtain ⟨B, hB⟩ : ∃ B, okH g = B := ⟨_, rfl⟩
 simp only [hB] at q2
 have q3 : ∀ W v1, Glob W → Sh W v1 t → _ := fun W v1 hG h1 => known_impl W v1 t g hG h1 htl
 obtain ⟨C, hC⟩ : ∃ C, known t g = C := ⟨_, rfl⟩
 simp only [hC] at q3
 have q4 : ∀ W v1, Glob W → Sh W v1 t → _ := fun W v1 hG h1 => known_impl W v1 t h hG h1 htl
 obtain ⟨D, hD⟩ : ∃ D, known t h = D := ⟨_, rfl⟩
 simp only [hD] at q4
 obtain ⟨I, hI⟩ : ∃ I, decide (0 ≤ id ∧ id ≤ 20) = I := ⟨_, rfl⟩
 have q0 : ∀ W, _ := fun W => Wd.mirror_impl W id
 simp only [hI] at q0
 have HD : Hid (R = (I && A && B && C && D)) := by show _ = _; rw [← HR.out]; unfold mirrorOk; simp only; rw [hI, hA, hB, hC, hD]
 clear HR hI hA hB hC hD hz
 go_enter Tryz.func14, Tryz.ntmps14
 go_wp2_with fail
 rw [HW1.out]
 refine (q0 W1).mono ?_
 rintro e W_ ⟨rfl, hW_⟩
 subst hW_
 clear q0
 cases I
 ·
  go_wp2
  go_ret
  exact ⟨by rw [HD.out]; simp, B1.out⟩
 ·
  go_wp2_with fail
  refine (q2 W1).mono ?_
  rintro e W2 ⟨rfl, b2⟩
  have z2 := b2.size
  have B2 := Ke.b B1 b2
  have r_a2 := Ke.r r_a1 b2
  have c_a2 := Ke.c r_a2
  clear r_a1 c_a1
  cases B
  ·
   go_wp2
   go_ret
   exact ⟨by rw [HD.out]; simp, B2.out⟩
  ·
   go_wp2_with fail
   refine (q3 W2 _ (HG.out.later B2.out) (HT.out.later B2.out)).mono ?_
   rintro e W3 ⟨rfl, b3⟩
   have z3 := b3.size
   have B3 := Ke.b B2 b3
   have r_a3 := Ke.r r_a2 b3
   have c_a3 := Ke.c r_a3
   clear r_a2 c_a2
   cases C
   ·
    go_wp2
    go_ret
    exact ⟨by rw [HD.out]; simp, B3.out⟩
   ·
    go_wp2_with fail
    refine (q4 W3 _ (HG.out.later B3.out) (HT.out.later B3.out)).mono ?_
    rintro e W4 ⟨rfl, b4⟩
    have z4 := b4.size
    have B4 := Ke.b B3 b4
    have r_a4 := Ke.r r_a3 b4
    have c_a4 := Ke.c r_a4
    clear r_a3 c_a3
    cases D
    ·
     go_wp2
     go_ret
     exact ⟨by rw [HD.out]; simp, B4.out⟩
    ·
     go_wp2_with fail
     refine (q1 W4 _ _ (HG.out.later B4.out) (NoC.later HN.out B4.out) (HS.out.later B4.out) (HSB.out.later B4.out)).mono ?_
     rintro e W5 ⟨rfl, b5⟩
     have z5 := b5.size
     have B5 := Ke.b B4 b5
     have r_a5 := Ke.r r_a4 b5
     have c_a5 := Ke.c r_a5
     clear r_a4 c_a4
     cases A
     ·
      go_wp2
      go_ret
      exact ⟨by rw [HD.out]; simp, B5.out⟩
     ·
      go_wp2
      go_ret
      exact ⟨by rw [HD.out]; simp, B5.out⟩
set_option maxRecDepth 1000000 in
set_option maxHeartbeats 16000000 in
theorem mcopy_impl (w : World) (v vb : Value) (m : Mr) (hz : ∀ s ∈ m.st.l, s.size ≤ 1000000000000) (hh : m.st.h.r.size ≤ 1000000000000) (hgr : m.b.r.size ≤ 1000000000000) (hs : Sl w v (ss m.st.l)) (hb : Sl w vb (bs m.st.b)) (hl : m.st.l.length ≤ 1000000000) (hbl : m.st.b.length ≤ 1000000000) :
  Calls Tryz.prog 43 #[.agg #[.int .i64 m.id, v, .int .i64 m.st.h.n, .string m.st.h.r, vb, .int .i64 m.st.s, .int .i64 m.b.n, .string m.b.r]] w fun e w' => ∃ v' vb', e = .returned (.agg #[.int .i64 m.id, v', .int .i64 m.st.h.n, .string m.st.h.r, vb', .int .i64 m.st.s, .int .i64 m.b.n, .string m.b.r]) ∧ Own w' w.heap.size w'.heap.size 9 v' (ss m.st.l) ∧ Own w' w.heap.size w'.heap.size 5 vb' (bs m.st.b) ∧ Below w.heap.size w w' := by
 obtain ⟨id, ⟨l, h, b, s⟩, g⟩ := m
 simp only at *
 have HS : Hid (Sl w v (ss l)) := hs
 have HSB : Hid (Sl w vb (bs b)) := hb
 obtain ⟨ao0, cap0, rfl, hc0⟩ := hs.form
 obtain ⟨ao1, cap1, rfl, hc1⟩ := hb.form
 simp only [ss_len, bs_len] at *
 clear hs hb
 have B0 : Hid (Below w.heap.size w w) := Below.refl _ _
 obtain ⟨W1, HW1, b1, y1, hS1, r_a1, r_res1⟩ := Ke.l2 w #[.int .i64 id, .slice ao0 l.length cap0, .int .i64 h.n, .string h.r, .slice ao1 b.length cap1, .int .i64 s, .int .i64 g.n, .string g.r] 32 #[.int .i64 0, .slice none 0 0, .int .i64 0, .string ⟨#[]⟩, .slice none 0 0, .int .i64 0, .int .i64 0, .string ⟨#[]⟩] 32
 have z1 := b1.size
 have B1 := Ke.b B0 b1
 have c_a1 := Ke.c r_a1
 have c_res1 := Ke.c r_res1
 have q1 : ∀ W v1 v2, Sl W v1 (ss l) → Sl W v2 (bs b) → _ := fun W v1 v2 h1 h2 => ownstore_impl W v1 v2 ⟨l, h, b, s⟩ h1 h2 hl hbl hz hh
 simp only at q1
 have q2 : ∀ W, _ := fun W => own_impl W g hgr
 go_enter Tryz.func43, Tryz.ntmps43
 go_wp2_with fail
 rw [HW1.out]
 refine wp_region_held_drew (S := fun w' => w'.cell? ⟨w.heap.size, 0, none⟩ = some (.int .i64 id) ∧ w'.cell? ⟨w.heap.size, 1, none⟩ = some (.slice ao0 l.length cap0) ∧ w'.cell? ⟨w.heap.size, 2, none⟩ = some (.int .i64 h.n) ∧ w'.cell? ⟨w.heap.size, 3, none⟩ = some (.string h.r) ∧ w'.cell? ⟨w.heap.size, 4, none⟩ = some (.slice ao1 b.length cap1) ∧ w'.cell? ⟨w.heap.size, 5, none⟩ = some (.int .i64 s) ∧ w'.cell? ⟨w.heap.size, 6, none⟩ = some (.int .i64 g.n) ∧ w'.cell? ⟨w.heap.size, 7, none⟩ = some (.string g.r)) (by kernel_rfl) ⟨(c_a1 0), (c_a1 1), (c_a1 2), (c_a1 3), (c_a1 4), (c_a1 5), (c_a1 6), (c_a1 7)⟩ (fun hHeld => ?_)
 refine Ke.y 0 rfl (fun _ _ _ h => h) ?_
 try simp only [Act.put, pu1, pu2, pu3, pu4, pu5, pu6]
 refine Ke.y 1 rfl (fun _ _ _ h => h) ?_
 try simp only [Act.put, pu1, pu2, pu3, pu4, pu5, pu6]
 refine Ke.y 2 rfl (fun _ _ _ h => h) ?_
 try simp only [Act.put, pu1, pu2, pu3, pu4, pu5, pu6]
 refine Ke.y 3 rfl (fun _ _ _ h => h) ?_
 try simp only [Act.put, pu1, pu2, pu3, pu4, pu5, pu6]
 refine Ke.y 5 rfl (fun _ _ _ h => h) ?_
 try simp only [Act.put, pu1, pu2, pu3, pu4, pu5, pu6]
 refine Ke.y 6 rfl (fun _ _ _ h => h) ?_
 try simp only [Act.put, pu1, pu2, pu3, pu4, pu5, pu6]
 refine Ke.z 4 rfl (fun K hK => ?_)
 go_simp
 refine (q1 W1.drew _ _ (Sl.later (w := W1) (HS.out.later B1.out) (Below.drew (Below.refl _ _))) (Sl.later (w := W1) (HSB.out.later B1.out) (Below.drew (Below.refl _ _)))).mono ?_
 rintro e W2 ⟨v_s, v_p, rfl, o_s2, o_p2, b2⟩
 have b2 : Below W1.heap.size W1 W2 := (Below.drew (Below.refl _ _)).trans b2
 have o_s2 : Own W2 W1.heap.size W2.heap.size 9 _ _ := o_s2
 have o_p2 : Own W2 W1.heap.size W2.heap.size 5 _ _ := o_p2
 refine hK.out _ _ ⟨(keepR (W := W1) hHeld.1 b2), (keepR (W := W1) hHeld.2.1 b2), (keepR (W := W1) hHeld.2.2.1 b2), (keepR (W := W1) hHeld.2.2.2.1 b2), (keepR (W := W1) hHeld.2.2.2.2.1 b2), (keepR (W := W1) hHeld.2.2.2.2.2.1 b2), (keepR (W := W1) hHeld.2.2.2.2.2.2.1 b2), (keepR (W := W1) hHeld.2.2.2.2.2.2.2 b2)⟩ (fun hHeld => ?_)
 clear hK K
 try simp only [Act.put, pu1, pu2, pu3, pu4, pu5, pu6]
 obtain ⟨lo_s, hi_s, lo_p, hi_p, d1_s, d2_s, d3_s, d4_s, d5_s, d6_s, d7_s, oo_s, oo_p⟩ := Sr.pairN o_s2 o_p2 b2.size
 clear o_s2 o_p2
 obtain ⟨ao_s, L_s, cap_s, rfl, _, _⟩ := oo_s.form
 obtain ⟨ao_p, L_p, cap_p, rfl, _, _⟩ := oo_p.form
 have o_s2 : Hid (Own W2 lo_s hi_s 9 (.slice ao_s L_s cap_s) (ss l)) := oo_s
 have o_p2 : Hid (Own W2 lo_p hi_p 5 (.slice ao_p L_p cap_p) (bs b)) := oo_p
 clear oo_s oo_p
 have z2 := b2.size
 have B2 := Ke.b B1 b2
 have r_a2 := Ke.r r_a1 b2
 have r_res2 := Ke.r r_res1 b2
 have c_a2 := Ke.c r_a2
 have c_res2 := Ke.c r_res2
 clear r_a1 c_a1 r_res1 c_res1
 refine Ke.z 7 rfl (fun K hK => ?_)
 go_simp
 refine (q2 W2).mono ?_
 rintro e W3 ⟨rfl, b3⟩
 refine hK.out _ _ ⟨(keepR (W := W2) hHeld.1 b3), (keepR (W := W2) hHeld.2.1 b3), (keepR (W := W2) hHeld.2.2.1 b3), (keepR (W := W2) hHeld.2.2.2.1 b3), (keepR (W := W2) hHeld.2.2.2.2.1 b3), (keepR (W := W2) hHeld.2.2.2.2.2.1 b3), (keepR (W := W2) hHeld.2.2.2.2.2.2.1 b3), (keepR (W := W2) hHeld.2.2.2.2.2.2.2 b3)⟩ (fun hHeld => ?_)
 clear hK K
 try simp only [Act.put, pu1, pu2, pu3, pu4, pu5, pu6]
 have z3 := b3.size
 have B3 := Ke.b B2 b3
 have r_a3 := Ke.r r_a2 b3
 have r_res3 := Ke.r r_res2 b3
 have o_s3 := Ke.o o_s2 b3
 have o_p3 := Ke.o o_p2 b3
 have c_a3 := Ke.c r_a3
 have c_res3 := Ke.c r_res3
 clear r_a2 c_a2 r_res2 c_res2 o_s2 o_p2
 refine Ke.y 8 rfl (fun _ _ _ h => h) ?_
 try simp only [Act.put, pu1, pu2, pu3, pu4, pu5, pu6]
 refine Ke.z 9 rfl (fun K hK => ?_)
 rw [if_pos (by rfl)]
 refine wp_store_row 32 _ _ rfl (w.heap.size + 1) (mq id (.slice ao_s L_s cap_s) h (.slice ao_p L_p cap_p) s g) rfl rfl 32 _ r_res3.out (sizeQ _ _ _ _ _ _) rfl (oneQ _ _ _ _ rfl rfl) ?_
 refine hK.out _ _ ⟨(cell_row (by show w.heap.size ≠ w.heap.size + 1; omega) hHeld.1), (cell_row (by show w.heap.size ≠ w.heap.size + 1; omega) hHeld.2.1), (cell_row (by show w.heap.size ≠ w.heap.size + 1; omega) hHeld.2.2.1), (cell_row (by show w.heap.size ≠ w.heap.size + 1; omega) hHeld.2.2.2.1), (cell_row (by show w.heap.size ≠ w.heap.size + 1; omega) hHeld.2.2.2.2.1), (cell_row (by show w.heap.size ≠ w.heap.size + 1; omega) hHeld.2.2.2.2.2.1), (cell_row (by show w.heap.size ≠ w.heap.size + 1; omega) hHeld.2.2.2.2.2.2.1), (cell_row (by show w.heap.size ≠ w.heap.size + 1; omega) hHeld.2.2.2.2.2.2.2)⟩ (fun hHeld => ?_)
 clear hK K
 refine wpAnyH_done (by kernel_rfl) ?_ _
 clear hHeld
 go_wp2
 exact bodyPost_ret (v := .agg (mq id (.slice ao_s L_s cap_s) h (.slice ao_p L_p cap_p) s g)) (results_cell_row rfl _ _ (w.heap.size + 1) 32 _ (0, 0) _ rfl (setRow_heap _ _ _ _ _ (0, 0) r_res3.out) Tryz.underlying32 rfl (sizeQ _ _ _ _ _ _)) rfl ⟨_, _, rfl, (Own.setRow o_s3.out _ (by omega)).mono (by omega) (by rw [size_setRow]; omega), (Own.setRow o_p3.out _ (by omega)).mono (by omega) (by rw [size_setRow]; omega), below_setRow B3.out (by omega) _⟩
end Go.Proofs.YtchonoonclllbaaGreatDoor.Mi
