/- Texts in one: Is1. -/
import Derived.Test.YtccnhhdcdamgmaaDoorMem
import Derived.Test.YtccnhhdcdamgmaaDoorChecked
import Derived.WalkKit
import Derived.LaidEql
import Derived.Stop.Asserts
import Derived.RowKitTokens
/- errors.Is at an error of a type of its own (a struct by value, with Unwrap) that wraps an error made by errors.New; the library's own text is walked. -/
namespace Go.Proofs.YtccnhhdcdamgmaaDoor.Is
open Go.RowKit Go.Extern.Stop Go.Stop Go.Extern
set_option linter.unusedVariables false
set_option linter.unusedSimpArgs false

theorem callTypeOf (v : Value) (w : World) : (callFunc 102 #[.iface 148 v]).run Tryd.prog w = .ok (.value (.iface 136 (.agg #[.pointer (some ⟨6, 148, none⟩)]))) w := by
  obtain ⟨f, hf, hr⟩ : ∃ f, Extern.find Tryd.f102 = some f ∧ ∀ w, (f #[.iface 148 v]).run Tryd.prog w = .ok (.iface 136 (.agg #[.pointer (some ⟨6, 148, none⟩)])) w := ⟨_, rfl, fun w => by kernel_rfl⟩
  rw [run_callFunc_extern Tryd.func102 (by kernel_rfl) (by kernel_rfl) (by kernel_rfl) hf, hr]
  rfl
theorem callComp (w : World) : (callFunc 138 #[.agg #[.pointer (some ⟨6, 148, none⟩)]]).run Tryd.prog w = .ok (.value (.bool true)) w := by
  obtain ⟨f, hf, hr⟩ : ∃ f, Extern.find Tryd.f138 = some f ∧ ∀ w, (f #[.agg #[.pointer (some ⟨6, 148, none⟩)]]).run Tryd.prog w = .ok (.bool true) w := ⟨_, rfl, fun w => by kernel_rfl⟩
  rw [run_callFunc_extern Tryd.func138 (by kernel_rfl) (by kernel_rfl) (by kernel_rfl) hf, hr]
  rfl
theorem methodComp (v : Value) (w : World) : (Go.method 284 136 v "Comparable").run Tryd.prog w = .ok (138, v) w := by kernel_rfl
theorem isComp : (Tryd.prog.info? 148).map (·.comparable) = some true := by kernel_rfl
theorem isSize : (Tryd.prog.info? 172).map (·.size) = some 1 := by kernel_rfl
theorem noIsE (v : Value) (xT : TypeId) (w : World) : (Instr.typeAssert (.iface 148 v) xT 138 true).run Tryd.prog w = .ok (.tuple #[.nilIface, .bool false]) w := run_typeAssert_lacksB Tryd.underlying138 (by kernel_rfl) (by kernel_rfl) v xT w
theorem noUnwrapE (v : Value) (xT : TypeId) (w : World) : (Instr.typeAssert (.iface 148 v) xT 141 true).run Tryd.prog w = .ok (.tuple #[.nilIface, .bool false]) w := run_typeAssert_lacksB Tryd.underlying141 (by kernel_rfl) (by kernel_rfl) v xT w
theorem noUnwrapsE (v : Value) (xT : TypeId) (w : World) : (Instr.typeAssert (.iface 148 v) xT 143 true).run Tryd.prog w = .ok (.tuple #[.nilIface, .bool false]) w := run_typeAssert_lacksB Tryd.underlying143 (by kernel_rfl) (by kernel_rfl) v xT w
theorem noIsW (v : Value) (xT : TypeId) (w : World) : (Instr.typeAssert (.iface 107 v) xT 138 true).run Tryd.prog w = .ok (.tuple #[.nilIface, .bool false]) w := run_typeAssert_lacksB Tryd.underlying138 (by kernel_rfl) (by kernel_rfl) v xT w
theorem hasUnwrapW (v : Value) (xT : TypeId) (w : World) : (Instr.typeAssert (.iface 107 v) xT 141 true).run Tryd.prog w = .ok (.tuple #[.iface 107 v, .bool true]) w := run_typeAssert_hasB Tryd.underlying141 (by kernel_rfl) v xT w
theorem methodUnwrap (v : Value) (w : World) : (Go.method 284 107 v "Unwrap").run Tryd.prog w = .ok (134, v) w := by kernel_rfl

set_option maxRecDepth 1000000 in
set_option maxHeartbeats 2000000 in
theorem is_same (n : Int) (r : ByteArray) (b : Addr) (w : World) :
    Calls Tryd.prog 85 #[.iface 107 (.agg #[.int .i64 n, .string r, .iface 148 (.pointer (some b))]), .iface 148 (.pointer (some b))] w fun e w' => e = .returned (.bool true) ∧ Below w.heap.size w w' := by
  obtain ⟨i, hi, hcmp⟩ := Option.map_eq_some_iff.1 isComp
  obtain ⟨j, hj, hjs⟩ := Option.map_eq_some_iff.1 isSize
  have h8 := callTypeOf
  have h32 := callComp
  have mR := methodComp
  have nE := noIsE
  have uE := noUnwrapE
  have vE := noUnwrapsE
  have nW := noIsW
  have uW := hasUnwrapW
  have mU := methodUnwrap
  have heq : ∀ W, _ := fun W => run_eql_iface_ptr_same (P := Tryd.prog) W b Tryd.underlying75 Tryd.underlying148 hi hcmp hj
  have hty : ∀ W, _ := fun W => run_eql_iface_types (P := Tryd.prog) 107 148 (.agg #[.int .i64 n, .string r, .iface 148 (.pointer (some b))]) (.pointer (some b)) Tryd.underlying75 (by decide) W
  go_enter Tryd.func85, Tryd.ntmps85
  go_wp2
  refine wp_loop_rounds 2 ?_
  rw [rounds_succ]
  go_wp2
  rw [rounds_succ]
  go_wp2
  go_ret
  exact ⟨rfl, by first | exact Below.refl _ _ | exact (Below.refl _ _).alloc (Nat.le_refl _) _⟩

set_option maxRecDepth 1000000 in
set_option maxHeartbeats 2000000 in
theorem is_other (n : Int) (r : ByteArray) (a b : Addr) (ca cb : Array Value) (ta tb : TypeId) (w : World) (hne : a ≠ b) (ha : w.heap[a.block]? = some (.cells ca ta (0, 0))) (hb : w.heap[b.block]? = some (.cells cb tb (0, 0))) :
    Calls Tryd.prog 85 #[.iface 107 (.agg #[.int .i64 n, .string r, .iface 148 (.pointer (some a))]), .iface 148 (.pointer (some b))] w fun e w' => e = .returned (.bool false) ∧ Below w.heap.size w w' := by
  obtain ⟨i, hi, hcmp⟩ := Option.map_eq_some_iff.1 isComp
  obtain ⟨j, hj, hjs⟩ := Option.map_eq_some_iff.1 isSize
  have h8 := callTypeOf
  have h32 := callComp
  have mR := methodComp
  have nE := noIsE
  have uE := noUnwrapE
  have vE := noUnwrapsE
  have nW := noIsW
  have uW := hasUnwrapW
  have mU := methodUnwrap
  have heq : ∀ W : World, W.heap[a.block]? = some (.cells ca ta (0, 0)) → W.heap[b.block]? = some (.cells cb tb (0, 0)) → _ := fun W h1 h2 => run_eql_iface_ptr_other (P := Tryd.prog) W Tryd.underlying75 Tryd.underlying148 hi hcmp hj (by rw [hjs]; decide) hne h1 h2
  have q1 := heq w ha hb
  have q2 : ∀ o, _ := fun o => heq (w.alloc o) ((heap_alloc_old _ _ (Array.getElem?_eq_some_iff.1 ha).1).trans ha) ((heap_alloc_old _ _ (Array.getElem?_eq_some_iff.1 hb).1).trans hb)
  clear heq
  have hty : ∀ W, _ := fun W => run_eql_iface_types (P := Tryd.prog) 107 148 (.agg #[.int .i64 n, .string r, .iface 148 (.pointer (some a))]) (.pointer (some b)) Tryd.underlying75 (by decide) W
  go_enter Tryd.func85, Tryd.ntmps85
  go_wp2
  refine wp_loop_rounds 2 ?_
  rw [rounds_succ]
  go_wp2
  rw [rounds_succ]
  go_wp2
  go_ret
  exact ⟨rfl, by first | exact Below.refl _ _ | exact (Below.refl _ _).alloc (Nat.le_refl _) _⟩

end Go.Proofs.YtccnhhdcdamgmaaDoor.Is
