/- Texts in one: Is1. -/
import Derived.Test.YtchonoonclllbaaGreatDoorPh1
import Derived.Test.YtchonoonclllbaaGreatDoorChecked
import Derived.WalkKit
import Derived.LaidEql
import Derived.Stop.Asserts
import Derived.RowKitTokens
set_option maxHeartbeats 16000000
set_option linter.unusedVariables false
set_option linter.unusedSimpArgs false
namespace Go.Proofs.YtchonoonclllbaaGreatDoor.Is
open Go.RowKit Go.Extern.Stop Go.Stop Go.Extern
theorem callTypeOf (v : Value) (w : World) : (callFunc 193 #[.iface 238 v]).run Tryz.prog w = .ok (.value (.iface 228 (.agg #[.pointer (some ⟨7, 238, none⟩)]))) w := by
 obtain ⟨f, hf, hr⟩ : ∃ f, Extern.find Tryz.f193 = some f ∧ ∀ w, (f #[.iface 238 v]).run Tryz.prog w = .ok (.iface 228 (.agg #[.pointer (some ⟨7, 238, none⟩)])) w := ⟨_, rfl, fun w => by kernel_rfl⟩
 rw [run_callFunc_extern Tryz.func193 (by kernel_rfl) (by kernel_rfl) (by kernel_rfl) hf, hr]
 rfl
theorem callComp (w : World) : (callFunc 226 #[.agg #[.pointer (some ⟨7, 238, none⟩)]]).run Tryz.prog w = .ok (.value (.bool true)) w := by
 obtain ⟨f, hf, hr⟩ : ∃ f, Extern.find Tryz.f226 = some f ∧ ∀ w, (f #[.agg #[.pointer (some ⟨7, 238, none⟩)]]).run Tryz.prog w = .ok (.bool true) w := ⟨_, rfl, fun w => by kernel_rfl⟩
 rw [run_callFunc_extern Tryz.func226 (by kernel_rfl) (by kernel_rfl) (by kernel_rfl) hf, hr]
 rfl
theorem methodComp (v : Value) (w : World) : (Go.method 374 228 v "Comparable").run Tryz.prog w = .ok (226, v) w := by kernel_rfl
theorem isComp : (Tryz.prog.info? 238).map (·.comparable) = some true := by kernel_rfl
theorem isSize : (Tryz.prog.info? 262).map (·.size) = some 1 := by kernel_rfl
theorem noIsE (v : Value) (xT : TypeId) (w : World) : (Instr.typeAssert (.iface 238 v) xT 230 true).run Tryz.prog w = .ok (.tuple #[.nilIface, .bool false]) w := run_typeAssert_lacksB Tryz.underlying230 (by kernel_rfl) (by kernel_rfl) v xT w
theorem noUnwrapE (v : Value) (xT : TypeId) (w : World) : (Instr.typeAssert (.iface 238 v) xT 233 true).run Tryz.prog w = .ok (.tuple #[.nilIface, .bool false]) w := run_typeAssert_lacksB Tryz.underlying233 (by kernel_rfl) (by kernel_rfl) v xT w
theorem noUnwrapsE (v : Value) (xT : TypeId) (w : World) : (Instr.typeAssert (.iface 238 v) xT 235 true).run Tryz.prog w = .ok (.tuple #[.nilIface, .bool false]) w := run_typeAssert_lacksB Tryz.underlying235 (by kernel_rfl) (by kernel_rfl) v xT w
theorem noIsW (v : Value) (xT : TypeId) (w : World) : (Instr.typeAssert (.iface 206 v) xT 230 true).run Tryz.prog w = .ok (.tuple #[.nilIface, .bool false]) w := run_typeAssert_lacksB Tryz.underlying230 (by kernel_rfl) (by kernel_rfl) v xT w
theorem hasUnwrapW (v : Value) (xT : TypeId) (w : World) : (Instr.typeAssert (.iface 206 v) xT 233 true).run Tryz.prog w = .ok (.tuple #[.iface 206 v, .bool true]) w := run_typeAssert_hasB Tryz.underlying233 (by kernel_rfl) v xT w
theorem methodUnwrap (v : Value) (w : World) : (Go.method 374 206 v "Unwrap").run Tryz.prog w = .ok (222, v) w := by kernel_rfl
set_option maxRecDepth 1000000 in
theorem is_same (n : Int) (r : ByteArray) (b : Addr) (w : World) :
  Calls Tryz.prog 179 #[.iface 206 (.agg #[.int .i64 n, .string r, .iface 238 (.pointer (some b))]), .iface 238 (.pointer (some b))] w fun e w' => e = .returned (.bool true) ∧ Below w.heap.size w w' := by
 obtain ⟨i, hi, hcmp⟩ := Option.map_eq_some_iff.1 isComp
 obtain ⟨j, hj, hjs⟩ := Option.map_eq_some_iff.1 isSize
 have h8 := callTypeOf
 have h32 := callComp
 have mR := methodComp
 have nE := noIsE
 have uE := noUnwrapE
 have vE := noUnwrapsE
 have nW := noIsW
 have uW := hasUnwrapW
 have mU := methodUnwrap
 have heq : ∀ W, _ := fun W => run_eql_iface_ptr_same (P := Tryz.prog) W b Tryz.underlying173 Tryz.underlying238 hi hcmp hj
 have hty : ∀ W, _ := fun W => run_eql_iface_types (P := Tryz.prog) 206 238 (.agg #[.int .i64 n, .string r, .iface 238 (.pointer (some b))]) (.pointer (some b)) Tryz.underlying173 (by decide) W
 go_enter Tryz.func179, Tryz.ntmps179
 go_wp2
 refine wp_loop_rounds 2 ?_
 rw [rounds_succ]
 go_wp2
 rw [rounds_succ]
 go_wp2
 go_ret
 exact ⟨rfl, by first | exact Below.refl _ _ | exact (Below.refl _ _).alloc (Nat.le_refl _) _⟩
set_option maxRecDepth 1000000 in
theorem is_other (n : Int) (r : ByteArray) (a b : Addr) (ca cb : Array Value) (ta tb : TypeId) (w : World) (hne : a ≠ b) (ha : w.heap[a.block]? = some (.cells ca ta (0, 0))) (hb : w.heap[b.block]? = some (.cells cb tb (0, 0))) :
  Calls Tryz.prog 179 #[.iface 206 (.agg #[.int .i64 n, .string r, .iface 238 (.pointer (some a))]), .iface 238 (.pointer (some b))] w fun e w' => e = .returned (.bool false) ∧ Below w.heap.size w w' := by
 obtain ⟨i, hi, hcmp⟩ := Option.map_eq_some_iff.1 isComp
 obtain ⟨j, hj, hjs⟩ := Option.map_eq_some_iff.1 isSize
 have h8 := callTypeOf
 have h32 := callComp
 have mR := methodComp
 have nE := noIsE
 have uE := noUnwrapE
 have vE := noUnwrapsE
 have nW := noIsW
 have uW := hasUnwrapW
 have mU := methodUnwrap
 have heq : ∀ W : World, W.heap[a.block]? = some (.cells ca ta (0, 0)) → W.heap[b.block]? = some (.cells cb tb (0, 0)) → _ := fun W h1 h2 => run_eql_iface_ptr_other (P := Tryz.prog) W Tryz.underlying173 Tryz.underlying238 hi hcmp hj (by rw [hjs]; decide) hne h1 h2
 have q1 := heq w ha hb
 have q2 : ∀ o, _ := fun o => heq (w.alloc o) ((heap_alloc_old _ _ (Array.getElem?_eq_some_iff.1 ha).1).trans ha) ((heap_alloc_old _ _ (Array.getElem?_eq_some_iff.1 hb).1).trans hb)
 clear heq
 have hty : ∀ W, _ := fun W => run_eql_iface_types (P := Tryz.prog) 206 238 (.agg #[.int .i64 n, .string r, .iface 238 (.pointer (some a))]) (.pointer (some b)) Tryz.underlying173 (by decide) W
 go_enter Tryz.func179, Tryz.ntmps179
 go_wp2
 refine wp_loop_rounds 2 ?_
 rw [rounds_succ]
 go_wp2
 rw [rounds_succ]
 go_wp2
 go_ret
 exact ⟨rfl, by first | exact Below.refl _ _ | exact (Below.refl _ _).alloc (Nat.le_refl _) _⟩
end Go.Proofs.YtchonoonclllbaaGreatDoor.Is
