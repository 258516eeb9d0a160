/- For every input the law 'FnExactFallStore' returns true and leaves its arguments as they were: proved without a condition, over the turned code of the commit beside it. -/
import Derived.Test.YtfpaichdkddglabRows
import Derived.WalkKit
import Derived.Test.YtfpaichdkddglabPk3
import Derived.Test.YtfpaichdkddglabPk13
import Derived.Test.YtfpaichdkddglabPk14
import Derived.Test.YtfpaichdkddglabPk17
import Derived.Test.YtfpaichdkddglabPk15
import Derived.ProofKit
import Derived.OpenShut
import Derived.ShutString
import Derived.ChangeOld
import Derived.Below
import Derived.SliceStrings
import Derived.Lib.SmallJoins
namespace Go.Proofs.Ytfpaichdkddglab.fnExactFallStore
open Go.ChangeShapes Go.WideShapes Go.ChangeAt Go.RowKit
open Go.ChangeMaps (open_string shut_string)
set_option linter.unusedVariables false
set_option linter.unusedSimpArgs false

theorem own : ownKnob Try.prog.godebug = none := by kernel_rfl
theorem laidOut : laidOutB Try.prog = true := by kernel_rfl

set_option maxRecDepth 1000000 in
set_option maxHeartbeats 4000000 in
theorem walk (w : World) (n0 : He.Hd) (v0 u0 : Value) (l0 : List ByteArray) (b0 : List Int) (s0 : Int) (a1 : Int) (o0 : Open.Okh n0) (h0 : Mem.Sl w v0 (Mem.ss l0)) (y0 : ∀ s ∈ l0, s.size ≤ maxLen) (m0 : l0.length ≤ maxLen) (hb0 : Mem.Sl w u0 (Mem.bs b0)) (yb0 : Mem.Byt b0) (mb0 : b0.length ≤ maxLen) (ws0 : (Lit.int .i64 s0).wf = true) (w1 : (Lit.int .i64 a1).wf = true) :
    Calls Try.prog 3 #[.agg #[v0, .int .i64 n0.n, .string n0.r, u0, .int .i64 s0], .int .i64 a1] w fun e w' => e = .returned (.bool true) ∧ Below w.heap.size w w' := by
  have hat := RowSl.i64_bd w1
  have hss := RowSl.i64_bd ws0
  exact Sr.exact_fallstore w v0 u0 l0 n0 b0 s0 h0 hb0 yb0 y0 m0 mb0 o0.2 hss.1 hss.2 a1 hat.1 hat.2 (fun W v' vb' hB s1 s2 hl hb hz hr => Sr.fall_impl W v' vb' l0 n0 b0 s0 a1 s1 s2 (by omega) hss.1 hss.2 hat.1 hat.2)

set_option maxRecDepth 100000 in
theorem lifted (os : Os) (started : os.Started) (H : Type) (enc : TypeId × Value → H) :
    ReturnsInHanded {} Try.checked os 3 .any (Rows.fnExactFallStoreSpec.pre6 enc Try.prog Try.f3 Rows.fnExactFallStoreRow.domain false) (Rows.fnExactFallStoreSpec.post enc Try.prog Try.f3 false true false false) := by
  refine returnsInHanded_of_change (C := Try.checked) own started (by kernel_rfl) Try.func3
    (ChangeSpec.witness6 (enc := enc) (C := Try.checked) false ⟨#[], #[.agg #[.slice none 0 0, .int .i64 0, .string ⟨#[]⟩, .slice none 0 0, .int .i64 0], .int .i64 0], []⟩ 8 (by kernel_rfl) (by kernel_rfl) (by kernel_rfl) (by kernel_rfl)) ?_
  intro W base args ds gs before hval0 hW hcnd _
  have hval : ∀ (j : Nat) t v, Try.f3.params[j]? = some t → args[j]? = some v → Value.okWide Try.prog W .any base t v := hval0
  have hW' := hW
  obtain ⟨p, q, hA0, hV, rfl, hfz, hnd⟩ := hW
  have hA : DataW.TrodAll enc Try.prog W 0 (fun _ => true) true Try.f3.params.toList args.toList ds p := hA0
  rw [Try.params3] at hA hval
  obtain ⟨v0, vs0, d0, ds0, p0, q0, hargs, rfl, rfl, h0, r0⟩ := trodAll_cons hA
  obtain ⟨v1, vs1, d1, ds1, p1, q1, rfl, rfl, rfl, h1, r1⟩ := trodAll_cons r0
  obtain ⟨rfl, rfl, rfl⟩ := trodAll_nil r1
  obtain rfl : args = #[v0, v1] := by cases args; simp_all
  obtain ⟨rfl, rfl⟩ := trodVars_none hV
  have k0 := h0
  have lt0 : ∀ x ∈ p0, x.block < W.heap.size := by obtain ⟨m, hm⟩ := k0; exact DataW.trod_lt m _ _ _ hm
  obtain ⟨cs0, rfl, hsz0⟩ := okWide_struct Try.underlying29 (hval 0 29 v0 rfl rfl)
  obtain ⟨n0, ao0, mm0, cap0, l0, bo0, bm0, bap0, b0, s0, e0, o0, m0, y0, t0, mb0, yb0, tb0, ws0⟩ : ∃ (n : He.Hd) (ao : Option Addr) (mm cap : Nat) (l : List ByteArray) (ao2 : Option Addr) (mm2 cap2 : Nat) (b : List Int) (s : Int), cs0 = #[.slice ao mm cap, .int .i64 n.n, .string n.r, .slice ao2 mm2 cap2, .int .i64 s] ∧ Open.Okh n ∧ l.length ≤ maxLen ∧ (∀ s ∈ l, s.size ≤ maxLen) ∧ Mem.Sl W (.slice ao mm cap) (Mem.ss l) ∧ b.length ≤ maxLen ∧ Mem.Byt b ∧ Mem.Sl W (.slice ao2 mm2 cap2) (Mem.bs b) ∧ (Lit.int .i64 s).wf = true := by
    obtain ⟨fuel, hf⟩ := h0
    obtain ⟨n, ao, m, cap, l, ao2, m2, cap2, b, s, e, hrest⟩ := Open.read_store hf
    exact ⟨n, ao, m, cap, l, ao2, m2, cap2, b, s, by cases cs0; simpa [Value.cells] using e, hrest⟩
  subst e0
  obtain ⟨a1, rfl, rfl, rfl, w1⟩ := open_int Try.underlying3 (hval 1 3 v1 rfl rfl) h1
  clear hA0 hval0
  refine (walk W n0 _ _ l0 b0 s0 a1 o0 t0 y0 m0 tb0 yb0 mb0 ws0 w1).mono fun e W' ⟨he, bel⟩ => ?_
  subst he
  exact ⟨_, rfl, _, _, _, [], _, [], hW', trodAll_mk1 (shut_bool Try.underlying4 _), (trodAll_cons_mk (Below.trod laidOut (by kernel_rfl) (of_decide_eq_true (by kernel_rfl)) k0 bel lt0) (trodAll_cons_mk (shut_int Try.underlying3 w1) trodAll_mk0)), rfl, bel.frame _, fun h => by cases h⟩

theorem over : Rows.fnExactFallStoreRow.holds Try.pinned (OpenSpec.ofChange Rows.fnExactFallStoreSpec) :=
  OpenClaim.holds_of_wide 3 Try.f3 rfl rfl rfl rfl rfl rfl rfl ⟨rfl, rfl, rfl, rfl, rfl⟩ rfl rfl rfl rfl rfl (by kernel_rfl) Try.func3 (by kernel_rfl)
    (of_decide_eq_true (by kernel_rfl)) (by unfold Func.isWrapper; first | (rw [if_pos (by decide +kernel)]; kernel_rfl) | (rw [if_neg (by decide +kernel)]; exact ⟨rfl, rfl⟩))
    (fun os started H enc _ => lifted os started H enc)

end Go.Proofs.Ytfpaichdkddglab.fnExactFallStore
namespace Go.Proofs.Ytfpaichdkddglab
theorem fnExactFallStore_holds : Rows.FnExactFallStoreSaid := fnExactFallStore.over
end Go.Proofs.Ytfpaichdkddglab
