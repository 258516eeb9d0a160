/- For every input the law 'FnExactEdgeOk' returns true and leaves its arguments as they were: proved without a condition, over the turned code of the commit beside it. -/
import Derived.Test.YtkdlgbccaaehaaaRows
import Derived.WalkKit
import Derived.Test.YtkdlgbccaaehaaaBytes
import Derived.Test.YtkdlgbccaaehaaaEdX
import Derived.Test.YtkdlgbccaaehaaaEsA
import Derived.Test.YtkdlgbccaaehaaaOpen7
import Derived.Test.YtkdlgbccaaehaaaRowSl
import Derived.ProofKit
import Derived.OpenShut
import Derived.ShutString
import Derived.ChangeOld
import Derived.Below
import Derived.SliceStrings
import Derived.Lib.SmallJoins
namespace Go.Proofs.Ytkdlgbccaaehaaa.fnExactEdgeOk
open Go.ChangeShapes Go.WideShapes Go.ChangeAt Go.RowKit
open Go.ChangeMaps (open_string shut_string)
set_option linter.unusedVariables false
set_option linter.unusedSimpArgs false

theorem own : ownKnob Try.prog.godebug = none := by kernel_rfl
theorem laidOut : laidOutB Try.prog = true := by kernel_rfl

set_option maxRecDepth 1000000 in
set_option maxHeartbeats 4000000 in
theorem walk (w : World) (n0 : Int) (v0 : Value) (l0 : List ByteArray) (w0 : (Lit.int .i64 n0).wf = true) (h0 : Mem.Sl w v0 (Mem.ss l0)) (y0 : ∀ s ∈ l0, s.size ≤ maxLen) (m0 : l0.length ≤ maxLen) :
    Calls Try.prog 3 #[.agg #[.int .i64 n0, v0]] w fun e w' => e = .returned (.bool true) ∧ Below w.heap.size w w' := by
  exact Ed.exact_ok w n0 v0 l0 h0 y0 m0 (fun W v' hB hs hl hz => Ed.ok_impl W n0 v' l0 hs (by omega))

set_option maxRecDepth 100000 in
theorem lifted (os : Os) (started : os.Started) (H : Type) (enc : TypeId × Value → H) :
    ReturnsInHanded {} Try.checked os 3 .any (Rows.fnExactEdgeOkSpec.pre6 enc Try.prog Try.f3 Rows.fnExactEdgeOkRow.domain false) (Rows.fnExactEdgeOkSpec.post enc Try.prog Try.f3 false true false false) := by
  refine returnsInHanded_of_change (C := Try.checked) own started (by kernel_rfl) Try.func3
    (ChangeSpec.witness6 (enc := enc) (C := Try.checked) false ⟨#[], #[.agg #[.int .i64 0, .slice none 0 0]], []⟩ 8 (by kernel_rfl) (by kernel_rfl) (by kernel_rfl) (by kernel_rfl)) ?_
  intro W base args ds gs before hval0 hW hcnd _
  have hval : ∀ (j : Nat) t v, Try.f3.params[j]? = some t → args[j]? = some v → Value.okWide Try.prog W .any base t v := hval0
  have hW' := hW
  obtain ⟨p, q, hA0, hV, rfl, hfz, hnd⟩ := hW
  have hA : DataW.TrodAll enc Try.prog W 0 (fun _ => true) true Try.f3.params.toList args.toList ds p := hA0
  rw [Try.params3] at hA hval
  obtain ⟨v0, vs0, d0, ds0, p0, q0, hargs, rfl, rfl, h0, r0⟩ := trodAll_cons hA
  obtain ⟨rfl, rfl, rfl⟩ := trodAll_nil r0
  obtain rfl : args = #[v0] := by cases args; simp_all
  obtain ⟨rfl, rfl⟩ := trodVars_none hV
  have k0 := h0
  have lt0 : ∀ x ∈ p0, x.block < W.heap.size := by obtain ⟨m, hm⟩ := k0; exact DataW.trod_lt m _ _ _ hm
  obtain ⟨cs0, rfl, hsz0⟩ := okWide_struct Try.underlying24 (hval 0 24 v0 rfl rfl)
  obtain ⟨n0, ao0, mm0, cap0, l0, e0, w0, t0, y0, m0⟩ : ∃ (n : Int) (ao : Option Addr) (mm cap : Nat) (l : List ByteArray), cs0 = #[.int .i64 n, .slice ao mm cap] ∧ (Lit.int .i64 n).wf = true ∧ Mem.Sl W (.slice ao mm cap) (Mem.ss l) ∧ (∀ s ∈ l, s.size ≤ maxLen) ∧ l.length ≤ maxLen := by
    obtain ⟨fuel, hf⟩ := h0
    obtain ⟨n, ao, m, cap, l, e, hw, hm, hl, hs⟩ := Open.read_edge hf
    exact ⟨n, ao, m, cap, l, by cases cs0; simpa [Value.cells] using e, hw, hs, hl, hm⟩
  subst e0
  clear hA0 hval0
  refine (walk W n0 _ l0 w0 t0 y0 m0).mono fun e W' ⟨he, bel⟩ => ?_
  subst he
  exact ⟨_, rfl, _, _, _, [], _, [], hW', trodAll_mk1 (shut_bool Try.underlying4 _), (trodAll_cons_mk (Below.trod laidOut (by kernel_rfl) (of_decide_eq_true (by kernel_rfl)) k0 bel lt0) trodAll_mk0), rfl, bel.frame _, fun h => by cases h⟩

theorem over : Rows.fnExactEdgeOkRow.holds Try.pinned (OpenSpec.ofChange Rows.fnExactEdgeOkSpec) :=
  OpenClaim.holds_of_wide 3 Try.f3 rfl rfl rfl rfl rfl rfl rfl ⟨rfl, rfl, rfl, rfl, rfl⟩ rfl rfl rfl rfl rfl (by kernel_rfl) Try.func3 (by kernel_rfl)
    (of_decide_eq_true (by kernel_rfl)) (by unfold Func.isWrapper; first | (rw [if_pos (by decide +kernel)]; kernel_rfl) | (rw [if_neg (by decide +kernel)]; exact ⟨rfl, rfl⟩))
    (fun os started H enc _ => lifted os started H enc)

end Go.Proofs.Ytkdlgbccaaehaaa.fnExactEdgeOk
namespace Go.Proofs.Ytkdlgbccaaehaaa
theorem fnExactEdgeOk_holds : Rows.FnExactEdgeOkSaid := fnExactEdgeOk.over
end Go.Proofs.Ytkdlgbccaaehaaa
