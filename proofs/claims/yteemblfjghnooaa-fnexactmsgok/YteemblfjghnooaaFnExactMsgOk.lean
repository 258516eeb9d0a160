/- For every input the law 'FnExactMsgOk' returns true and leaves its arguments as they were: proved without a condition, over the turned code of the commit beside it. -/
import Derived.Test.YteemblfjghnooaaRows
import Derived.WalkKit
import Derived.Test.YteemblfjghnooaaBytes
import Derived.Test.YteemblfjghnooaaMg5
import Derived.Test.YteemblfjghnooaaWdB
import Derived.Test.YteemblfjghnooaaOpenM
import Derived.Test.YteemblfjghnooaaRowSl
import Derived.ProofKit
import Derived.OpenShut
import Derived.ShutString
import Derived.ChangeOld
import Derived.Below
import Derived.SliceStrings
import Derived.Lib.SmallJoins
namespace Go.Proofs.Yteemblfjghnooaa.fnExactMsgOk
open Go.ChangeShapes Go.WideShapes Go.ChangeAt Go.RowKit
open Go.ChangeMaps (open_string shut_string)
set_option linter.unusedVariables false
set_option linter.unusedSimpArgs false

theorem own : ownKnob Try.prog.godebug = none := by kernel_rfl
theorem laidOut : laidOutB Try.prog = true := by kernel_rfl

set_option maxRecDepth 1000000 in
set_option maxHeartbeats 4000000 in
theorem walk (w : World) (q0 : Mg.Ms) (v0 : Value) (h0 : Mem.Sl w v0 (Mem.ss q0.x)) (y0 : ∀ s ∈ q0.x, s.size ≤ maxLen) (m0 : q0.x.length ≤ maxLen) (o0 : q0.h.r.size ≤ maxLen) :
    Calls Try.prog 4 #[.agg #[.int .i64 q0.k, .int .i64 q0.f, .int .i64 q0.t, .int .i64 q0.h.n, .string q0.h.r, .int .i64 q0.n, v0]] w fun e w' => e = .returned (.bool true) ∧ Below w.heap.size w w' := by
  exact Mg.exact_msgok w v0 q0 h0 y0 m0 o0 (fun W v' hB hs hl hz ht hr => Wd.msgok_impl W v' q0 hs (by omega) (by omega))

set_option maxRecDepth 100000 in
theorem lifted (os : Os) (started : os.Started) (H : Type) (enc : TypeId × Value → H) :
    ReturnsInHanded {} Try.checked os 4 .any (Rows.fnExactMsgOkSpec.pre6 enc Try.prog Try.f4 Rows.fnExactMsgOkRow.domain false) (Rows.fnExactMsgOkSpec.post enc Try.prog Try.f4 false true false false) := by
  refine returnsInHanded_of_change (C := Try.checked) own started (by kernel_rfl) Try.func4
    (ChangeSpec.witness6 (enc := enc) (C := Try.checked) false ⟨#[], #[.agg #[.int .i64 0, .int .i64 0, .int .i64 0, .int .i64 0, .string ⟨#[]⟩, .int .i64 0, .slice none 0 0]], []⟩ 8 (by kernel_rfl) (by kernel_rfl) (by kernel_rfl) (by kernel_rfl)) ?_
  intro W base args ds gs before hval0 hW hcnd _
  have hval : ∀ (j : Nat) t v, Try.f4.params[j]? = some t → args[j]? = some v → Value.okWide Try.prog W .any base t v := hval0
  have hW' := hW
  obtain ⟨p, q, hA0, hV, rfl, hfz, hnd⟩ := hW
  have hA : DataW.TrodAll enc Try.prog W 0 (fun _ => true) true Try.f4.params.toList args.toList ds p := hA0
  rw [Try.params4] at hA hval
  obtain ⟨v0, vs0, d0, ds0, p0, q0, hargs, rfl, rfl, h0, r0⟩ := trodAll_cons hA
  obtain ⟨rfl, rfl, rfl⟩ := trodAll_nil r0
  obtain rfl : args = #[v0] := by cases args; simp_all
  obtain ⟨rfl, rfl⟩ := trodVars_none hV
  have k0 := h0
  have lt0 : ∀ x ∈ p0, x.block < W.heap.size := by obtain ⟨m, hm⟩ := k0; exact DataW.trod_lt m _ _ _ hm
  obtain ⟨cs0, rfl, hsz0⟩ := okWide_struct Try.underlying38 (hval 0 38 v0 rfl rfl)
  obtain ⟨q0, ao0, mm0, cap0, e0, o0, m0, y0, t0⟩ : ∃ (q : Mg.Ms) (ao : Option Addr) (mm cap : Nat), cs0 = #[.int .i64 q.k, .int .i64 q.f, .int .i64 q.t, .int .i64 q.h.n, .string q.h.r, .int .i64 q.n, .slice ao mm cap] ∧ q.h.r.size ≤ maxLen ∧ q.x.length ≤ maxLen ∧ (∀ s ∈ q.x, s.size ≤ maxLen) ∧ Mem.Sl W (.slice ao mm cap) (Mem.ss q.x) := by
    obtain ⟨fuel, hf⟩ := h0
    obtain ⟨q, ao, m, cap, e, hrest⟩ := Open.read_msg hf
    exact ⟨q, ao, m, cap, by cases cs0; simpa [Value.cells] using e, hrest⟩
  subst e0
  clear hA0 hval0
  refine (walk W q0 _ t0 y0 m0 o0).mono fun e W' ⟨he, bel⟩ => ?_
  subst he
  exact ⟨_, rfl, _, _, _, [], _, [], hW', trodAll_mk1 (shut_bool Try.underlying4 _), (trodAll_cons_mk (Below.trod laidOut (by kernel_rfl) (of_decide_eq_true (by kernel_rfl)) k0 bel lt0) trodAll_mk0), rfl, bel.frame _, fun h => by cases h⟩

theorem over : Rows.fnExactMsgOkRow.holds Try.pinned (OpenSpec.ofChange Rows.fnExactMsgOkSpec) :=
  OpenClaim.holds_of_wide 4 Try.f4 rfl rfl rfl rfl rfl rfl rfl ⟨rfl, rfl, rfl, rfl, rfl⟩ rfl rfl rfl rfl rfl (by kernel_rfl) Try.func4 (by kernel_rfl)
    (of_decide_eq_true (by kernel_rfl)) (by unfold Func.isWrapper; first | (rw [if_pos (by decide +kernel)]; kernel_rfl) | (rw [if_neg (by decide +kernel)]; exact ⟨rfl, rfl⟩))
    (fun os started H enc _ => lifted os started H enc)

end Go.Proofs.Yteemblfjghnooaa.fnExactMsgOk
namespace Go.Proofs.Yteemblfjghnooaa
theorem fnExactMsgOk_holds : Rows.FnExactMsgOkSaid := fnExactMsgOk.over
end Go.Proofs.Yteemblfjghnooaa
