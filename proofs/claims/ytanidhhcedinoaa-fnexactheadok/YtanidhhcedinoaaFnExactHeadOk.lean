/- For every input the law 'FnExactHeadOk' returns true and leaves its arguments as they were: proved without a condition, over the turned code of the commit beside it. -/
import Derived.Test.YtanidhhcedinoaaRows
import Derived.WalkKit
import Derived.Test.YtanidhhcedinoaaBytes
import Derived.Test.YtanidhhcedinoaaHe5
import Derived.Test.YtanidhhcedinoaaHfA
import Derived.Test.YtanidhhcedinoaaOpenH
import Derived.Test.YtanidhhcedinoaaRowSl
import Derived.ProofKit
import Derived.OpenShut
import Derived.ShutString
import Derived.ChangeOld
import Derived.Below
import Derived.SliceStrings
import Derived.Lib.SmallJoins
namespace Go.Proofs.Ytanidhhcedinoaa.fnExactHeadOk
open Go.ChangeShapes Go.WideShapes Go.ChangeAt Go.RowKit
open Go.ChangeMaps (open_string shut_string)
set_option linter.unusedVariables false
set_option linter.unusedSimpArgs false

theorem own : ownKnob Try.prog.godebug = none := by kernel_rfl
theorem laidOut : laidOutB Try.prog = true := by kernel_rfl

set_option maxRecDepth 1000000 in
set_option maxHeartbeats 4000000 in
theorem walk (w : World) (n0 : He.Hd) (o0 : Open.Okh n0) :
    Calls Try.prog 4 #[.agg #[.int .i64 n0.n, .string n0.r]] w fun e w' => e = .returned (.bool true) ∧ Below w.heap.size w w' := by
  exact He.exact_headok w n0 o0.2 (fun W hB hz => He.ok_impl W n0 (by omega))

set_option maxRecDepth 100000 in
theorem lifted (os : Os) (started : os.Started) (H : Type) (enc : TypeId × Value → H) :
    ReturnsInHanded {} Try.checked os 4 .any (Rows.fnExactHeadOkSpec.pre6 enc Try.prog Try.f4 Rows.fnExactHeadOkRow.domain false) (Rows.fnExactHeadOkSpec.post enc Try.prog Try.f4 false true false false) := by
  refine returnsInHanded_of_change (C := Try.checked) own started (by kernel_rfl) Try.func4
    (ChangeSpec.witness6 (enc := enc) (C := Try.checked) false ⟨#[], #[.agg #[.int .i64 0, .string ⟨#[]⟩]], []⟩ 8 (by kernel_rfl) (by kernel_rfl) (by kernel_rfl) (by kernel_rfl)) ?_
  intro W base args ds gs before hval0 hW hcnd _
  have hval : ∀ (j : Nat) t v, Try.f4.params[j]? = some t → args[j]? = some v → Value.okWide Try.prog W .any base t v := hval0
  have hW' := hW
  obtain ⟨p, q, hA0, hV, rfl, hfz, hnd⟩ := hW
  have hA : DataW.TrodAll enc Try.prog W 0 (fun _ => true) true Try.f4.params.toList args.toList ds p := hA0
  rw [Try.params4] at hA hval
  obtain ⟨v0, vs0, d0, ds0, p0, q0, hargs, rfl, rfl, h0, r0⟩ := trodAll_cons hA
  obtain ⟨rfl, rfl, rfl⟩ := trodAll_nil r0
  obtain rfl : args = #[v0] := by cases args; simp_all
  obtain ⟨rfl, rfl⟩ := trodVars_none hV
  have k0 := h0
  have lt0 : ∀ x ∈ p0, x.block < W.heap.size := by obtain ⟨m, hm⟩ := k0; exact DataW.trod_lt m _ _ _ hm
  obtain ⟨cs0, rfl, hsz0⟩ := okWide_struct Try.underlying33 (hval 0 33 v0 rfl rfl)
  obtain ⟨n0, e0, o0⟩ : ∃ n : He.Hd, cs0 = #[.int .i64 n.n, .string n.r] ∧ Open.Okh n := by
    obtain ⟨fuel, hf⟩ := h0
    obtain ⟨n, e, ho⟩ := Open.read_head hf
    exact ⟨n, by cases cs0; simpa [Value.cells, He.Hd.cs] using e, ho⟩
  subst e0
  clear hA0 hval0
  refine (walk W n0 o0).mono fun e W' ⟨he, bel⟩ => ?_
  subst he
  exact ⟨_, rfl, _, _, _, [], _, [], hW', trodAll_mk1 (shut_bool Try.underlying4 _), (trodAll_cons_mk (Below.trod laidOut (by kernel_rfl) (of_decide_eq_true (by kernel_rfl)) k0 bel lt0) trodAll_mk0), rfl, bel.frame _, fun h => by cases h⟩

theorem over : Rows.fnExactHeadOkRow.holds Try.pinned (OpenSpec.ofChange Rows.fnExactHeadOkSpec) :=
  OpenClaim.holds_of_wide 4 Try.f4 rfl rfl rfl rfl rfl rfl rfl ⟨rfl, rfl, rfl, rfl, rfl⟩ rfl rfl rfl rfl rfl (by kernel_rfl) Try.func4 (by kernel_rfl)
    (of_decide_eq_true (by kernel_rfl)) (by unfold Func.isWrapper; first | (rw [if_pos (by decide +kernel)]; kernel_rfl) | (rw [if_neg (by decide +kernel)]; exact ⟨rfl, rfl⟩))
    (fun os started H enc _ => lifted os started H enc)

end Go.Proofs.Ytanidhhcedinoaa.fnExactHeadOk
namespace Go.Proofs.Ytanidhhcedinoaa
theorem fnExactHeadOk_holds : Rows.FnExactHeadOkSaid := fnExactHeadOk.over
end Go.Proofs.Ytanidhhcedinoaa
