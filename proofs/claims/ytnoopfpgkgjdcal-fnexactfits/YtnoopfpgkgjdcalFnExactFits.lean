/- For every input the law 'FnExactFits' returns true and leaves its arguments as they were: proved without a condition, over the turned code of the commit beside it. -/
import Derived.Test.YtnoopfpgkgjdcalRows
import Derived.WalkKit
import Derived.Test.YtnoopfpgkgjdcalBytes
import Derived.Test.YtnoopfpgkgjdcalModX
import Derived.Test.YtnoopfpgkgjdcalModY
import Derived.Test.YtnoopfpgkgjdcalRowSl
import Derived.ProofKit
import Derived.OpenShut
import Derived.ShutString
import Derived.ChangeOld
import Derived.Below
import Derived.SliceStrings
import Derived.Lib.SmallJoins
namespace Go.Proofs.Ytnoopfpgkgjdcal.fnExactFits
open Go.ChangeShapes Go.WideShapes Go.ChangeAt Go.RowKit
open Go.ChangeMaps (open_string shut_string)
set_option linter.unusedVariables false
set_option linter.unusedSimpArgs false

theorem own : ownKnob Try.prog.godebug = none := by kernel_rfl
theorem laidOut : laidOutB Try.prog = true := by kernel_rfl

set_option maxRecDepth 1000000 in
set_option maxHeartbeats 4000000 in
theorem walk (w : World) (a0 : ByteArray) (a1 b1 c1 : Int) (p1 : ByteArray) (w0 : a0.size ≤ maxLen) (wa1 : (Lit.int .i64 a1).wf = true) (wb1 : (Lit.int .i64 b1).wf = true) (wc1 : (Lit.int .i64 c1).wf = true) (wp1 : p1.size ≤ maxLen) :
    Calls Try.prog 5 #[.string a0, .agg #[.int .i64 a1, .int .i64 b1, .int .i64 c1, .string p1]] w fun e w' => e = .returned (.bool true) ∧ Below w.heap.size w w' := by
  exact Mod.exact_fits w a0 a1 b1 c1 p1 w0 wp1 (fun W hB hs hp => Mod.fits_impl W a0 a1 b1 c1 p1 (by omega) (by omega))

set_option maxRecDepth 100000 in
theorem lifted (os : Os) (started : os.Started) (H : Type) (enc : TypeId × Value → H) :
    ReturnsInHanded {} Try.checked os 5 .any (Rows.fnExactFitsSpec.pre6 enc Try.prog Try.f5 Rows.fnExactFitsRow.domain false) (Rows.fnExactFitsSpec.post enc Try.prog Try.f5 false true false false) := by
  refine returnsInHanded_of_change (C := Try.checked) own started (by kernel_rfl) Try.func5
    (ChangeSpec.witness6 (enc := enc) (C := Try.checked) false ⟨#[], #[.string ⟨#[]⟩, .agg #[.int .i64 0, .int .i64 0, .int .i64 0, .string ⟨#[]⟩]], []⟩ 8 (by kernel_rfl) (by kernel_rfl) (by kernel_rfl) (by kernel_rfl)) ?_
  intro W base args ds gs before hval0 hW hcnd _
  have hval : ∀ (j : Nat) t v, Try.f5.params[j]? = some t → args[j]? = some v → Value.okWide Try.prog W .any base t v := hval0
  have hW' := hW
  obtain ⟨p, q, hA0, hV, rfl, hfz, hnd⟩ := hW
  have hA : DataW.TrodAll enc Try.prog W 0 (fun _ => true) true Try.f5.params.toList args.toList ds p := hA0
  rw [Try.params5] at hA hval
  obtain ⟨v0, vs0, d0, ds0, p0, q0, hargs, rfl, rfl, h0, r0⟩ := trodAll_cons hA
  obtain ⟨v1, vs1, d1, ds1, p1, q1, rfl, rfl, rfl, h1, r1⟩ := trodAll_cons r0
  obtain ⟨rfl, rfl, rfl⟩ := trodAll_nil r1
  obtain rfl : args = #[v0, v1] := by cases args; simp_all
  obtain ⟨rfl, rfl⟩ := trodVars_none hV
  obtain ⟨a0, rfl, rfl, rfl, w0⟩ := open_string Try.underlying9 (hval 0 9 v0 rfl rfl) h0
  have k1 := h1
  have lt1 : ∀ x ∈ p1, x.block < W.heap.size := by obtain ⟨m, hm⟩ := k1; exact DataW.trod_lt m _ _ _ hm
  obtain ⟨s01, s11, s21, s31, y01, y11, y21, y31, n1, rfl, rfl, rfl, z01, z11, z21, z31⟩ := Joins.open_agg4 Try.underlying25 (by kernel_rfl) (by kernel_rfl) (hval 1 25 v1 rfl rfl) h1
  obtain ⟨a1, e01, rfl, wa1⟩ := DataW.trod_int Try.underlying3 z01
  obtain ⟨b1, e11, rfl, wb1⟩ := DataW.trod_int Try.underlying3 z11
  obtain ⟨c1, e21, rfl, wc1⟩ := DataW.trod_int Try.underlying3 z21
  obtain ⟨q1s, e31, rfl, wp1⟩ := DataW.trod_string Try.underlying9 z31
  simp only [List.cons.injEq, and_true] at e01 e11 e21 e31
  subst e01 e11 e21 e31
  clear z01 z11 z21 z31
  clear hA0 hval0
  refine (walk W a0 a1 b1 c1 q1s w0 wa1 wb1 wc1 wp1).mono fun e W' ⟨he, bel⟩ => ?_
  subst he
  exact ⟨_, rfl, _, _, _, [], _, [], hW', trodAll_mk1 (shut_bool Try.underlying4 _), (trodAll_cons_mk (shut_string Try.underlying9 w0) (trodAll_cons_mk (Below.trod laidOut (by kernel_rfl) (of_decide_eq_true (by kernel_rfl)) k1 bel lt1) trodAll_mk0)), rfl, bel.frame _, fun h => by cases h⟩

theorem over : Rows.fnExactFitsRow.holds Try.pinned (OpenSpec.ofChange Rows.fnExactFitsSpec) :=
  OpenClaim.holds_of_wide 5 Try.f5 rfl rfl rfl rfl rfl rfl rfl ⟨rfl, rfl, rfl, rfl, rfl⟩ rfl rfl rfl rfl rfl (by kernel_rfl) Try.func5 (by kernel_rfl)
    (of_decide_eq_true (by kernel_rfl)) (by unfold Func.isWrapper; first | (rw [if_pos (by decide +kernel)]; kernel_rfl) | (rw [if_neg (by decide +kernel)]; exact ⟨rfl, rfl⟩))
    (fun os started H enc _ => lifted os started H enc)

end Go.Proofs.Ytnoopfpgkgjdcal.fnExactFits
namespace Go.Proofs.Ytnoopfpgkgjdcal
theorem fnExactFits_holds : Rows.FnExactFitsSaid := fnExactFits.over
end Go.Proofs.Ytnoopfpgkgjdcal
