/- For every input the law 'FnExactFindEntry' returns true and leaves its arguments as they were: proved without a condition, over the turned code of the commit beside it. -/
import Derived.Test.YtpfiaginonnjmaaRows
import Derived.WalkKit
import Derived.Test.YtpfiaginonnjmaaPk3
import Derived.Test.YtpfiaginonnjmaaPk20
import Derived.Test.YtpfiaginonnjmaaPk24
import Derived.Test.YtpfiaginonnjmaaPk22
import Derived.ProofKit
import Derived.OpenShut
import Derived.ShutString
import Derived.ChangeOld
import Derived.Below
import Derived.SliceStrings
import Derived.Lib.SmallJoins
namespace Go.Proofs.Ytpfiaginonnjmaa.fnExactFindEntry
open Go.ChangeShapes Go.WideShapes Go.ChangeAt Go.RowKit
open Go.ChangeMaps (open_string shut_string)
set_option linter.unusedVariables false
set_option linter.unusedSimpArgs false

theorem own : ownKnob Try.prog.godebug = none := by kernel_rfl
theorem laidOut : laidOutB Try.prog = true := by kernel_rfl

set_option maxRecDepth 1000000 in
set_option maxHeartbeats 4000000 in
theorem walk (w : World) (v0 : Value) (l0 : List Fe.Ev) (a1 : ByteArray) (a2 b2 c2 : Int) (p2 : ByteArray) (h0 : Fe.Se w v0 l0) (y0 : ∀ x ∈ l0, Fe.Oke x) (m0 : l0.length ≤ maxLen) (w1 : a1.size ≤ maxLen) (wa2 : (Lit.int .i64 a2).wf = true) (wb2 : (Lit.int .i64 b2).wf = true) (wc2 : (Lit.int .i64 c2).wf = true) (wp2 : p2.size ≤ maxLen) :
    Calls Try.prog 4 #[v0, .string a1, .agg #[.int .i64 a2, .int .i64 b2, .int .i64 c2, .string p2]] w fun e w' => e = .returned (.bool true) ∧ Below w.heap.size w w' := by
  exact Fe.exact_find w v0 l0 ⟨a1, a2, b2, c2, p2⟩ h0 y0 m0 ⟨w1, wp2⟩ (fun W v' T hB hS hT hf hq hp => Fe.find_impl W v' T ⟨a1, a2, b2, c2, p2⟩ hS (by omega) (fun x hx => by
    obtain ⟨⟨f1, f2, f3⟩, f4⟩ := hf x hx
    exact ⟨by omega, by omega, by omega, fun n hn => by have := f3 n hn; omega⟩))

set_option maxRecDepth 100000 in
theorem lifted (os : Os) (started : os.Started) (H : Type) (enc : TypeId × Value → H) :
    ReturnsInHanded {} Try.checked os 4 .any (Rows.fnExactFindEntrySpec.pre6 enc Try.prog Try.f4 Rows.fnExactFindEntryRow.domain false) (Rows.fnExactFindEntrySpec.post enc Try.prog Try.f4 false true false false) := by
  refine returnsInHanded_of_change (C := Try.checked) own started (by kernel_rfl) Try.func4
    (ChangeSpec.witness6 (enc := enc) (C := Try.checked) false ⟨#[], #[.slice none 0 0, .string ⟨#[]⟩, .agg #[.int .i64 0, .int .i64 0, .int .i64 0, .string ⟨#[]⟩]], []⟩ 8 (by kernel_rfl) (by kernel_rfl) (by kernel_rfl) (by kernel_rfl)) ?_
  intro W base args ds gs before hval0 hW hcnd _
  have hval : ∀ (j : Nat) t v, Try.f4.params[j]? = some t → args[j]? = some v → Value.okWide Try.prog W .any base t v := hval0
  have hW' := hW
  obtain ⟨p, q, hA0, hV, rfl, hfz, hnd⟩ := hW
  have hA : DataW.TrodAll enc Try.prog W 0 (fun _ => true) true Try.f4.params.toList args.toList ds p := hA0
  rw [Try.params4] at hA hval
  obtain ⟨v0, vs0, d0, ds0, p0, q0, hargs, rfl, rfl, h0, r0⟩ := trodAll_cons hA
  obtain ⟨v1, vs1, d1, ds1, p1, q1, rfl, rfl, rfl, h1, r1⟩ := trodAll_cons r0
  obtain ⟨v2, vs2, d2, ds2, p2, q2, rfl, rfl, rfl, h2, r2⟩ := trodAll_cons r1
  obtain ⟨rfl, rfl, rfl⟩ := trodAll_nil r2
  obtain rfl : args = #[v0, v1, v2] := by cases args; simp_all
  obtain ⟨rfl, rfl⟩ := trodVars_none hV
  have k0 := h0
  have lt0 : ∀ x ∈ p0, x.block < W.heap.size := by obtain ⟨m, hm⟩ := k0; exact DataW.trod_lt m _ _ _ hm
  obtain ⟨a0, len0, cap0, rfl⟩ := okWide_slice Try.underlying39 (hval 0 39 v0 rfl rfl)
  obtain ⟨l0, t0, y0, m0⟩ : ∃ l : List Fe.Ev, Fe.Se W (.slice a0 len0 cap0) l ∧ (∀ x ∈ l, Fe.Oke x) ∧ l.length ≤ maxLen := by
    obtain ⟨fuel, hf⟩ := h0
    obtain ⟨ao, m, cap, l, e, hm, hm2, ho, hs⟩ := Open.read_entries hf
    simp [Value.cells] at e
    obtain ⟨rfl, rfl, rfl⟩ := e
    exact ⟨l, hs, ho, hm2⟩
  obtain ⟨a1, rfl, rfl, rfl, w1⟩ := open_string Try.underlying9 (hval 1 9 v1 rfl rfl) h1
  have k2 := h2
  have lt2 : ∀ x ∈ p2, x.block < W.heap.size := by obtain ⟨m, hm⟩ := k2; exact DataW.trod_lt m _ _ _ hm
  obtain ⟨s02, s12, s22, s32, y02, y12, y22, y32, n2, rfl, rfl, rfl, z02, z12, z22, z32⟩ := Joins.open_agg4 Try.underlying40 (by kernel_rfl) (by kernel_rfl) (hval 2 40 v2 rfl rfl) h2
  obtain ⟨a2, e02, rfl, wa2⟩ := DataW.trod_int Try.underlying3 z02
  obtain ⟨b2, e12, rfl, wb2⟩ := DataW.trod_int Try.underlying3 z12
  obtain ⟨c2, e22, rfl, wc2⟩ := DataW.trod_int Try.underlying3 z22
  obtain ⟨q2s, e32, rfl, wp2⟩ := DataW.trod_string Try.underlying9 z32
  simp only [List.cons.injEq, and_true] at e02 e12 e22 e32
  subst e02 e12 e22 e32
  clear z02 z12 z22 z32
  clear hA0 hval0
  refine (walk W _ l0 a1 a2 b2 c2 q2s t0 y0 m0 w1 wa2 wb2 wc2 wp2).mono fun e W' ⟨he, bel⟩ => ?_
  subst he
  exact ⟨_, rfl, _, _, _, [], _, [], hW', trodAll_mk1 (shut_bool Try.underlying4 _), (trodAll_cons_mk (Below.trod laidOut (by kernel_rfl) (of_decide_eq_true (by kernel_rfl)) k0 bel lt0) (trodAll_cons_mk (shut_string Try.underlying9 w1) (trodAll_cons_mk (Below.trod laidOut (by kernel_rfl) (of_decide_eq_true (by kernel_rfl)) k2 bel lt2) trodAll_mk0))), rfl, bel.frame _, fun h => by cases h⟩

theorem over : Rows.fnExactFindEntryRow.holds Try.pinned (OpenSpec.ofChange Rows.fnExactFindEntrySpec) :=
  OpenClaim.holds_of_wide 4 Try.f4 rfl rfl rfl rfl rfl rfl rfl ⟨rfl, rfl, rfl, rfl, rfl⟩ rfl rfl rfl rfl rfl (by kernel_rfl) Try.func4 (by kernel_rfl)
    (of_decide_eq_true (by kernel_rfl)) (by unfold Func.isWrapper; first | (rw [if_pos (by decide +kernel)]; kernel_rfl) | (rw [if_neg (by decide +kernel)]; exact ⟨rfl, rfl⟩))
    (fun os started H enc _ => lifted os started H enc)

end Go.Proofs.Ytpfiaginonnjmaa.fnExactFindEntry
namespace Go.Proofs.Ytpfiaginonnjmaa
theorem fnExactFindEntry_holds : Rows.FnExactFindEntrySaid := fnExactFindEntry.over
end Go.Proofs.Ytpfiaginonnjmaa
