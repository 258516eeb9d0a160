/- For every input the law 'FnExactParseVersion' returns true and leaves its arguments as they were: proved without a condition, over the turned code of the commit beside it. -/
import Derived.Test.YtbpgdagmffbagakRows
import Derived.WalkKit
import Derived.Test.YtbpgdagmffbagakBytes
import Derived.Test.YtbpgdagmffbagakVerL
import Derived.Test.YtbpgdagmffbagakVerQ
import Derived.Test.YtbpgdagmffbagakRowSl
import Derived.ProofKit
import Derived.OpenShut
import Derived.ShutString
import Derived.ChangeOld
import Derived.Below
import Derived.SliceStrings
namespace Go.Proofs.Ytbpgdagmffbagak.fnExactParseVersion
open Go.ChangeShapes Go.WideShapes Go.ChangeAt Go.RowKit
open Go.ChangeMaps (open_string shut_string)
set_option linter.unusedVariables false

theorem own : ownKnob Try.prog.godebug = none := by kernel_rfl
theorem laidOut : laidOutB Try.prog = true := by kernel_rfl

set_option maxRecDepth 1000000 in
set_option maxHeartbeats 4000000 in
theorem walk (w : World) (a0 : ByteArray) (w0 : a0.size ≤ maxLen) :
    Calls Try.prog 4 #[.string a0] w fun e w' => e = .returned (.bool true) ∧ Below w.heap.size w w' := by
  unfold maxLen at w0
  by_cases hbig : 1048576 < a0.size
  · go_enter Try.func4, Try.ntmps4
    go_wp2_with fail
    go_ret
    exact ⟨rfl, Below.refl _ _⟩
  · have hle : a0.size ≤ 1048576 := by omega
    have c1 := Ver.parse_spec w a0 (by omega)
    have c2 : ∀ W, _ := fun W => Ver.parse_impl W a0 hle
    rw [Ver.parse_same a0] at c2
    obtain ⟨x, y, z, q, b, hq⟩ : ∃ x y z q b, Ver.parseV a0 = ((x, y, z, q), b) := ⟨_, _, _, _, _, rfl⟩
    rw [hq] at c1 c2
    unfold Ver.verQ Ver.ver at c1 c2
    clear hq
    go_enter Try.func4, Try.ntmps4
    go_wp2_with fail
    refine c1.mono ?_
    rintro e W1 ⟨rfl, b1⟩
    have V1 : Hid (Ver.Vr (W1.alloc (.cells (Ver.vc x y z q) 26)) W1.heap.size x y z q) := heap_alloc_new W1 _
    have B1 : Below w.heap.size w (W1.alloc (.cells (Ver.vc x y z q) 26)) := b1.alloc b1.size _
    clear c1 b1
    go_wp2_with fail
    refine (c2 _).mono ?_
    rintro e W2 ⟨rfl, b2⟩
    have V2 : Ver.Vr W2 W1.heap.size x y z q := Ver.Vr.same V1.out b2
    have B2 : Below w.heap.size w W2 := B1.trans (b2.mono B1.size)
    have V3 : Ver.Vr (W2.alloc (.cells (Ver.vc x y z q) 26)) W1.heap.size x y z q := Ver.Vr.same V2 ((Below.refl W2.heap.size W2).alloc (Nat.le_refl _) _)
    have V4 : Ver.Vr (W2.alloc (.cells (Ver.vc x y z q) 26)) W2.heap.size x y z q := heap_alloc_new W2 _
    have B3 : Below w.heap.size w (W2.alloc (.cells (Ver.vc x y z q) 26)) := B2.alloc B2.size _
    clear V1 B1 b2 c2 V2
    go_wp2_with (first | (refine wpList_load_row rfl 26 _ rfl W2.heap.size rfl 26 (Ver.vc x y z q) (0, 0) _ V4 Try.underlying26 rfl (Ver.sizeV x y z q) ?_) | (refine wpList_load_row rfl 26 _ rfl W1.heap.size rfl 26 (Ver.vc x y z q) (0, 0) _ V3 Try.underlying26 rfl (Ver.sizeV x y z q) ?_))
    refine (Ver.eq_same (W2.alloc (.cells (Ver.vc x y z q) 26)) x y z q).mono ?_
    rintro e W3 ⟨rfl, b3⟩
    have B4 : Below w.heap.size w W3 := B3.trans (b3.mono B3.size)
    clear V3 V4 B3 b3 B2
    cases b
    · go_wp2_with fail
      go_ret
      exact ⟨rfl, B4⟩
    · go_wp2_with fail
      go_ret
      exact ⟨rfl, B4⟩

set_option maxRecDepth 100000 in
theorem lifted (os : Os) (started : os.Started) (H : Type) (enc : TypeId × Value → H) :
    ReturnsInHanded {} Try.checked os 4 .any (Rows.fnExactParseVersionSpec.pre6 enc Try.prog Try.f4 Rows.fnExactParseVersionRow.domain false) (Rows.fnExactParseVersionSpec.post enc Try.prog Try.f4 false true false false) := by
  refine returnsInHanded_of_change (C := Try.checked) own started (by kernel_rfl) Try.func4
    (ChangeSpec.witness6 (enc := enc) (C := Try.checked) false ⟨#[], #[.string ⟨#[]⟩], []⟩ 8 (by kernel_rfl) (by kernel_rfl) (by kernel_rfl) (by kernel_rfl)) ?_
  intro W base args ds gs before hval0 hW hcnd _
  have hval : ∀ (j : Nat) t v, Try.f4.params[j]? = some t → args[j]? = some v → Value.okWide Try.prog W .any base t v := hval0
  have hW' := hW
  obtain ⟨p, q, hA0, hV, rfl, hfz, hnd⟩ := hW
  have hA : DataW.TrodAll enc Try.prog W 0 (fun _ => true) true Try.f4.params.toList args.toList ds p := hA0
  rw [Try.params4] at hA hval
  obtain ⟨v0, vs0, d0, ds0, p0, q0, hargs, rfl, rfl, h0, r0⟩ := trodAll_cons hA
  obtain ⟨rfl, rfl, rfl⟩ := trodAll_nil r0
  obtain rfl : args = #[v0] := by cases args; simp_all
  obtain ⟨rfl, rfl⟩ := trodVars_none hV
  obtain ⟨a0, rfl, rfl, rfl, w0⟩ := open_string Try.underlying9 (hval 0 9 v0 rfl rfl) h0
  clear hA0 hval0
  refine (walk W a0 w0).mono fun e W' ⟨he, bel⟩ => ?_
  subst he
  exact ⟨_, rfl, _, _, _, [], _, [], hW', trodAll_mk1 (shut_bool Try.underlying4 _), (trodAll_cons_mk (shut_string Try.underlying9 w0) trodAll_mk0), rfl, bel.frame _, fun h => by cases h⟩

theorem over : Rows.fnExactParseVersionRow.holds Try.pinned (OpenSpec.ofChange Rows.fnExactParseVersionSpec) :=
  OpenClaim.holds_of_wide 4 Try.f4 rfl rfl rfl rfl rfl rfl rfl ⟨rfl, rfl, rfl, rfl, rfl⟩ rfl rfl rfl rfl rfl (by kernel_rfl) Try.func4 (by kernel_rfl)
    (of_decide_eq_true (by kernel_rfl)) (by unfold Func.isWrapper; first | (rw [if_pos (by decide +kernel)]; kernel_rfl) | (rw [if_neg (by decide +kernel)]; exact ⟨rfl, rfl⟩))
    (fun os started H enc _ => lifted os started H enc)

end Go.Proofs.Ytbpgdagmffbagak.fnExactParseVersion
namespace Go.Proofs.Ytbpgdagmffbagak
theorem fnExactParseVersion_holds : Rows.FnExactParseVersionSaid := fnExactParseVersion.over
end Go.Proofs.Ytbpgdagmffbagak
