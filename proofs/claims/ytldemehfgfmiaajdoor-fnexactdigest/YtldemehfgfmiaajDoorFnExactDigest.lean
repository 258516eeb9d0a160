/- For every input the law 'FnExactDigest' returns true and leaves its arguments as they were: proved of the card: the program's two tables of words stand when the call begins as the program's text lays them (tied by the given text; of other packages of the project than those loaded nothing is said); over the turned code of the commit beside it. -/
import Derived.Test.YtldemehfgfmiaajDoorRows
import Derived.Test.YtldemehfgfmiaajDoorCards
import Derived.Test.YtldemehfgfmiaajDoorTie
import Derived.WalkKit
import Derived.LaidMore
import Derived.Stop.Joined
import Derived.OpenVars
import Derived.Test.YtldemehfgfmiaajDoorBytes
import Derived.Test.YtldemehfgfmiaajDoorSha4
import Derived.Test.YtldemehfgfmiaajDoorShaI
import Derived.Test.YtldemehfgfmiaajDoorShaG
import Derived.Test.YtldemehfgfmiaajDoorRowSl
import Derived.ProofKit
import Derived.OpenShut
import Derived.ShutString
import Derived.ChangeOld
import Derived.Below
import Derived.SliceStrings
namespace Go.Proofs.YtldemehfgfmiaajDoor.fnExactDigest
open Go.ChangeShapes Go.WideShapes Go.ChangeAt Go.RowKit
open Go.ChangeMaps (open_string shut_string)
set_option linter.unusedVariables false

theorem own : ownKnob Tryd.prog.godebug = none := by kernel_rfl
theorem laidOut : laidOutB Tryd.prog = true := by kernel_rfl

set_option maxRecDepth 1000000 in
set_option maxHeartbeats 4000000 in
theorem walk (w : World) (hG : Sha.Glob w) (v0 : Value) (xs0 : List Int) (h0 : Mem.Sl w v0 (Mem.bs xs0)) (y0 : Mem.Byt xs0) (m0 : xs0.length ≤ maxLen) :
    Calls Tryd.prog 3 #[v0] w fun e w' => e = .returned (.bool true) ∧ Below w.heap.size w w' := by
  have hs := h0
  have hby := y0
  obtain ⟨ao0, cap0, rfl, -, -, -⟩ := h0
  rw [Mem.bs_len] at hs ⊢
  clear m0 y0
  by_cases hbig : 1048576 < xs0.length
  · go_enter Tryd.func3, Tryd.ntmps3
    go_wp2
    go_ret
    exact ⟨rfl, Below.refl _ _⟩
  · go_enter Tryd.func3, Tryd.ntmps3
    have B0 : Below w.heap.size w w := Below.refl _ _
    go_wp2_with fail
    refine (Bytes.to_any w _ xs0 (hs.later B0) (by omega)).mono ?_
    rintro e W1 ⟨v1, rfl, o_v1_1, b1⟩
    have s1 := b1.size
    have B1 : Below w.heap.size w W1 := B0.trans (b1.mono B0.size)
    go_wp2_with fail
    refine (Sha.digest_spec W1 _ xs0 o_v1_1.sl hby (by omega)).mono ?_
    rintro e W2 ⟨rfl, b2⟩
    have s2 := b2.size
    have B2 : Below w.heap.size w W2 := B1.trans (b2.mono B1.size)
    have o_v1_2 := o_v1_1.later b2 (by omega)
    clear o_v1_1
    clear o_v1_2
    go_wp2_with fail
    refine (Bytes.to_any W2 _ xs0 (hs.later B2) (by omega)).mono ?_
    rintro e W3 ⟨x0, rfl, o_x0_3, b3⟩
    have s3 := b3.size
    have B3 : Below w.heap.size w W3 := B2.trans (b3.mono B2.size)
    go_wp2_with fail
    refine (Sha.digest_impl W3 _ xs0 (hG.later B3) o_x0_3.sl hby (by omega)).mono ?_
    rintro e W4 ⟨rfl, b4⟩
    have s4 := b4.size
    have B4 : Below w.heap.size w W4 := B3.trans (b4.mono B3.size)
    have o_x0_4 := o_x0_3.later b4 (by omega)
    clear o_x0_3
    go_wp2_with fail
    refine (Bytes.to_any W4 _ xs0 (hs.later B4) (by omega)).mono ?_
    rintro e W5 ⟨t0, rfl, o_t0_5, b5⟩
    have s5 := b5.size
    have B5 : Below w.heap.size w W5 := B4.trans (b5.mono B4.size)
    have o_x0_5 := o_x0_4.later b5 (by omega)
    clear o_x0_4
    go_wp2_with fail
    refine (Bytes.eq_true W5 _ _ xs0 o_x0_5.sl o_t0_5.sl (by omega)).mono ?_
    rintro e W6 ⟨rfl, b6, s6⟩
    have B6 : Below w.heap.size w W6 := B5.trans (b6 _)
    have o_x0_6 := o_x0_5.later (b6 _) (Nat.le_refl _)
    have o_t0_6 := o_t0_5.later (b6 _) (Nat.le_refl _)
    clear o_x0_5 o_t0_5
    go_wp2
    go_ret
    exact ⟨rfl, B6⟩

theorem plainLaid : Rows.fnExactDigestRow.laid = [("loop.example/g00233/impl.rootWords", Rows.laid_loop_example_g00233_impl_rootWords), ("loop.example/g00233/impl.roundWords", Rows.laid_loop_example_g00233_impl_roundWords)] := rfl
theorem glob {W : World} (h : laidMetH Tryd.prog Rows.fnExactDigestRow.laid W) : Sha.Glob W := by
  rw [MakeChecks.laidMetH_plain _ _ _ (by kernel_rfl), plainLaid] at h
  exact Sha.glob_of h

theorem door_met (os : Os) (args : Array Value) : laidMetH Tryd.prog Rows.fnExactDigestRow.laid ((World.doorLaid Tryd.prog 400 os).forCall (fun _ _ => 0) ⟨#[], args, []⟩).memory :=
  laidMetH_of_parts3 (fuel := 8) (laidMet_of_run' 8 (by kernel_rfl) (by kernel_rfl)) (by kernel_rfl) (by kernel_rfl)

set_option maxRecDepth 100000 in
theorem lifted (os : Os) (started : os.Started) (H : Type) (enc : TypeId × Value → H) :
    ReturnsInHanded {} Tryd.checked os 3 .any (fun w args => (Rows.fnExactDigestSpec.pre enc Tryd.prog Tryd.f3 Rows.fnExactDigestRow.domain false w args ∧ laidMetH Tryd.prog Rows.fnExactDigestRow.laid w) ∧ sizedMet enc Tryd.prog Tryd.f3 (OpenSpec.ofChange Rows.fnExactDigestSpec) false w args) (Rows.fnExactDigestSpec.post enc Tryd.prog Tryd.f3 false true false false) := by
  refine returnsInHanded_of_change_and (C := Tryd.checked) (X := fun w _ => laidMetH Tryd.prog Rows.fnExactDigestRow.laid w) (fun _ _ _ hh h => h.of_heap hh) own started (by kernel_rfl) Tryd.func3
    (ChangeSpec.witness_shaped (enc := enc) (C := Tryd.checked) (os := os) (X := fun w _ => laidMetH Tryd.prog Rows.fnExactDigestRow.laid w) false (World.doorLaid Tryd.prog 400 os) #[.slice none 0 0] 8 rfl (World.shaped_of_RefB (by kernel_rfl) (by kernel_rfl)) (by kernel_rfl) (by kernel_rfl) (by kernel_rfl) (door_met os _)) ?_
  intro W base args ds gs before hval0 hW hcnd _ hL _
  have hval : ∀ (j : Nat) t v, Tryd.f3.params[j]? = some t → args[j]? = some v → Value.okWide Tryd.prog W .any base t v := hval0
  have hW' := hW
  obtain ⟨p, q, hA0, hV, rfl, hfz, hnd⟩ := hW
  have hA : DataW.TrodAll enc Tryd.prog W 0 (fun _ => true) true Tryd.f3.params.toList args.toList ds p := hA0
  rw [Tryd.params3] at hA hval
  obtain ⟨v0, vs0, d0, ds0, p0, q0, hargs, rfl, rfl, h0, r0⟩ := trodAll_cons hA
  obtain ⟨rfl, rfl, rfl⟩ := trodAll_nil r0
  obtain rfl : args = #[v0] := by cases args; simp_all
  have hV' := hV
  obtain ⟨gA, tA, csA, fA, dA, pA, gB, tB, csB, fB, dB, pB, rfl, _, _, _, _, _, _, _, _, rfl⟩ := trodVars_two hV
  obtain ⟨a0, len0, cap0, rfl⟩ := okWide_slice Tryd.underlying22 (hval 0 22 v0 rfl rfl)
  have k0 := h0
  have lt0 : ∀ x ∈ p0, x.block < W.heap.size := by obtain ⟨m, hm⟩ := k0; exact DataW.trod_lt m _ _ _ hm
  obtain ⟨xs0, t0, y0, m0⟩ : ∃ xs, Mem.Sl W (.slice a0 len0 cap0) (Mem.bs xs) ∧ Mem.Byt xs ∧ xs.length ≤ maxLen := by
    obtain ⟨fuel, hf⟩ := h0
    rcases open_ints Tryd.underlying22 Tryd.underlying5 (by kernel_rfl) hf with ⟨hcs, _⟩ | ⟨x, l, c, zs, hcs, _, hl, hm, hz, _, hcell, hwz⟩
    · simp [Value.cells] at hcs
      obtain ⟨rfl, rfl, rfl⟩ := hcs
      obtain ⟨xs, hs, _, hy⟩ := RowSl.row_sl (w := W) (a := none) (len := 0) (cap := 0) (zs := []) (.inl ⟨rfl, rfl, rfl, rfl⟩)
      exact ⟨xs, hs, hy, by have h0 : xs.length = 0 := (by omega); rw [h0]; exact Nat.zero_le _⟩
    · simp [Value.cells] at hcs
      obtain ⟨rfl, rfl, rfl⟩ := hcs
      obtain ⟨xs, hs, he, hy⟩ := RowSl.row_sl (w := W) (.inr ⟨_, rfl, hl, hm, by simpa using hz, hcell, hwz⟩)
      exact ⟨xs, hs, hy, by rw [← he]; exact Nat.le_trans hl hm⟩
  clear hA0 hval0
  refine (walk W (glob hL) _ xs0 t0 y0 m0).mono fun e W' ⟨he, bel⟩ => ?_
  subst he
  exact ⟨_, rfl, _, _, _, [], _, _, hW', trodAll_mk1 (shut_bool Tryd.underlying4 _), (trodAll_cons_mk (Below.trod laidOut (by kernel_rfl) (of_decide_eq_true (by kernel_rfl)) k0 bel lt0) trodAll_mk0), Below.trodVars laidOut bel (by kernel_rfl) hV', bel.frame _, fun h => by cases h⟩

theorem over : Rows.fnExactDigestRow.holds Tryd.pinned (OpenSpec.ofChange Rows.fnExactDigestSpec) :=
  OpenClaim.holds_of_wide 3 Tryd.f3 rfl rfl rfl rfl rfl rfl rfl ⟨rfl, rfl, rfl, rfl, rfl⟩ rfl rfl rfl rfl rfl (by kernel_rfl) Tryd.func3 (by kernel_rfl)
    (of_decide_eq_true (by kernel_rfl)) (by unfold Func.isWrapper; first | (rw [if_pos (by decide +kernel)]; kernel_rfl) | (rw [if_neg (by decide +kernel)]; exact ⟨rfl, rfl⟩))
    (fun os started H enc _ => lifted os started H enc)

theorem plain (f : FuncId) (fn : Func) (hf : Tryd.pinned.checked.prog.funcNamed "loop.example/g00233/laws.FnExactDigest" = some f) (hfn : Tryd.pinned.checked.prog.funcs[f]? = some fn) :
    false = Tryd.pinned.checked.prog.looks [] ∧ ∀ (j : Nat) t, fn.params[j]? = some t → Tryd.pinned.checked.prog.wantsStandIn t = false := by
  obtain rfl : f = 3 := Option.some.inj ((show Tryd.prog.funcNamed "loop.example/g00233/laws.FnExactDigest" = some 3 by kernel_rfl).symm.trans hf) |>.symm
  obtain rfl : fn = Tryd.f3 := (Option.some.inj (Tryd.func3.symm.trans hfn)).symm
  refine ⟨by kernel_rfl, fun j t ht => ?_⟩
  rw [Tryd.params3] at ht
  have hm : t ∈ [22] := by simpa using Array.mem_of_getElem? ht
  have hall : ([22].all fun u => !Tryd.prog.wantsStandIn u) = true := by kernel_rfl
  exact (show Tryd.prog.wantsStandIn t = false by simpa using List.all_eq_true.1 hall t hm)

end Go.Proofs.YtldemehfgfmiaajDoor.fnExactDigest
namespace Go.Proofs.YtldemehfgfmiaajDoor
theorem fnExactDigest_holds : Rows.FnExactDigestCardSaid :=
  Claim7.holds_tied_plain_at .later [] _ _ _ _ fnExactDigest.over (fun _ h => by cases h) (by kernel_rfl) (fun _ h => by cases h) fnExactDigest_row_tie rfl ⟨rfl, rfl⟩ (by kernel_rfl) rfl fnExactDigest.plain (by kernel_rfl)
end Go.Proofs.YtldemehfgfmiaajDoor
