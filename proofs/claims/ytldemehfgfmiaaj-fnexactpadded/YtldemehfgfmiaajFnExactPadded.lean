/- For every input the law 'FnExactPadded' returns true and leaves its arguments as they were: proved without a condition, over the turned code of the commit beside it. -/
import Derived.Test.YtldemehfgfmiaajRows
import Derived.WalkKit
import Derived.Test.YtldemehfgfmiaajBytes
import Derived.Test.YtldemehfgfmiaajSha
import Derived.Test.YtldemehfgfmiaajSha4
import Derived.Test.YtldemehfgfmiaajShaA
import Derived.Test.YtldemehfgfmiaajRowSl
import Derived.ProofKit
import Derived.OpenShut
import Derived.ShutString
import Derived.ChangeOld
import Derived.Below
import Derived.SliceStrings
namespace Go.Proofs.Ytldemehfgfmiaaj.fnExactPadded
open Go.ChangeShapes Go.WideShapes Go.ChangeAt Go.RowKit
open Go.ChangeMaps (open_string shut_string)
set_option linter.unusedVariables false

theorem own : ownKnob Try.prog.godebug = none := by kernel_rfl
theorem laidOut : laidOutB Try.prog = true := by kernel_rfl

set_option maxRecDepth 1000000 in
set_option maxHeartbeats 4000000 in
theorem walk (w : World) (v0 : Value) (xs0 : List Int) (h0 : Mem.Sl w v0 (Mem.bs xs0)) (y0 : Mem.Byt xs0) (m0 : xs0.length ≤ maxLen) :
    Calls Try.prog 5 #[v0] w fun e w' => e = .returned (.bool true) ∧ Below w.heap.size w w' := by
  have hs := h0
  have hby := y0
  obtain ⟨ao0, cap0, rfl, -, -, -⟩ := h0
  rw [Mem.bs_len] at hs ⊢
  clear m0 y0
  by_cases hbig : 1048576 < xs0.length
  · go_enter Try.func5, Try.ntmps5
    go_wp2
    go_ret
    exact ⟨rfl, Below.refl _ _⟩
  · obtain ⟨R, hR⟩ : ∃ R, R = Sha.padded xs0 := ⟨_, rfl⟩
    have HR : Hid (Sha.padded xs0 = R) := hR.symm
    have hRl : R.length ≤ 2000000 := by rw [hR]; have := Sha.padded_le xs0; omega
    clear hR
    go_enter Try.func5, Try.ntmps5
    have B0 : Below w.heap.size w w := Below.refl _ _
    go_wp2_with fail
    refine (Bytes.to_any w _ xs0 (hs.later B0) (by omega)).mono ?_
    rintro e W1 ⟨v1, rfl, o_v1_1, b1⟩
    have s1 := b1.size
    have B1 : Below w.heap.size w W1 := B0.trans (b1.mono B0.size)
    go_wp2_with fail
    refine (Sha.padded_spec W1 _ xs0 o_v1_1.sl (by omega)).mono ?_
    rintro e W2 ⟨vw, rfl, o_vw_2, b2⟩
    have s2 := b2.size
    have B2 : Below w.heap.size w W2 := B1.trans (b2.mono B1.size)
    have o_v1_2 := o_v1_1.later b2 (by omega)
    clear o_v1_1
    rw [HR.out] at o_vw_2
    clear o_v1_2
    go_wp2_with fail
    refine (Bytes.to_any W2 _ xs0 (hs.later B2) (by omega)).mono ?_
    rintro e W3 ⟨x0, rfl, o_x0_3, b3⟩
    have s3 := b3.size
    have B3 : Below w.heap.size w W3 := B2.trans (b3.mono B2.size)
    have o_vw_3 := o_vw_2.later b3 (by omega)
    clear o_vw_2
    go_wp2_with fail
    refine (Sha.padded_impl W3 _ xs0 o_x0_3.sl (by omega)).mono ?_
    rintro e W4 ⟨g0, rfl, o_g0_4, b4⟩
    have s4 := b4.size
    have B4 : Below w.heap.size w W4 := B3.trans (b4.mono B3.size)
    have o_vw_4 := o_vw_3.later b4 (by omega)
    have o_x0_4 := o_x0_3.later b4 (by omega)
    clear o_vw_3 o_x0_3
    rw [HR.out] at o_g0_4
    go_wp2_with fail
    refine (Bytes.eq_true W4 _ _ R o_g0_4.sl o_vw_4.sl (by omega)).mono ?_
    rintro e W5 ⟨rfl, b5, s5⟩
    have B5 : Below w.heap.size w W5 := B4.trans (b5 _)
    have o_vw_5 := o_vw_4.later (b5 _) (Nat.le_refl _)
    have o_x0_5 := o_x0_4.later (b5 _) (Nat.le_refl _)
    have o_g0_5 := o_g0_4.later (b5 _) (Nat.le_refl _)
    clear o_vw_4 o_x0_4 o_g0_4
    go_wp2_with fail
    refine (Bytes.to_any W5 _ xs0 (hs.later B5) (by omega)).mono ?_
    rintro e W6 ⟨t0, rfl, o_t0_6, b6⟩
    have s6 := b6.size
    have B6 : Below w.heap.size w W6 := B5.trans (b6.mono B5.size)
    have o_vw_6 := o_vw_5.later b6 (by omega)
    have o_x0_6 := o_x0_5.later b6 (by omega)
    have o_g0_6 := o_g0_5.later b6 (by omega)
    clear o_vw_5 o_x0_5 o_g0_5
    go_wp2_with fail
    refine (Bytes.eq_true W6 _ _ xs0 o_x0_6.sl o_t0_6.sl (by omega)).mono ?_
    rintro e W7 ⟨rfl, b7, s7⟩
    have B7 : Below w.heap.size w W7 := B6.trans (b7 _)
    have o_vw_7 := o_vw_6.later (b7 _) (Nat.le_refl _)
    have o_x0_7 := o_x0_6.later (b7 _) (Nat.le_refl _)
    have o_g0_7 := o_g0_6.later (b7 _) (Nat.le_refl _)
    have o_t0_7 := o_t0_6.later (b7 _) (Nat.le_refl _)
    clear o_vw_6 o_x0_6 o_g0_6 o_t0_6
    clear o_t0_7
    go_wp2_with fail
    refine (Bytes.mark_bytes W7 _ (W2.heap.size) (W3.heap.size) xs0 1 o_x0_7 (by omega) (by omega)).mono ?_
    rintro e W8 ⟨rfl, o_x0_8, a8⟩
    have s8 := a8.size
    have B8 : Below w.heap.size w W8 := B7.trans (a8.below (by have := B7.size; omega) B7.size)
    have o_vw_8 := o_vw_7.apart a8 (by omega) (by omega)
    have o_g0_8 := o_g0_7.apart a8 (by omega) (by omega)
    clear o_vw_7 o_x0_7 o_g0_7
    clear o_x0_8
    go_wp2_with fail
    refine (Bytes.eq_true W8 _ _ R o_g0_8.sl o_vw_8.sl (by omega)).mono ?_
    rintro e W9 ⟨rfl, b9, s9⟩
    have B9 : Below w.heap.size w W9 := B8.trans (b9 _)
    have o_vw_9 := o_vw_8.later (b9 _) (Nat.le_refl _)
    have o_g0_9 := o_g0_8.later (b9 _) (Nat.le_refl _)
    clear o_vw_8 o_g0_8
    go_wp2_with fail
    refine (Bytes.mark_bytes W9 _ (W3.heap.size) (W4.heap.size) R 1 o_g0_9 (by omega) (by omega)).mono ?_
    rintro e W10 ⟨rfl, o_g0_10, a10⟩
    have s10 := a10.size
    have B10 : Below w.heap.size w W10 := B9.trans (a10.below (by have := B9.size; omega) B9.size)
    have o_vw_10 := o_vw_9.apart a10 (by omega) (by omega)
    clear o_vw_9 o_g0_9
    go_wp2_with fail
    refine (Bytes.held_any W10 _ R.length 1 o_g0_10.sl (by omega) (by omega)).mono ?_
    rintro e WX ⟨rfl, hWX⟩
    have hWX := hWX.symm
    subst hWX
    go_wp2_with fail
    refine (Bytes.to_any W10 _ xs0 (hs.later B10) (by omega)).mono ?_
    rintro e W11 ⟨t1, rfl, o_t1_11, b11⟩
    have s11 := b11.size
    have B11 : Below w.heap.size w W11 := B10.trans (b11.mono B10.size)
    have o_vw_11 := o_vw_10.later b11 (by omega)
    have o_g0_11 := o_g0_10.later b11 (by omega)
    clear o_vw_10 o_g0_10
    go_wp2_with fail
    refine (Sha.padded_impl W11 _ xs0 o_t1_11.sl (by omega)).mono ?_
    rintro e W12 ⟨h0, rfl, o_h0_12, b12⟩
    have s12 := b12.size
    have B12 : Below w.heap.size w W12 := B11.trans (b12.mono B11.size)
    have o_vw_12 := o_vw_11.later b12 (by omega)
    have o_g0_12 := o_g0_11.later b12 (by omega)
    have o_t1_12 := o_t1_11.later b12 (by omega)
    clear o_vw_11 o_g0_11 o_t1_11
    rw [HR.out] at o_h0_12
    clear o_t1_12
    go_wp2_with fail
    refine (Bytes.eq_true W12 _ _ R o_h0_12.sl o_vw_12.sl (by omega)).mono ?_
    rintro e W13 ⟨rfl, b13, s13⟩
    have B13 : Below w.heap.size w W13 := B12.trans (b13 _)
    have o_vw_13 := o_vw_12.later (b13 _) (Nat.le_refl _)
    have o_g0_13 := o_g0_12.later (b13 _) (Nat.le_refl _)
    have o_h0_13 := o_h0_12.later (b13 _) (Nat.le_refl _)
    clear o_vw_12 o_g0_12 o_h0_12
    go_wp2_with fail
    refine (Bytes.held_any W13 _ R.length 1 o_g0_13.sl (by omega) (by omega)).mono ?_
    rintro e WX ⟨rfl, hWX⟩
    have hWX := hWX.symm
    subst hWX
    go_wp2
    go_ret
    exact ⟨rfl, B13⟩

set_option maxRecDepth 100000 in
theorem lifted (os : Os) (started : os.Started) (H : Type) (enc : TypeId × Value → H) :
    ReturnsInHanded {} Try.checked os 5 .any (Rows.fnExactPaddedSpec.pre6 enc Try.prog Try.f5 Rows.fnExactPaddedRow.domain false) (Rows.fnExactPaddedSpec.post enc Try.prog Try.f5 false true false false) := by
  refine returnsInHanded_of_change (C := Try.checked) own started (by kernel_rfl) Try.func5
    (ChangeSpec.witness6 (enc := enc) (C := Try.checked) false ⟨#[], #[.slice none 0 0], []⟩ 8 (by kernel_rfl) (by kernel_rfl) (by kernel_rfl) (by kernel_rfl)) ?_
  intro W base args ds gs before hval0 hW hcnd _
  have hval : ∀ (j : Nat) t v, Try.f5.params[j]? = some t → args[j]? = some v → Value.okWide Try.prog W .any base t v := hval0
  have hW' := hW
  obtain ⟨p, q, hA0, hV, rfl, hfz, hnd⟩ := hW
  have hA : DataW.TrodAll enc Try.prog W 0 (fun _ => true) true Try.f5.params.toList args.toList ds p := hA0
  rw [Try.params5] at hA hval
  obtain ⟨v0, vs0, d0, ds0, p0, q0, hargs, rfl, rfl, h0, r0⟩ := trodAll_cons hA
  obtain ⟨rfl, rfl, rfl⟩ := trodAll_nil r0
  obtain rfl : args = #[v0] := by cases args; simp_all
  obtain ⟨rfl, rfl⟩ := trodVars_none hV
  obtain ⟨a0, len0, cap0, rfl⟩ := okWide_slice Try.underlying22 (hval 0 22 v0 rfl rfl)
  have k0 := h0
  have lt0 : ∀ x ∈ p0, x.block < W.heap.size := by obtain ⟨m, hm⟩ := k0; exact DataW.trod_lt m _ _ _ hm
  obtain ⟨xs0, t0, y0, m0⟩ : ∃ xs, Mem.Sl W (.slice a0 len0 cap0) (Mem.bs xs) ∧ Mem.Byt xs ∧ xs.length ≤ maxLen := by
    obtain ⟨fuel, hf⟩ := h0
    rcases open_ints Try.underlying22 Try.underlying5 (by kernel_rfl) hf with ⟨hcs, _⟩ | ⟨x, l, c, zs, hcs, _, hl, hm, hz, _, hcell, hwz⟩
    · simp [Value.cells] at hcs
      obtain ⟨rfl, rfl, rfl⟩ := hcs
      obtain ⟨xs, hs, _, hy⟩ := RowSl.row_sl (w := W) (a := none) (len := 0) (cap := 0) (zs := []) (.inl ⟨rfl, rfl, rfl, rfl⟩)
      exact ⟨xs, hs, hy, by have h0 : xs.length = 0 := (by omega); rw [h0]; exact Nat.zero_le _⟩
    · simp [Value.cells] at hcs
      obtain ⟨rfl, rfl, rfl⟩ := hcs
      obtain ⟨xs, hs, he, hy⟩ := RowSl.row_sl (w := W) (.inr ⟨_, rfl, hl, hm, by simpa using hz, hcell, hwz⟩)
      exact ⟨xs, hs, hy, by rw [← he]; exact Nat.le_trans hl hm⟩
  clear hA0 hval0
  refine (walk W _ xs0 t0 y0 m0).mono fun e W' ⟨he, bel⟩ => ?_
  subst he
  exact ⟨_, rfl, _, _, _, [], _, [], hW', trodAll_mk1 (shut_bool Try.underlying4 _), (trodAll_cons_mk (Below.trod laidOut (by kernel_rfl) (of_decide_eq_true (by kernel_rfl)) k0 bel lt0) trodAll_mk0), rfl, bel.frame _, fun h => by cases h⟩

theorem over : Rows.fnExactPaddedRow.holds Try.pinned (OpenSpec.ofChange Rows.fnExactPaddedSpec) :=
  OpenClaim.holds_of_wide 5 Try.f5 rfl rfl rfl rfl rfl rfl rfl ⟨rfl, rfl, rfl, rfl, rfl⟩ rfl rfl rfl rfl rfl (by kernel_rfl) Try.func5 (by kernel_rfl)
    (of_decide_eq_true (by kernel_rfl)) (by unfold Func.isWrapper; first | (rw [if_pos (by decide +kernel)]; kernel_rfl) | (rw [if_neg (by decide +kernel)]; exact ⟨rfl, rfl⟩))
    (fun os started H enc _ => lifted os started H enc)

end Go.Proofs.Ytldemehfgfmiaaj.fnExactPadded
namespace Go.Proofs.Ytldemehfgfmiaaj
theorem fnExactPadded_holds : Rows.FnExactPaddedSaid := fnExactPadded.over
end Go.Proofs.Ytldemehfgfmiaaj
