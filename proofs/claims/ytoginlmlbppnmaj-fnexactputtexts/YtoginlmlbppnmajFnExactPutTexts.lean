/- For every input the law 'FnExactPutTexts' returns true and leaves its arguments as they were: proved without a condition, over the turned code of the commit beside it. -/
import Derived.Test.YtoginlmlbppnmajRows
import Derived.WalkKit
import Derived.Test.YtoginlmlbppnmajBytes
import Derived.Test.YtoginlmlbppnmajStrs
import Derived.Test.YtoginlmlbppnmajPuts
import Derived.Test.YtoginlmlbppnmajRowSl
import Derived.ProofKit
import Derived.OpenShut
import Derived.ShutString
import Derived.ChangeOld
import Derived.Below
import Derived.SliceStrings
namespace Go.Proofs.Ytoginlmlbppnmaj.fnExactPutTexts
open Go.ChangeShapes Go.WideShapes Go.ChangeAt Go.RowKit
open Go.ChangeMaps (open_string shut_string)
set_option linter.unusedVariables false

theorem own : ownKnob Try.prog.godebug = none := by kernel_rfl
theorem laidOut : laidOutB Try.prog = true := by kernel_rfl

set_option maxRecDepth 1000000 in
set_option maxHeartbeats 4000000 in
theorem walk (w : World) (v0 : Value) (xs0 : List Int) (v1 : Value) (l1 : List ByteArray) (h0 : Mem.Sl w v0 (Mem.bs xs0)) (y0 : Mem.Byt xs0) (m0 : xs0.length ≤ maxLen) (h1 : Mem.Sl w v1 (Mem.ss l1)) (y1 : ∀ s ∈ l1, s.size ≤ maxLen) (m1 : l1.length ≤ maxLen) :
    Calls Try.prog 3 #[v0, v1] w fun e w' => e = .returned (.bool true) ∧ Below w.heap.size w w' := by
  have hs := h0
  have ht := h1
  obtain ⟨ao0, cap0, rfl, -, -, -⟩ := h0
  obtain ⟨ao1, cap1, rfl, -, -, -⟩ := h1
  rw [Mem.bs_len] at hs ⊢
  rw [Mem.ss_len] at ht ⊢
  unfold maxLen at m0 m1 y1
  by_cases hbig : 1048576 < xs0.length
  · go_enter Try.func3, Try.ntmps3
    go_wp2
    go_ret
    exact ⟨rfl, Below.refl _ _⟩
  · have hsz := Strs.sz_any w _ l1 1048576 ht y1 m1 (by omega)
    go_enter Try.func3, Try.ntmps3
    go_wp2_with fail
    refine hsz.mono ?_
    rintro e WX ⟨⟨r, rfl, hr⟩, hWX⟩
    subst hWX
    clear hsz
    rcases hr with hr | ⟨hfit, hr⟩
    · go_wp2
      go_ret
      exact ⟨rfl, Below.refl _ _⟩
    have hnl := Puts.num_len (l1.length : Int)
    have htl := Puts.txs_len l1
    obtain ⟨R, hR⟩ : ∃ R, R = xs0 ++ Puts.num (l1.length : Int) ++ Puts.txs l1 := ⟨_, rfl⟩
    have HR : Hid (xs0 ++ Puts.num (l1.length : Int) ++ Puts.txs l1 = R) := hR.symm
    have hRl : R.length ≤ 20000000 := by rw [hR]; simp only [List.length_append]; omega
    have hx : xs0.length + (Puts.txs l1).length + 5 ≤ 20000000 := by omega
    have hl : l1.length ≤ 1048576 := by omega
    clear hR hnl htl hfit y1
    have B0 : Below w.heap.size w w := Below.refl _ _
    go_wp2_with fail
    refine (Bytes.to_any w _ xs0 (hs.later B0) (by omega)).mono ?_
    rintro e W1 ⟨v1, rfl, o_v1_1, b1⟩
    have s1 := b1.size
    have B1 : Below w.heap.size w W1 := B0.trans (b1.mono B0.size)
    go_wp2_with fail
    refine (Strs.to_s W1 _ l1 (ht.later B1) (by omega)).mono ?_
    rintro e W2 ⟨v2, rfl, o_v2_2, b2⟩
    have s2 := b2.size
    have B2 : Below w.heap.size w W2 := B1.trans (b2.mono B1.size)
    have o_v1_2 := o_v1_1.later b2 (by omega)
    clear o_v1_1
    go_wp2_with fail
    refine (Puts.putts_spec W2 _ _ xs0 l1 o_v1_2.sl o_v2_2.sl (by omega) (by omega)).mono ?_
    rintro e W3 ⟨vw, rfl, o_vw_3, b3⟩
    have s3 := b3.size
    have B3 : Below w.heap.size w W3 := B2.trans (b3.mono B2.size)
    have o_v1_3 := o_v1_2.later b3 (by omega)
    have o_v2_3 := o_v2_2.later b3 (by omega)
    clear o_v1_2 o_v2_2
    rw [HR.out] at o_vw_3
    clear o_v1_3
    clear o_v2_3
    go_wp2_with fail
    refine (Bytes.to_any W3 _ xs0 (hs.later B3) (by omega)).mono ?_
    rintro e W4 ⟨x0, rfl, o_x0_4, b4⟩
    have s4 := b4.size
    have B4 : Below w.heap.size w W4 := B3.trans (b4.mono B3.size)
    have o_vw_4 := o_vw_3.later b4 (by omega)
    clear o_vw_3
    go_wp2_with fail
    refine (Strs.to_s W4 _ l1 (ht.later B4) (by omega)).mono ?_
    rintro e W5 ⟨x1, rfl, o_x1_5, b5⟩
    have s5 := b5.size
    have B5 : Below w.heap.size w W5 := B4.trans (b5.mono B4.size)
    have o_vw_5 := o_vw_4.later b5 (by omega)
    have o_x0_5 := o_x0_4.later b5 (by omega)
    clear o_vw_4 o_x0_4
    go_wp2_with fail
    refine (Puts.putts_impl W5 _ _ xs0 l1 o_x0_5.sl o_x1_5.sl (by omega) (by omega)).mono ?_
    rintro e W6 ⟨g0, rfl, o_g0_6, b6⟩
    have s6 := b6.size
    have B6 : Below w.heap.size w W6 := B5.trans (b6.mono B5.size)
    have o_vw_6 := o_vw_5.later b6 (by omega)
    have o_x0_6 := o_x0_5.later b6 (by omega)
    have o_x1_6 := o_x1_5.later b6 (by omega)
    clear o_vw_5 o_x0_5 o_x1_5
    rw [HR.out] at o_g0_6
    go_wp2_with fail
    refine (Bytes.eq_true W6 _ _ R o_g0_6.sl o_vw_6.sl (by omega)).mono ?_
    rintro e W7 ⟨rfl, b7, s7⟩
    have B7 : Below w.heap.size w W7 := B6.trans (b7 _)
    have o_vw_7 := o_vw_6.later (b7 _) (Nat.le_refl _)
    have o_x0_7 := o_x0_6.later (b7 _) (Nat.le_refl _)
    have o_x1_7 := o_x1_6.later (b7 _) (Nat.le_refl _)
    have o_g0_7 := o_g0_6.later (b7 _) (Nat.le_refl _)
    clear o_vw_6 o_x0_6 o_x1_6 o_g0_6
    go_wp2_with fail
    refine (Bytes.to_any W7 _ xs0 (hs.later B7) (by omega)).mono ?_
    rintro e W8 ⟨t0, rfl, o_t0_8, b8⟩
    have s8 := b8.size
    have B8 : Below w.heap.size w W8 := B7.trans (b8.mono B7.size)
    have o_vw_8 := o_vw_7.later b8 (by omega)
    have o_x0_8 := o_x0_7.later b8 (by omega)
    have o_x1_8 := o_x1_7.later b8 (by omega)
    have o_g0_8 := o_g0_7.later b8 (by omega)
    clear o_vw_7 o_x0_7 o_x1_7 o_g0_7
    go_wp2_with fail
    refine (Bytes.eq_true W8 _ _ xs0 o_x0_8.sl o_t0_8.sl (by omega)).mono ?_
    rintro e W9 ⟨rfl, b9, s9⟩
    have B9 : Below w.heap.size w W9 := B8.trans (b9 _)
    have o_vw_9 := o_vw_8.later (b9 _) (Nat.le_refl _)
    have o_x0_9 := o_x0_8.later (b9 _) (Nat.le_refl _)
    have o_x1_9 := o_x1_8.later (b9 _) (Nat.le_refl _)
    have o_g0_9 := o_g0_8.later (b9 _) (Nat.le_refl _)
    have o_t0_9 := o_t0_8.later (b9 _) (Nat.le_refl _)
    clear o_vw_8 o_x0_8 o_x1_8 o_g0_8 o_t0_8
    clear o_t0_9
    go_wp2_with fail
    refine (Strs.to_s W9 _ l1 (ht.later B9) (by omega)).mono ?_
    rintro e W10 ⟨t1, rfl, o_t1_10, b10⟩
    have s10 := b10.size
    have B10 : Below w.heap.size w W10 := B9.trans (b10.mono B9.size)
    have o_vw_10 := o_vw_9.later b10 (by omega)
    have o_x0_10 := o_x0_9.later b10 (by omega)
    have o_x1_10 := o_x1_9.later b10 (by omega)
    have o_g0_10 := o_g0_9.later b10 (by omega)
    clear o_vw_9 o_x0_9 o_x1_9 o_g0_9
    go_wp2_with fail
    refine (Strs.eqs_true W10 _ _ l1 o_x1_10.sl o_t1_10.sl (by omega)).mono ?_
    rintro e W11 ⟨rfl, b11, s11⟩
    have B11 : Below w.heap.size w W11 := B10.trans (b11 _)
    have o_vw_11 := o_vw_10.later (b11 _) (Nat.le_refl _)
    have o_x0_11 := o_x0_10.later (b11 _) (Nat.le_refl _)
    have o_x1_11 := o_x1_10.later (b11 _) (Nat.le_refl _)
    have o_g0_11 := o_g0_10.later (b11 _) (Nat.le_refl _)
    have o_t1_11 := o_t1_10.later (b11 _) (Nat.le_refl _)
    clear o_vw_10 o_x0_10 o_x1_10 o_g0_10 o_t1_10
    clear o_t1_11
    go_wp2_with fail
    refine (Bytes.mark_bytes W11 _ (W3.heap.size) (W4.heap.size) xs0 1 o_x0_11 (by omega) (by omega)).mono ?_
    rintro e W12 ⟨rfl, o_x0_12, a12⟩
    have s12 := a12.size
    have B12 : Below w.heap.size w W12 := B11.trans (a12.below (by have := B11.size; omega) B11.size)
    have o_vw_12 := o_vw_11.apart a12 (by omega) (by omega)
    have o_x1_12 := o_x1_11.apart a12 (by omega) (by omega)
    have o_g0_12 := o_g0_11.apart a12 (by omega) (by omega)
    clear o_vw_11 o_x0_11 o_x1_11 o_g0_11
    clear o_x0_12
    go_wp2_with fail
    refine (Strs.marks_any W12 _ (W4.heap.size) (W5.heap.size) l1 (1 + xs0.length) o_x1_12 (by omega) (by omega) (by omega) (by omega)).mono ?_
    rintro e W13 ⟨rfl, o_x1_13, a13⟩
    have s13 := a13.size
    have B13 : Below w.heap.size w W13 := B12.trans (a13.below (by have := B12.size; omega) B12.size)
    have o_vw_13 := o_vw_12.apart a13 (by omega) (by omega)
    have o_g0_13 := o_g0_12.apart a13 (by omega) (by omega)
    clear o_vw_12 o_x1_12 o_g0_12
    clear o_x1_13
    go_wp2_with fail
    refine (Bytes.eq_true W13 _ _ R o_g0_13.sl o_vw_13.sl (by omega)).mono ?_
    rintro e W14 ⟨rfl, b14, s14⟩
    have B14 : Below w.heap.size w W14 := B13.trans (b14 _)
    have o_vw_14 := o_vw_13.later (b14 _) (Nat.le_refl _)
    have o_g0_14 := o_g0_13.later (b14 _) (Nat.le_refl _)
    clear o_vw_13 o_g0_13
    go_wp2_with fail
    refine (Bytes.mark_bytes W14 _ (W5.heap.size) (W6.heap.size) R 1 o_g0_14 (by omega) (by omega)).mono ?_
    rintro e W15 ⟨rfl, o_g0_15, a15⟩
    have s15 := a15.size
    have B15 : Below w.heap.size w W15 := B14.trans (a15.below (by have := B14.size; omega) B14.size)
    have o_vw_15 := o_vw_14.apart a15 (by omega) (by omega)
    clear o_vw_14 o_g0_14
    go_wp2_with fail
    refine (Bytes.held_any W15 _ R.length 1 o_g0_15.sl (by omega) (by omega)).mono ?_
    rintro e WX ⟨rfl, hWX⟩
    have hWX := hWX.symm
    subst hWX
    go_wp2_with fail
    refine (Bytes.to_any W15 _ xs0 (hs.later B15) (by omega)).mono ?_
    rintro e W16 ⟨t3, rfl, o_t3_16, b16⟩
    have s16 := b16.size
    have B16 : Below w.heap.size w W16 := B15.trans (b16.mono B15.size)
    have o_vw_16 := o_vw_15.later b16 (by omega)
    have o_g0_16 := o_g0_15.later b16 (by omega)
    clear o_vw_15 o_g0_15
    go_wp2_with fail
    refine (Strs.to_s W16 _ l1 (ht.later B16) (by omega)).mono ?_
    rintro e W17 ⟨t4, rfl, o_t4_17, b17⟩
    have s17 := b17.size
    have B17 : Below w.heap.size w W17 := B16.trans (b17.mono B16.size)
    have o_vw_17 := o_vw_16.later b17 (by omega)
    have o_g0_17 := o_g0_16.later b17 (by omega)
    have o_t3_17 := o_t3_16.later b17 (by omega)
    clear o_vw_16 o_g0_16 o_t3_16
    go_wp2_with fail
    refine (Puts.putts_impl W17 _ _ xs0 l1 o_t3_17.sl o_t4_17.sl (by omega) (by omega)).mono ?_
    rintro e W18 ⟨h0, rfl, o_h0_18, b18⟩
    have s18 := b18.size
    have B18 : Below w.heap.size w W18 := B17.trans (b18.mono B17.size)
    have o_vw_18 := o_vw_17.later b18 (by omega)
    have o_g0_18 := o_g0_17.later b18 (by omega)
    have o_t3_18 := o_t3_17.later b18 (by omega)
    have o_t4_18 := o_t4_17.later b18 (by omega)
    clear o_vw_17 o_g0_17 o_t3_17 o_t4_17
    rw [HR.out] at o_h0_18
    clear o_t3_18
    clear o_t4_18
    go_wp2_with fail
    refine (Bytes.eq_true W18 _ _ R o_h0_18.sl o_vw_18.sl (by omega)).mono ?_
    rintro e W19 ⟨rfl, b19, s19⟩
    have B19 : Below w.heap.size w W19 := B18.trans (b19 _)
    have o_vw_19 := o_vw_18.later (b19 _) (Nat.le_refl _)
    have o_g0_19 := o_g0_18.later (b19 _) (Nat.le_refl _)
    have o_h0_19 := o_h0_18.later (b19 _) (Nat.le_refl _)
    clear o_vw_18 o_g0_18 o_h0_18
    go_wp2_with fail
    refine (Bytes.held_any W19 _ R.length 1 o_g0_19.sl (by omega) (by omega)).mono ?_
    rintro e WX ⟨rfl, hWX⟩
    have hWX := hWX.symm
    subst hWX
    go_wp2
    go_ret
    exact ⟨rfl, B19⟩

set_option maxRecDepth 100000 in
theorem lifted (os : Os) (started : os.Started) (H : Type) (enc : TypeId × Value → H) :
    ReturnsInHanded {} Try.checked os 3 .any (Rows.fnExactPutTextsSpec.pre6 enc Try.prog Try.f3 Rows.fnExactPutTextsRow.domain false) (Rows.fnExactPutTextsSpec.post enc Try.prog Try.f3 false true false false) := by
  refine returnsInHanded_of_change (C := Try.checked) own started (by kernel_rfl) Try.func3
    (ChangeSpec.witness6 (enc := enc) (C := Try.checked) false ⟨#[], #[.slice none 0 0, .slice none 0 0], []⟩ 8 (by kernel_rfl) (by kernel_rfl) (by kernel_rfl) (by kernel_rfl)) ?_
  intro W base args ds gs before hval0 hW hcnd _
  have hval : ∀ (j : Nat) t v, Try.f3.params[j]? = some t → args[j]? = some v → Value.okWide Try.prog W .any base t v := hval0
  have hW' := hW
  obtain ⟨p, q, hA0, hV, rfl, hfz, hnd⟩ := hW
  have hA : DataW.TrodAll enc Try.prog W 0 (fun _ => true) true Try.f3.params.toList args.toList ds p := hA0
  rw [Try.params3] at hA hval
  obtain ⟨v0, vs0, d0, ds0, p0, q0, hargs, rfl, rfl, h0, r0⟩ := trodAll_cons hA
  obtain ⟨v1, vs1, d1, ds1, p1, q1, rfl, rfl, rfl, h1, r1⟩ := trodAll_cons r0
  obtain ⟨rfl, rfl, rfl⟩ := trodAll_nil r1
  obtain rfl : args = #[v0, v1] := by cases args; simp_all
  obtain ⟨rfl, rfl⟩ := trodVars_none hV
  obtain ⟨a0, len0, cap0, rfl⟩ := okWide_slice Try.underlying22 (hval 0 22 v0 rfl rfl)
  have k0 := h0
  have lt0 : ∀ x ∈ p0, x.block < W.heap.size := by obtain ⟨m, hm⟩ := k0; exact DataW.trod_lt m _ _ _ hm
  obtain ⟨xs0, t0, y0, m0⟩ : ∃ xs, Mem.Sl W (.slice a0 len0 cap0) (Mem.bs xs) ∧ Mem.Byt xs ∧ xs.length ≤ maxLen := by
    obtain ⟨fuel, hf⟩ := h0
    rcases open_ints Try.underlying22 Try.underlying5 (by kernel_rfl) hf with ⟨hcs, _⟩ | ⟨x, l, c, zs, hcs, _, hl, hm, hz, _, hcell, hwz⟩
    · simp [Value.cells] at hcs
      obtain ⟨rfl, rfl, rfl⟩ := hcs
      obtain ⟨xs, hs, _, hy⟩ := RowSl.row_sl (w := W) (a := none) (len := 0) (cap := 0) (zs := []) (.inl ⟨rfl, rfl, rfl, rfl⟩)
      exact ⟨xs, hs, hy, by have h0 : xs.length = 0 := (by omega); rw [h0]; exact Nat.zero_le _⟩
    · simp [Value.cells] at hcs
      obtain ⟨rfl, rfl, rfl⟩ := hcs
      obtain ⟨xs, hs, he, hy⟩ := RowSl.row_sl (w := W) (.inr ⟨_, rfl, hl, hm, by simpa using hz, hcell, hwz⟩)
      exact ⟨xs, hs, hy, by rw [← he]; exact Nat.le_trans hl hm⟩
  obtain ⟨a1, len1, cap1, rfl⟩ := okWide_slice Try.underlying23 (hval 1 23 v1 rfl rfl)
  have k1 := h1
  have lt1 : ∀ x ∈ p1, x.block < W.heap.size := by obtain ⟨m, hm⟩ := k1; exact DataW.trod_lt m _ _ _ hm
  obtain ⟨l1, t1, y1, m1⟩ : ∃ l : List ByteArray, Mem.Sl W (.slice a1 len1 cap1) (Mem.ss l) ∧ (∀ s ∈ l, s.size ≤ maxLen) ∧ l.length ≤ maxLen := by
    obtain ⟨fuel, hf⟩ := h1
    rcases open_strings Try.underlying23 Try.underlying9 (by kernel_rfl) hf with ⟨hcs, _⟩ | ⟨x, l, c, zs, hcs, _, hl, hm, hz, _, hcell, hwz⟩
    · simp [Value.cells] at hcs
      obtain ⟨rfl, rfl, rfl⟩ := hcs
      exact ⟨[], Mem.Sl.nil W, fun s hs => (by cases hs), Nat.zero_le _⟩
    · simp [Value.cells] at hcs
      obtain ⟨rfl, rfl, rfl⟩ := hcs
      exact RowSl.row_str hl hm (by simpa using hz) hcell hwz
  clear hA0 hval0
  refine (walk W _ xs0 _ l1 t0 y0 m0 t1 y1 m1).mono fun e W' ⟨he, bel⟩ => ?_
  subst he
  exact ⟨_, rfl, _, _, _, [], _, [], hW', trodAll_mk1 (shut_bool Try.underlying4 _), (trodAll_cons_mk (Below.trod laidOut (by kernel_rfl) (of_decide_eq_true (by kernel_rfl)) k0 bel lt0) (trodAll_cons_mk (Below.trod laidOut (by kernel_rfl) (of_decide_eq_true (by kernel_rfl)) k1 bel lt1) trodAll_mk0)), rfl, bel.frame _, fun h => by cases h⟩

theorem over : Rows.fnExactPutTextsRow.holds Try.pinned (OpenSpec.ofChange Rows.fnExactPutTextsSpec) :=
  OpenClaim.holds_of_wide 3 Try.f3 rfl rfl rfl rfl rfl rfl rfl ⟨rfl, rfl, rfl, rfl, rfl⟩ rfl rfl rfl rfl rfl (by kernel_rfl) Try.func3 (by kernel_rfl)
    (of_decide_eq_true (by kernel_rfl)) (by unfold Func.isWrapper; first | (rw [if_pos (by decide +kernel)]; kernel_rfl) | (rw [if_neg (by decide +kernel)]; exact ⟨rfl, rfl⟩))
    (fun os started H enc _ => lifted os started H enc)

end Go.Proofs.Ytoginlmlbppnmaj.fnExactPutTexts
namespace Go.Proofs.Ytoginlmlbppnmaj
theorem fnExactPutTexts_holds : Rows.FnExactPutTextsSaid := fnExactPutTexts.over
end Go.Proofs.Ytoginlmlbppnmaj
