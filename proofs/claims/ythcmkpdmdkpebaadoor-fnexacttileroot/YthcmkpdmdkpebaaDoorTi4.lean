/- Chapter 9: the exact laws, over contracts of the landed functions. -/
import Derived.Test.YthcmkpdmdkpebaaDoorTi3
import Derived.Test.YthcmkpdmdkpebaaDoorTrX
namespace Go.Proofs.YthcmkpdmdkpebaaDoor.Ti
open Go.RowKit Go.Proofs.YthcmkpdmdkpebaaDoor.Mem Go.Proofs.YthcmkpdmdkpebaaDoor.Laws Go.Proofs.YthcmkpdmdkpebaaDoor.Bytes Go.Proofs.YthcmkpdmdkpebaaDoor.Sha Go.Proofs.YthcmkpdmdkpebaaDoor.Tr
set_option linter.unusedVariables false
set_option linter.unusedSimpArgs false

set_option maxRecDepth 1000000 in
set_option maxHeartbeats 4000000 in
theorem exact_tile (w : World) (v0 : Value) (l0 : List ByteArray) (a1 a2 : Int) (h0 : Sl w v0 (ss l0)) (y0 : ∀ s ∈ l0, s.size ≤ maxLen) (m0 : l0.length ≤ maxLen)
    (iF : ∀ W v', Below w.heap.size w W → Sl W v' (ss l0) → l0.length ≤ 1048576 → (∀ s ∈ l0, s.size ≤ 1048576) → Calls Tryd.prog 9 #[v', .int .i64 a1, .int .i64 a2] W fun e w' => ∃ v'', e = .returned v'' ∧ Own w' W.heap.size w'.heap.size 9 v'' (ss (tileOf l0 a1 a2)) ∧ Below W.heap.size W w') :
    Calls Tryd.prog 4 #[v0, .int .i64 a1, .int .i64 a2] w fun e w' => e = .returned (.bool true) ∧ Below w.heap.size w w' := by
  have hs := h0
  obtain ⟨ao0, cap0, rfl, -, -, -⟩ := h0
  rw [ss_len] at hs ⊢
  unfold maxLen at m0 y0
  have hsz := Strs.sz_any w _ l0 1048576 hs y0 m0 (by omega)
  go_enter Tryd.func4, Tryd.ntmps4
  go_wp2_with fail
  refine hsz.mono ?_
  rintro e WX ⟨⟨r, rfl, hr⟩, hWX⟩
  subst hWX
  clear hsz
  rcases hr with hr | ⟨hfit, hr⟩
  · go_wp2
    go_ret
    exact ⟨rfl, Below.refl _ _⟩
  have hl : l0.length ≤ 1048576 := by omega
  have hz : ∀ s ∈ l0, s.size ≤ 1048576 := fun s hs => by have := mem_tot hs; omega
  have q1 : ∀ W v', Below w.heap.size w W → Sl W v' (ss l0) → _ := fun W v' hW hv => iF W v' hW hv hl hz
  have q2 : ∀ W v', Sl W v' (ss l0) → _ := fun W v' hv => of_spec W v' l0 a1 a2 hv (by omega) (fun s hs => by have := hz s hs; omega)
  have hRl := tileOf_len l0 a1 a2
  obtain ⟨R, hR⟩ : ∃ R, tileOf l0 a1 a2 = R := ⟨_, rfl⟩
  simp only [hR] at q1 q2 hRl
  clear hR hz iF hfit y0
  have B0 : Below w.heap.size w w := Below.refl _ _
  go_wp2_with fail
  refine (Strs.to_s w _ l0 (hs.later B0) (by omega)).mono ?_
  rintro e W1 ⟨v1, rfl, o_v1_1, b1⟩
  have s1 := b1.size
  have B1 : Below w.heap.size w W1 := B0.trans (b1.mono B0.size)
  go_wp2_with fail
  refine (q2 W1 _ o_v1_1.sl).mono ?_
  rintro e W2 ⟨vw, rfl, o_vw_2, b2⟩
  have s2 := b2.size
  have B2 : Below w.heap.size w W2 := B1.trans (b2.mono B1.size)
  have o_v1_2 := o_v1_1.later b2 (by omega)
  clear o_v1_1
  clear o_v1_2
  go_wp2_with fail
  refine (Strs.to_s W2 _ l0 (hs.later B2) (by omega)).mono ?_
  rintro e W3 ⟨x0, rfl, o_x0_3, b3⟩
  have s3 := b3.size
  have B3 : Below w.heap.size w W3 := B2.trans (b3.mono B2.size)
  have o_vw_3 := o_vw_2.later b3 (by omega)
  clear o_vw_2
  go_wp2_with fail
  refine (q1 W3 _ B3 o_x0_3.sl).mono ?_
  rintro e W4 ⟨g0, rfl, o_g0_4, b4⟩
  have s4 := b4.size
  have B4 : Below w.heap.size w W4 := B3.trans (b4.mono B3.size)
  have o_vw_4 := o_vw_3.later b4 (by omega)
  have o_x0_4 := o_x0_3.later b4 (by omega)
  clear o_vw_3 o_x0_3
  go_wp2_with fail
  refine (Strs.eqs_true W4 _ _ R o_g0_4.sl o_vw_4.sl (by omega)).mono ?_
  rintro e W5 ⟨rfl, b5, s5⟩
  have B5 : Below w.heap.size w W5 := B4.trans (b5 _)
  have o_vw_5 := o_vw_4.later (b5 _) (Nat.le_refl _)
  have o_x0_5 := o_x0_4.later (b5 _) (Nat.le_refl _)
  have o_g0_5 := o_g0_4.later (b5 _) (Nat.le_refl _)
  clear o_vw_4 o_x0_4 o_g0_4
  go_wp2_with fail
  refine (Strs.to_s W5 _ l0 (hs.later B5) (by omega)).mono ?_
  rintro e W6 ⟨t0, rfl, o_t0_6, b6⟩
  have s6 := b6.size
  have B6 : Below w.heap.size w W6 := B5.trans (b6.mono B5.size)
  have o_vw_6 := o_vw_5.later b6 (by omega)
  have o_x0_6 := o_x0_5.later b6 (by omega)
  have o_g0_6 := o_g0_5.later b6 (by omega)
  clear o_vw_5 o_x0_5 o_g0_5
  go_wp2_with fail
  refine (Strs.eqs_true W6 _ _ l0 o_x0_6.sl o_t0_6.sl (by omega)).mono ?_
  rintro e W7 ⟨rfl, b7, s7⟩
  have B7 : Below w.heap.size w W7 := B6.trans (b7 _)
  have o_vw_7 := o_vw_6.later (b7 _) (Nat.le_refl _)
  have o_x0_7 := o_x0_6.later (b7 _) (Nat.le_refl _)
  have o_g0_7 := o_g0_6.later (b7 _) (Nat.le_refl _)
  have o_t0_7 := o_t0_6.later (b7 _) (Nat.le_refl _)
  clear o_vw_6 o_x0_6 o_g0_6 o_t0_6
  clear o_t0_7
  go_wp2_with fail
  refine (Strs.marks_any W7 _ (W2.heap.size) (W3.heap.size) l0 1 o_x0_7 (by omega) (by omega) (by omega) (by omega)).mono ?_
  rintro e W8 ⟨rfl, o_x0_8, a8⟩
  have s8 := a8.size
  have B8 : Below w.heap.size w W8 := B7.trans (a8.below (by have := B7.size; omega) B7.size)
  have o_vw_8 := o_vw_7.apart a8 (by omega) (by omega)
  have o_g0_8 := o_g0_7.apart a8 (by omega) (by omega)
  clear o_vw_7 o_x0_7 o_g0_7
  clear o_x0_8
  go_wp2_with fail
  refine (Strs.eqs_true W8 _ _ R o_g0_8.sl o_vw_8.sl (by omega)).mono ?_
  rintro e W9 ⟨rfl, b9, s9⟩
  have B9 : Below w.heap.size w W9 := B8.trans (b9 _)
  have o_vw_9 := o_vw_8.later (b9 _) (Nat.le_refl _)
  have o_g0_9 := o_g0_8.later (b9 _) (Nat.le_refl _)
  clear o_vw_8 o_g0_8
  go_wp2_with fail
  refine (Strs.marks_any W9 _ (W3.heap.size) (W4.heap.size) R 1 o_g0_9 (by omega) (by omega) (by omega) (by omega)).mono ?_
  rintro e W10 ⟨rfl, o_g0_10, a10⟩
  have s10 := a10.size
  have B10 : Below w.heap.size w W10 := B9.trans (a10.below (by have := B9.size; omega) B9.size)
  have o_vw_10 := o_vw_9.apart a10 (by omega) (by omega)
  clear o_vw_9 o_g0_9
  go_wp2_with fail
  refine (Strs.helds_any W10 _ R.length 1 o_g0_10.sl (by omega) (by omega) (by omega)).mono ?_
  rintro e W11 ⟨rfl, b11⟩
  have s11 := b11.size
  have B11 : Below w.heap.size w W11 := B10.trans (b11.mono B10.size)
  have o_vw_11 := o_vw_10.later b11 (by omega)
  have o_g0_11 := o_g0_10.later b11 (by omega)
  clear o_vw_10 o_g0_10
  go_wp2_with fail
  refine (Strs.to_s W11 _ l0 (hs.later B11) (by omega)).mono ?_
  rintro e W12 ⟨t3, rfl, o_t3_12, b12⟩
  have s12 := b12.size
  have B12 : Below w.heap.size w W12 := B11.trans (b12.mono B11.size)
  have o_vw_12 := o_vw_11.later b12 (by omega)
  have o_g0_12 := o_g0_11.later b12 (by omega)
  clear o_vw_11 o_g0_11
  go_wp2_with fail
  refine (q1 W12 _ B12 o_t3_12.sl).mono ?_
  rintro e W13 ⟨hv, rfl, o_hv_13, b13⟩
  have s13 := b13.size
  have B13 : Below w.heap.size w W13 := B12.trans (b13.mono B12.size)
  have o_vw_13 := o_vw_12.later b13 (by omega)
  have o_g0_13 := o_g0_12.later b13 (by omega)
  have o_t3_13 := o_t3_12.later b13 (by omega)
  clear o_vw_12 o_g0_12 o_t3_12
  clear o_t3_13
  go_wp2_with fail
  refine (Strs.eqs_true W13 _ _ R o_hv_13.sl o_vw_13.sl (by omega)).mono ?_
  rintro e W14 ⟨rfl, b14, s14⟩
  have B14 : Below w.heap.size w W14 := B13.trans (b14 _)
  have o_vw_14 := o_vw_13.later (b14 _) (Nat.le_refl _)
  have o_g0_14 := o_g0_13.later (b14 _) (Nat.le_refl _)
  have o_hv_14 := o_hv_13.later (b14 _) (Nat.le_refl _)
  clear o_vw_13 o_g0_13 o_hv_13
  go_wp2_with fail
  refine (Strs.helds_any W14 _ R.length 1 o_g0_14.sl (by omega) (by omega) (by omega)).mono ?_
  rintro e W15 ⟨rfl, b15⟩
  have s15 := b15.size
  have B15 : Below w.heap.size w W15 := B14.trans (b15.mono B14.size)
  have o_vw_15 := o_vw_14.later b15 (by omega)
  have o_g0_15 := o_g0_14.later b15 (by omega)
  have o_hv_15 := o_hv_14.later b15 (by omega)
  clear o_vw_14 o_g0_14 o_hv_14
  go_wp2
  go_ret
  exact ⟨rfl, B15⟩

set_option maxRecDepth 1000000 in
set_option maxHeartbeats 4000000 in
theorem exact_troot (w : World) (v0 : Value) (l0 : List ByteArray) (h0 : Sl w v0 (ss l0)) (y0 : ∀ s ∈ l0, s.size ≤ maxLen) (m0 : l0.length ≤ maxLen)
    (iF : ∀ W v', Below w.heap.size w W → Sl W v' (ss l0) → l0.length ≤ 1048576 → (∀ s ∈ l0, s.size ≤ 1048576) → Calls Tryd.prog 10 #[v'] W fun e w' => e = .returned (.string (tileRoot l0)) ∧ Below W.heap.size W w') :
    Calls Tryd.prog 5 #[v0] w fun e w' => e = .returned (.bool true) ∧ Below w.heap.size w w' := by
  have hs := h0
  obtain ⟨ao0, cap0, rfl, -, -, -⟩ := h0
  rw [ss_len] at hs ⊢
  unfold maxLen at m0 y0
  have hsz := Strs.sz_any w _ l0 1048576 hs y0 m0 (by omega)
  go_enter Tryd.func5, Tryd.ntmps5
  go_wp2_with fail
  refine hsz.mono ?_
  rintro e WX ⟨⟨r, rfl, hr⟩, hWX⟩
  subst hWX
  clear hsz
  rcases hr with hr | ⟨hfit, hr⟩
  · go_wp2
    go_ret
    exact ⟨rfl, Below.refl _ _⟩
  have hl : l0.length ≤ 1048576 := by omega
  have hz : ∀ s ∈ l0, s.size ≤ 1048576 := fun s hs => by have := mem_tot hs; omega
  have q1 : ∀ W v', Below w.heap.size w W → Sl W v' (ss l0) → _ := fun W v' hW hv => iF W v' hW hv hl hz
  have q2 : ∀ W v', Sl W v' (ss l0) → _ := fun W v' hv => tileRoot_spec W v' l0 hv (by omega) (fun s hs => by have := hz s hs; omega)
  obtain ⟨R, hR⟩ : ∃ R, tileRoot l0 = R := ⟨_, rfl⟩
  simp only [hR] at q1 q2
  clear hR hz iF hfit y0
  have B0 : Below w.heap.size w w := Below.refl _ _
  go_wp2_with fail
  refine (Strs.to_s w _ l0 (hs.later B0) (by omega)).mono ?_
  rintro e W1 ⟨v1, rfl, o_v1_1, b1⟩
  have s1 := b1.size
  have B1 : Below w.heap.size w W1 := B0.trans (b1.mono B0.size)
  go_wp2_with fail
  refine (q2 W1 _ o_v1_1.sl).mono ?_
  rintro e W2 ⟨rfl, b2⟩
  have s2 := b2.size
  have B2 : Below w.heap.size w W2 := B1.trans (b2.mono B1.size)
  have o_v1_2 := o_v1_1.later b2 (by omega)
  clear o_v1_1
  clear o_v1_2
  go_wp2_with fail
  refine (Strs.to_s W2 _ l0 (hs.later B2) (by omega)).mono ?_
  rintro e W3 ⟨x0, rfl, o_x0_3, b3⟩
  have s3 := b3.size
  have B3 : Below w.heap.size w W3 := B2.trans (b3.mono B2.size)
  go_wp2_with fail
  refine (q1 W3 _ B3 o_x0_3.sl).mono ?_
  rintro e W4 ⟨rfl, b4⟩
  have s4 := b4.size
  have B4 : Below w.heap.size w W4 := B3.trans (b4.mono B3.size)
  have o_x0_4 := o_x0_3.later b4 (by omega)
  clear o_x0_3
  go_wp2_with fail
  refine (Strs.to_s W4 _ l0 (hs.later B4) (by omega)).mono ?_
  rintro e W5 ⟨t0, rfl, o_t0_5, b5⟩
  have s5 := b5.size
  have B5 : Below w.heap.size w W5 := B4.trans (b5.mono B4.size)
  have o_x0_5 := o_x0_4.later b5 (by omega)
  clear o_x0_4
  go_wp2_with fail
  refine (Strs.eqs_true W5 _ _ l0 o_x0_5.sl o_t0_5.sl (by omega)).mono ?_
  rintro e W6 ⟨rfl, b6, s6⟩
  have B6 : Below w.heap.size w W6 := B5.trans (b6 _)
  have o_x0_6 := o_x0_5.later (b6 _) (Nat.le_refl _)
  have o_t0_6 := o_t0_5.later (b6 _) (Nat.le_refl _)
  clear o_x0_5 o_t0_5
  go_wp2
  go_ret
  exact ⟨rfl, B6⟩

end Go.Proofs.YthcmkpdmdkpebaaDoor.Ti
