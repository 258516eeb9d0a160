/- Chapter 8: two drawn texts and how many bytes. -/
import Derived.Test.YtpnmhanjibhgoaaDoorCl7
namespace Go.Proofs.YtpnmhanjibhgoaaDoor.Cl
open Go.RowKit Go.Proofs.YtpnmhanjibhgoaaDoor.Mem Go.Proofs.YtpnmhanjibhgoaaDoor.Laws Go.Proofs.YtpnmhanjibhgoaaDoor.Bytes Go.Proofs.YtpnmhanjibhgoaaDoor.Sha Go.Proofs.YtpnmhanjibhgoaaDoor.Tr Go.Proofs.YtpnmhanjibhgoaaDoor.Draw
set_option linter.unusedVariables false
set_option linter.unusedSimpArgs false

set_option maxRecDepth 1000000 in
set_option maxHeartbeats 4000000 in
theorem drawIs_any (w : World) (vb : Value) (xs : List Int) (hs : Sl w vb (bs xs)) (hby : Byt xs) (hx : xs.length ≤ 140737488355328) :
    Calls Tryd.prog 11 #[vb] w fun e w' => ∃ (a b : ByteArray) (k : Int), e = .returned (.tuple #[.string a, .string b, .int .i64 k]) ∧ a.size ≤ 9 ∧ b.size ≤ 9 ∧ Below w.heap.size w w' := by
  have hy0 : Byt [0] := by intro x hx; simp at hx; omega
  obtain ⟨c0, hc0⟩ : ∃ c, Plain.txt [0] = c := ⟨_, rfl⟩
  have zc : c0.size ≤ 9 := by rw [← hc0, txt_size]; simp
  go_enter Tryd.func11, Tryd.ntmps11
  go_wp2_with fail
  refine (new_any w vb xs hs hby hx).mono ?_
  rintro e w1 ⟨rfl, d1⟩
  have g1 := d1.cur.lt
  go_wp2_with fail
  refine (some_any w w1 w.heap.size vb xs hs hby hx d1.below (Nat.le_refl _) d1.cur).mono ?_
  rintro e w2 ⟨v2, ys, rfl, hyl, hyb, o2, d2⟩
  have hcv := conv_sl o2.sl hyb
  have za : (Plain.txt ys).size ≤ 9 := by rw [txt_size]; exact hyl
  obtain ⟨a, ha⟩ : ∃ T, Plain.txt ys = T := ⟨_, rfl⟩
  rw [ha] at hcv za
  have z2 := d2.apart.size
  have d2 : Hid (Drawn w w1 w.heap.size vb xs w2) := d2
  have d3 : ∀ o, Hid (Drawn w w1 w.heap.size vb xs (w2.alloc o)) := fun o => d2.out.on (Nat.le_refl _) g1 ((Below.refl _ _).alloc z2 _)
  clear ha o2 hyl hyb
  go_wp2_with fail
  refine (int_any w _ w.heap.size vb xs w2.heap.size [0, 0, 1, 32, 33, -1] (lit_block _ _ _) (by omega) (by simp) (by simp) hs hby hx (d3 _).out.below (Nat.le_refl _) (d3 _).out.cur).mono ?_
  rintro e w4 ⟨k, rfl, xm, d4⟩
  have d4 : Hid (Drawn w w1 w.heap.size vb xs w4) := (d3 _).out.and d4
  clear d3 d2 xm hcv
  go_wp2_with fail
  refine (once8 w w4 w.heap.size vb xs 4 (by omega) (by omega) hs hby hx d4.out.below (Nat.le_refl _) d4.out.cur).mono ?_
  rintro e w5 ⟨t, rfl, d5⟩
  have d5 : Hid (Drawn w w1 w.heap.size vb xs w5) := d4.out.and d5
  clear d4
  cases t
  · go_wp2_with fail
    refine (once8 w w5 w.heap.size vb xs 3 (by omega) (by omega) hs hby hx d5.out.below (Nat.le_refl _) d5.out.cur).mono ?_
    rintro e w6 ⟨t, rfl, d6⟩
    have d6 : Hid (Drawn w w1 w.heap.size vb xs w6) := d5.out.and d6
    have B6 : Below w.heap.size w w6 := d6.out.below
    have q7 := some_any w w6.drew w.heap.size vb xs hs hby hx (Below.drew B6) (Nat.le_refl _) d6.out.cur
    clear d5 d6
    cases t
    · go_wp2_with fail
      refine wp_region_held_drew (S := fun _ => True) (by kernel_rfl) trivial (fun hHeld => ?_)
      (refine wpAnyH_take (i := 0) (v := ?v0x10) rfl (by kernel_rfl) (by kernel_rfl) (by kernel_rfl) (fun _ _ _ h => h) (Or.inl ⟨by rfl, ?hy0x10⟩) (by assumption) ?rest0x10; case hy0x10 => (intro w hSw; (try dsimp only at hSw); go_split_ands; go_simp; (try with_reducible rfl)))
      try simp only [Act.put, List.setIfInBounds_toArray, List.set_cons_zero, List.set_cons_succ, List.getElem_toArray, List.getElem_cons_zero, List.getElem_cons_succ]
      (refine wpAnyH_take (i := 1) (v := ?v1x11) rfl (by kernel_rfl) (by kernel_rfl) (by kernel_rfl) (fun _ _ _ h => h) (Or.inl ⟨by rfl, ?hy1x11⟩) (by assumption) ?rest1x11; case hy1x11 => (intro w hSw; (try dsimp only at hSw); go_split_ands; go_simp; (try with_reducible rfl)))
      try simp only [Act.put, List.setIfInBounds_toArray, List.set_cons_zero, List.set_cons_succ, List.getElem_toArray, List.getElem_cons_zero, List.getElem_cons_succ]
      (refine wpAnyH_take (i := 4) (v := ?v4x12) rfl (by kernel_rfl) (by kernel_rfl) (by kernel_rfl) (fun _ _ _ h => h) (Or.inl ⟨by rfl, ?hy4x12⟩) (by assumption) ?rest4x12; case hy4x12 => (intro w hSw; (try dsimp only at hSw); go_split_ands; go_simp; (try with_reducible rfl)))
      try simp only [Act.put, List.setIfInBounds_toArray, List.set_cons_zero, List.set_cons_succ, List.getElem_toArray, List.getElem_cons_zero, List.getElem_cons_succ]
      refine wpAnyH_ready (rs := [2]) (by kernel_rfl) (by simp) ?_
      refine AllReadyH.cons rfl (fun K hK => ?_) AllReadyH.nil
      go_simp
      refine q7.mono ?_
      rintro e X1 ⟨v7, zs, rfl, hzl, hzb, o7, d7⟩
      refine hK.out _ _ trivial (fun hHeld => ?_)
      clear hK K
      try simp only [Act.put, List.setIfInBounds_toArray, List.set_cons_zero, List.set_cons_succ, List.getElem_toArray, List.getElem_cons_zero, List.getElem_cons_succ]
      have B7 : Below w.heap.size w X1 := d7.below
      have hcv := conv_sl o7.sl hzb
      have zc7 : (Plain.txt zs).size ≤ 9 := by rw [txt_size]; exact hzl
      obtain ⟨T7, hT7⟩ : ∃ T, Plain.txt zs = T := ⟨_, rfl⟩
      rw [hT7] at hcv zc7
      clear hT7
      (refine wpAnyH_take (i := 5) (v := ?v5x13) rfl (by kernel_rfl) (by kernel_rfl) (by kernel_rfl) (fun _ _ _ h => h) (Or.inl ⟨by rfl, ?hy5x13⟩) (by assumption) ?rest5x13; case hy5x13 => (intro w hSw; (try dsimp only at hSw); go_split_ands; go_simp; (try with_reducible rfl)))
      try simp only [Act.put, List.setIfInBounds_toArray, List.set_cons_zero, List.set_cons_succ, List.getElem_toArray, List.getElem_cons_zero, List.getElem_cons_succ]
      refine wpAnyH_ready (rs := [3]) (by kernel_rfl) (by simp) ?_
      refine AllReadyH.cons rfl (fun K hK => ?_) AllReadyH.nil
      go_simp
      refine hK.out _ _ trivial (fun hHeld => ?_)
      clear hK K
      try simp only [Act.put, List.setIfInBounds_toArray, List.set_cons_zero, List.set_cons_succ, List.getElem_toArray, List.getElem_cons_zero, List.getElem_cons_succ]
      (refine wpAnyH_take (i := 6) (v := ?v6x14) rfl (by kernel_rfl) (by kernel_rfl) (by kernel_rfl) (fun _ _ _ h => h) (Or.inl ⟨by rfl, ?hy6x14⟩) (by assumption) ?rest6x14; case hy6x14 => (intro w hSw; (try dsimp only at hSw); go_split_ands; go_simp; (try with_reducible rfl)))
      try simp only [Act.put, List.setIfInBounds_toArray, List.set_cons_zero, List.set_cons_succ, List.getElem_toArray, List.getElem_cons_zero, List.getElem_cons_succ]
      (refine wpAnyH_take (i := 7) (v := ?v7x15) rfl (by kernel_rfl) (by kernel_rfl) (by kernel_rfl) (fun _ _ _ h => h) (Or.inl ⟨by rfl, ?hy7x15⟩) (by assumption) ?rest7x15; case hy7x15 => (intro w hSw; (try dsimp only at hSw); go_split_ands; go_simp; (try with_reducible rfl)))
      try simp only [Act.put, List.setIfInBounds_toArray, List.set_cons_zero, List.set_cons_succ, List.getElem_toArray, List.getElem_cons_zero, List.getElem_cons_succ]
      refine wpAnyH_done (by kernel_rfl) ?_ _
      clear hHeld
      go_wp2
      go_ret3
      exact ⟨_, _, _, rfl, by omega, by omega, B7⟩
    · clear q7
      go_wp2_with fail
      refine wp_region_held_drew (S := fun _ => True) (by kernel_rfl) trivial (fun hHeld => ?_)
      refine wpAnyH_ready (rs := [0, 1]) (by kernel_rfl) (by simp) ?_
      refine AllReadyH.cons rfl (fun K hK => ?_) (AllReadyH.cons rfl (fun K hK => ?_) AllReadyH.nil)
      · go_simp
        refine (twin_any w6.drew).mono ?_
        rintro e X1 ⟨s8, rfl, z8, x1⟩
        refine hK.out _ _ trivial (fun hHeld => ?_)
        clear hK K
        try simp only [Act.put, List.setIfInBounds_toArray, List.set_cons_zero, List.set_cons_succ, List.getElem_toArray, List.getElem_cons_zero, List.getElem_cons_succ]
        have B1 : Below w.heap.size w X1 := (Below.drew B6).trans (x1.mono (Below.drew B6).size)
        (refine wpAnyH_take (i := 3) (v := ?v3x1) rfl (by kernel_rfl) (by kernel_rfl) (by kernel_rfl) (fun _ _ _ h => h) (Or.inl ⟨by rfl, ?hy3x1⟩) (by assumption) ?rest3x1; case hy3x1 => (intro w hSw; (try dsimp only at hSw); go_split_ands; go_simp; (try with_reducible rfl)))
        try simp only [Act.put, List.setIfInBounds_toArray, List.set_cons_zero, List.set_cons_succ, List.getElem_toArray, List.getElem_cons_zero, List.getElem_cons_succ]
        refine wpAnyH_ready (rs := [1]) (by kernel_rfl) (by simp) ?_
        refine AllReadyH.cons rfl (fun K hK => ?_) AllReadyH.nil
        go_simp
        refine hK.out _ _ trivial (fun hHeld => ?_)
        clear hK K
        try simp only [Act.put, List.setIfInBounds_toArray, List.set_cons_zero, List.set_cons_succ, List.getElem_toArray, List.getElem_cons_zero, List.getElem_cons_succ]
        obtain ⟨X2, HX2, x2, sz2⟩ : ∃ X, Hid ((X1.alloc (.cells #[.int .u8 0] 5)) = X) ∧ Below X1.heap.size X1 X ∧ Sl X (.slice (some ⟨X1.heap.size, 0, none⟩) 1 1) (bs [0]) := ⟨_, rfl, (Below.refl _ _).alloc (Nat.le_refl _) _, (oneB X1 X1.heap.size 0 (Nat.le_refl _)).sl⟩
        rw [HX2.out]
        have B2 : Below w.heap.size w X2 := (B1).trans (x2.mono (B1).size)
        have hcv := conv_sl sz2 hy0
        rw [hc0] at hcv
        refine wpAnyH_ready (rs := [2]) (by kernel_rfl) (by simp) ?_
        refine AllReadyH.cons rfl (fun K hK => ?_) AllReadyH.nil
        go_simp
        refine hK.out _ _ trivial (fun hHeld => ?_)
        clear hK K
        try simp only [Act.put, List.setIfInBounds_toArray, List.set_cons_zero, List.set_cons_succ, List.getElem_toArray, List.getElem_cons_zero, List.getElem_cons_succ]
        (refine wpAnyH_take (i := 4) (v := ?v4x2) rfl (by kernel_rfl) (by kernel_rfl) (by kernel_rfl) (fun _ _ _ h => h) (Or.inl ⟨by rfl, ?hy4x2⟩) (by assumption) ?rest4x2; case hy4x2 => (intro w hSw; (try dsimp only at hSw); go_split_ands; go_simp; (try with_reducible rfl)))
        try simp only [Act.put, List.setIfInBounds_toArray, List.set_cons_zero, List.set_cons_succ, List.getElem_toArray, List.getElem_cons_zero, List.getElem_cons_succ]
        (refine wpAnyH_take (i := 5) (v := ?v5x3) rfl (by kernel_rfl) (by kernel_rfl) (by kernel_rfl) (fun _ _ _ h => h) (Or.inl ⟨by rfl, ?hy5x3⟩) (by assumption) ?rest5x3; case hy5x3 => (intro w hSw; (try dsimp only at hSw); go_split_ands; go_simp; (try with_reducible rfl)))
        try simp only [Act.put, List.setIfInBounds_toArray, List.set_cons_zero, List.set_cons_succ, List.getElem_toArray, List.getElem_cons_zero, List.getElem_cons_succ]
        refine wpAnyH_done (by kernel_rfl) ?_ _
        clear hHeld
        go_wp2
        go_ret3
        exact ⟨_, _, _, rfl, by omega, zc, B2⟩
      · go_simp
        refine hK.out _ _ trivial (fun hHeld => ?_)
        clear hK K
        try simp only [Act.put, List.setIfInBounds_toArray, List.set_cons_zero, List.set_cons_succ, List.getElem_toArray, List.getElem_cons_zero, List.getElem_cons_succ]
        obtain ⟨X1, HX1, x1, sz1⟩ : ∃ X, Hid ((w6.alloc (.cells #[.int .u8 0] 5)).drew = X) ∧ Below w6.heap.size w6 X ∧ Sl X (.slice (some ⟨w6.heap.size, 0, none⟩) 1 1) (bs [0]) := ⟨_, rfl, Below.drew ((Below.refl _ _).alloc (Nat.le_refl _) _), (oneB w6 w6.heap.size 0 (Nat.le_refl _)).sl⟩
        rw [HX1.out]
        have B1 : Below w.heap.size w X1 := (B6).trans (x1.mono (B6).size)
        have hcv := conv_sl sz1 hy0
        rw [hc0] at hcv
        refine wpAnyH_ready (rs := [0, 2]) (by kernel_rfl) (by simp) ?_
        refine AllReadyH.cons rfl (fun K hK => ?_) (AllReadyH.cons rfl (fun K hK => ?_) AllReadyH.nil)
        · go_simp
          refine (twin_any X1).mono ?_
          rintro e X2 ⟨s8, rfl, z8, x2⟩
          refine hK.out _ _ trivial (fun hHeld => ?_)
          clear hK K
          try simp only [Act.put, List.setIfInBounds_toArray, List.set_cons_zero, List.set_cons_succ, List.getElem_toArray, List.getElem_cons_zero, List.getElem_cons_succ]
          have B2 : Below w.heap.size w X2 := (B1).trans (x2.mono (B1).size)
          (refine wpAnyH_take (i := 3) (v := ?v3x4) rfl (by kernel_rfl) (by kernel_rfl) (by kernel_rfl) (fun _ _ _ h => h) (Or.inl ⟨by rfl, ?hy3x4⟩) (by assumption) ?rest3x4; case hy3x4 => (intro w hSw; (try dsimp only at hSw); go_split_ands; go_simp; (try with_reducible rfl)))
          try simp only [Act.put, List.setIfInBounds_toArray, List.set_cons_zero, List.set_cons_succ, List.getElem_toArray, List.getElem_cons_zero, List.getElem_cons_succ]
          have hcv := conv_sl (sz1.later x2) hy0
          rw [hc0] at hcv
          refine wpAnyH_ready (rs := [2]) (by kernel_rfl) (by simp) ?_
          refine AllReadyH.cons rfl (fun K hK => ?_) AllReadyH.nil
          go_simp
          refine hK.out _ _ trivial (fun hHeld => ?_)
          clear hK K
          try simp only [Act.put, List.setIfInBounds_toArray, List.set_cons_zero, List.set_cons_succ, List.getElem_toArray, List.getElem_cons_zero, List.getElem_cons_succ]
          (refine wpAnyH_take (i := 4) (v := ?v4x5) rfl (by kernel_rfl) (by kernel_rfl) (by kernel_rfl) (fun _ _ _ h => h) (Or.inl ⟨by rfl, ?hy4x5⟩) (by assumption) ?rest4x5; case hy4x5 => (intro w hSw; (try dsimp only at hSw); go_split_ands; go_simp; (try with_reducible rfl)))
          try simp only [Act.put, List.setIfInBounds_toArray, List.set_cons_zero, List.set_cons_succ, List.getElem_toArray, List.getElem_cons_zero, List.getElem_cons_succ]
          (refine wpAnyH_take (i := 5) (v := ?v5x6) rfl (by kernel_rfl) (by kernel_rfl) (by kernel_rfl) (fun _ _ _ h => h) (Or.inl ⟨by rfl, ?hy5x6⟩) (by assumption) ?rest5x6; case hy5x6 => (intro w hSw; (try dsimp only at hSw); go_split_ands; go_simp; (try with_reducible rfl)))
          try simp only [Act.put, List.setIfInBounds_toArray, List.set_cons_zero, List.set_cons_succ, List.getElem_toArray, List.getElem_cons_zero, List.getElem_cons_succ]
          refine wpAnyH_done (by kernel_rfl) ?_ _
          clear hHeld
          go_wp2
          go_ret3
          exact ⟨_, _, _, rfl, by omega, zc, B2⟩
        · go_simp
          refine hK.out _ _ trivial (fun hHeld => ?_)
          clear hK K
          try simp only [Act.put, List.setIfInBounds_toArray, List.set_cons_zero, List.set_cons_succ, List.getElem_toArray, List.getElem_cons_zero, List.getElem_cons_succ]
          refine wpAnyH_ready (rs := [0]) (by kernel_rfl) (by simp) ?_
          refine AllReadyH.cons rfl (fun K hK => ?_) AllReadyH.nil
          go_simp
          refine (twin_any X1).mono ?_
          rintro e X2 ⟨s8, rfl, z8, x2⟩
          refine hK.out _ _ trivial (fun hHeld => ?_)
          clear hK K
          try simp only [Act.put, List.setIfInBounds_toArray, List.set_cons_zero, List.set_cons_succ, List.getElem_toArray, List.getElem_cons_zero, List.getElem_cons_succ]
          have B2 : Below w.heap.size w X2 := (B1).trans (x2.mono (B1).size)
          (refine wpAnyH_take (i := 3) (v := ?v3x7) rfl (by kernel_rfl) (by kernel_rfl) (by kernel_rfl) (fun _ _ _ h => h) (Or.inl ⟨by rfl, ?hy3x7⟩) (by assumption) ?rest3x7; case hy3x7 => (intro w hSw; (try dsimp only at hSw); go_split_ands; go_simp; (try with_reducible rfl)))
          try simp only [Act.put, List.setIfInBounds_toArray, List.set_cons_zero, List.set_cons_succ, List.getElem_toArray, List.getElem_cons_zero, List.getElem_cons_succ]
          (refine wpAnyH_take (i := 4) (v := ?v4x8) rfl (by kernel_rfl) (by kernel_rfl) (by kernel_rfl) (fun _ _ _ h => h) (Or.inl ⟨by rfl, ?hy4x8⟩) (by assumption) ?rest4x8; case hy4x8 => (intro w hSw; (try dsimp only at hSw); go_split_ands; go_simp; (try with_reducible rfl)))
          try simp only [Act.put, List.setIfInBounds_toArray, List.set_cons_zero, List.set_cons_succ, List.getElem_toArray, List.getElem_cons_zero, List.getElem_cons_succ]
          (refine wpAnyH_take (i := 5) (v := ?v5x9) rfl (by kernel_rfl) (by kernel_rfl) (by kernel_rfl) (fun _ _ _ h => h) (Or.inl ⟨by rfl, ?hy5x9⟩) (by assumption) ?rest5x9; case hy5x9 => (intro w hSw; (try dsimp only at hSw); go_split_ands; go_simp; (try with_reducible rfl)))
          try simp only [Act.put, List.setIfInBounds_toArray, List.set_cons_zero, List.set_cons_succ, List.getElem_toArray, List.getElem_cons_zero, List.getElem_cons_succ]
          refine wpAnyH_done (by kernel_rfl) ?_ _
          clear hHeld
          go_wp2
          go_ret3
          exact ⟨_, _, _, rfl, by omega, zc, B2⟩
  · go_wp2
    go_ret3
    exact ⟨_, _, _, rfl, za, za, d5.out.below⟩

end Go.Proofs.YtpnmhanjibhgoaaDoor.Cl
