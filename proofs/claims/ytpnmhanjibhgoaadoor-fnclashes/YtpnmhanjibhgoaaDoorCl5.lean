/- Chapter 8, the landed code: two texts at which two lists part. -/
import Derived.Test.YtpnmhanjibhgoaaDoorCl4
import Derived.Test.YtpnmhanjibhgoaaDoorTsC
import Derived.WalkMore
import Derived.ScopeJumps
namespace Go.Proofs.YtpnmhanjibhgoaaDoor.Cl
open Go.RowKit Go.Proofs.YtpnmhanjibhgoaaDoor.Mem Go.Proofs.YtpnmhanjibhgoaaDoor.Laws Go.Proofs.YtpnmhanjibhgoaaDoor.Bytes Go.Proofs.YtpnmhanjibhgoaaDoor.Sha Go.Proofs.YtpnmhanjibhgoaaDoor.Tr
set_option linter.unusedVariables false
set_option linter.unusedSimpArgs false

set_option maxRecDepth 1000000 in
set_option maxHeartbeats 1000000 in
theorem leafT_impl (w : World) (s : ByteArray) (hs : s.size ≤ 100000000000) : Calls Tryd.prog 39 #[.string s] w fun e w' => e = .returned (.string (leafT s)) ∧ Below w.heap.size w w' := by
  have hB : Below w.heap.size w (w.alloc (.cells #[.string s] 9)) := (Below.refl _ _).alloc (Nat.le_refl _) _
  have q := marked_any _ 0 _ [s] (Laws.Sl.one w (.string s) 9) (by simp [cats, sb_len]; omega) (by simp)
  have HB : Hid (Below w.heap.size w (w.alloc (.cells #[.string s] 9))) := hB
  simp only [cats_one] at q
  have HL : Hid (leafT s = Plain.txt (0 :: sb s)) := rfl
  have HY := byt0 s
  obtain ⟨D, hD⟩ : ∃ D, 0 :: sb s = D := ⟨_, rfl⟩
  simp only [hD] at q HL HY
  clear hB hD
  go_enter Tryd.func39, Tryd.ntmps39
  go_wp2_with fail
  refine q.mono ?_
  rintro e w2 ⟨v2, rfl, o2, b2⟩
  have HB2 : Hid (Below w.heap.size w w2) := HB.out.trans (b2.mono HB.out.size)
  have hcv := conv_sl o2.sl HY
  clear o2 b2
  go_wp2
  go_ret
  exact ⟨by rw [HL.out]; rfl, HB2.out⟩

set_option maxRecDepth 1000000 in
set_option maxHeartbeats 1000000 in
theorem nodeT_impl (w : World) (v v' : Value) (l m : List ByteArray) (hG : Glob w) (g1 : Sl w v (ss l)) (g2 : Sl w v' (ss m)) (hl : l.length ≤ 200) (hm : m.length ≤ 200) (hz1 : ∀ s ∈ l, s.size ≤ 10000000000) (hz2 : ∀ s ∈ m, s.size ≤ 10000000000) :
    Calls Tryd.prog 40 #[v, v'] w fun e w' => e = .returned (.string (nodeT (root l) (root m))) ∧ Below w.heap.size w w' := by
  have q1 : ∀ W, Below w.heap.size w W → _ := fun W hW => root_impl W v l (hG.later hW) (g1.later hW) (by omega) hz1
  have q2 : ∀ W, Below w.heap.size w W → _ := fun W hW => root_impl W v' m (hG.later hW) (g2.later hW) (by omega) hz2
  have e1 : rootOf l = root l := by unfold rootOf; rw [if_pos hl]
  have e2 : rootOf m = root m := by unfold rootOf; rw [if_pos hm]
  have z1 := root_size l
  have z2 := root_size m
  simp only [e1] at q1
  simp only [e2] at q2
  obtain ⟨x, hx⟩ : ∃ x, root l = x := ⟨_, rfl⟩
  obtain ⟨y, hy⟩ : ∃ x, root m = x := ⟨_, rfl⟩
  simp only [hx] at q1 z1 ⊢
  simp only [hy] at q2 z2 ⊢
  have HL : Hid (nodeT x y = Plain.txt (1 :: (sb x ++ sb y))) := rfl
  have HY := byt1 x y
  have q3 : ∀ W, _ := fun W => marked_any _ 1 _ [x, y] (Sl.two W x y) (by simp [cats, sb_len]; omega) (by simp)
  simp only [cats_two] at q3
  obtain ⟨D, hD⟩ : ∃ D, 1 :: (sb x ++ sb y) = D := ⟨_, rfl⟩
  simp only [hD] at q3 HL HY
  have B0 : Below w.heap.size w w := Below.refl _ _
  clear hz1 hz2 g1 g2 e1 e2 z1 z2 hx hy hD
  go_enter Tryd.func40, Tryd.ntmps40
  go_wp2_with fail
  refine (q1 _ B0).mono ?_
  rintro e w1 ⟨rfl, b1⟩
  have B1 : Below w.heap.size w w1 := b1
  go_wp2_with fail
  refine (q2 _ B1).mono ?_
  rintro e w2 ⟨rfl, b2⟩
  have B2 : Below w.heap.size w w2 := B1.trans (b2.mono B1.size)
  have B3 : Below w.heap.size w (w2.alloc (.cells #[.string x, .string y] 9)) := B2.alloc B2.size _
  have q4 := q3 w2
  clear q1 q2 q3 b1 b2
  go_wp2_with fail
  refine q4.mono ?_
  rintro e w4 ⟨v4, rfl, o4, b4⟩
  have HB4 : Hid (Below w.heap.size w w4) := B3.trans (b4.mono B3.size)
  have hcv := conv_sl o4.sl HY
  clear o4 b4 q4 B0 B1 B2 B3
  go_wp2
  go_ret
  exact ⟨by rw [HL.out]; rfl, HB4.out⟩

/-- what holds at every jump: the two slices read lists that part where the first ones do -/
def PJ (w : World) (C : ByteArray × ByteArray) (a : Act) (W : World) : Prop :=
  ∃ (l m : List ByteArray) (v1 v2 u6 u7 u8 u9 u10 u11 u12 u13 u14 u15 u16 u17 u18 u19 u20 u21 u22 u23 u24 u25 u26 u27 u28 u29 u30 u31 u32 u33 u34 u35 u36 u37 u38 u39 u40 u41 u42 u43 u44 u45 u46 u47 u48 u49 u50 : Value), a = { tmps := #[v1, v2, undef, undef, .string ⟨#[]⟩, .string ⟨#[]⟩, u6, u7, u8, u9, u10, u11, u12, u13, u14, u15, u16, u17, u18, u19, u20, u21, u22, u23, u24, u25, u26, u27, u28, u29, u30, u31, u32, u33, u34, u35, u36, u37, u38, u39, u40, u41, u42, u43, u44, u45, u46, u47, u48, u49, u50], defers := [] } ∧
    1 ≤ l.length ∧ l.length = m.length ∧ l.length ≤ 200 ∧ (∀ s ∈ l, s.size ≤ 10000000000) ∧ (∀ s ∈ m, s.size ≤ 10000000000) ∧ clash l m = C ∧ Sl W v1 (ss l) ∧ Sl W v2 (ss m) ∧ Below w.heap.size w W
/-- how long the first slice is -/
def pmu (a : Act) (_ : World) : Nat := match a.tmps.getD 0 undef with
  | .slice _ n _ => n
  | _ => 0

set_option maxRecDepth 1000000 in
set_option maxHeartbeats 8000000 in
theorem parting_impl (w : World) (va vb : Value) (l m : List ByteArray) (hG : Glob w) (hp : 1 ≤ l.length) (hlm : l.length = m.length) (g1 : Sl w va (ss l)) (g2 : Sl w vb (ss m)) (hl : l.length ≤ 200) (hz1 : ∀ s ∈ l, s.size ≤ 10000000000) (hz2 : ∀ s ∈ m, s.size ≤ 10000000000) :
    Calls Tryd.prog 23 #[va, vb] w fun e w' => e = .returned (.tuple #[.string (clash l m).1, .string (clash l m).2]) ∧ Below w.heap.size w w' := by
  obtain ⟨C, hC⟩ : ∃ C, clash l m = C := ⟨_, rfl⟩
  rw [hC]
  have HC : Hid (clash l m = C) := hC
  have BX : Below w.heap.size w w := Below.refl _ _
  clear hC
  go_enter Tryd.func23, Tryd.ntmps23
  go_wp2
  refine wp_scope_jumps 0 (PJ w C) pmu rfl ?_ ?_
  · by_cases h1 : l.length = 1
    · obtain ⟨s, rfl⟩ := List.length_eq_one_iff.1 h1
      obtain ⟨t, rfl⟩ := List.length_eq_one_iff.1 (show m.length = 1 by omega)
      obtain ⟨b1, o1, c1, rfl, e1⟩ := slOne g1
      obtain ⟨b2, o2, c2, rfl, e2⟩ := slOne g2
      have q1 : ∀ W, _ := fun W => leafT_impl W s (by have := hz1 s (by simp); omega)
      have q2 : ∀ W, _ := fun W => leafT_impl W t (by have := hz2 t (by simp); omega)
      have HN : Hid ((leafT s, leafT t) = C) := (clash_one s t).symm.trans HC.out
      obtain ⟨x, hx⟩ : ∃ x, leafT s = x := ⟨_, rfl⟩
      obtain ⟨y, hy⟩ : ∃ x, leafT t = x := ⟨_, rfl⟩
      simp only [hx] at q1 HN
      simp only [hy] at q2 HN
      clear hz1 hz2 hx hy g1 g2 hlm h1 hp HC hG hl
      go_wp2
      go_step3
      go_wp2_with fail
      refine wp_region_held_drew (S := fun w' => w'.cell? ⟨b1, o1, none⟩ = some (.string s) ∧ w'.cell? ⟨b2, o2, none⟩ = some (.string t)) (by kernel_rfl) ⟨e1, e2⟩ (fun hHeld => ?_)
      (refine wpAnyH_take (i := 0) (v := ?v0x45) rfl (by kernel_rfl) (by kernel_rfl) (by kernel_rfl) (fun _ _ _ h => h) (Or.inl ⟨by rfl, ?hy0x45⟩) (by assumption) ?rest0x45; case hy0x45 => (intro w hSw; (try dsimp only at hSw); go_split_ands; go_simp; (try with_reducible rfl)))
      try simp only [Act.put, List.setIfInBounds_toArray, List.set_cons_zero, List.set_cons_succ, List.getElem_toArray, List.getElem_cons_zero, List.getElem_cons_succ]
      (refine wpAnyH_take (i := 1) (v := ?v1x46) rfl (by kernel_rfl) (by kernel_rfl) (by kernel_rfl) (fun _ _ _ h => h) (Or.inl ⟨by rfl, ?hy1x46⟩) (by assumption) ?rest1x46; case hy1x46 => (intro w hSw; (try dsimp only at hSw); go_split_ands; go_simp; (try with_reducible rfl)))
      try simp only [Act.put, List.setIfInBounds_toArray, List.set_cons_zero, List.set_cons_succ, List.getElem_toArray, List.getElem_cons_zero, List.getElem_cons_succ]
      (refine wpAnyH_take (i := 2) (v := ?v2x47) rfl (by kernel_rfl) (by kernel_rfl) (by kernel_rfl) (fun _ _ _ h => h) (Or.inl ⟨by rfl, ?hy2x47⟩) (by assumption) ?rest2x47; case hy2x47 => (intro w hSw; (try dsimp only at hSw); go_split_ands; go_simp; (try with_reducible rfl)))
      try simp only [Act.put, List.setIfInBounds_toArray, List.set_cons_zero, List.set_cons_succ, List.getElem_toArray, List.getElem_cons_zero, List.getElem_cons_succ]
      (refine wpAnyH_take (i := 4) (v := ?v4x48) rfl (by kernel_rfl) (by kernel_rfl) (by kernel_rfl) (fun _ _ _ h => h) (Or.inl ⟨by rfl, ?hy4x48⟩) (by assumption) ?rest4x48; case hy4x48 => (intro w hSw; (try dsimp only at hSw); go_split_ands; go_simp; (try with_reducible rfl)))
      try simp only [Act.put, List.setIfInBounds_toArray, List.set_cons_zero, List.set_cons_succ, List.getElem_toArray, List.getElem_cons_zero, List.getElem_cons_succ]
      (refine wpAnyH_take (i := 5) (v := ?v5x49) rfl (by kernel_rfl) (by kernel_rfl) (by kernel_rfl) (fun _ _ _ h => h) (Or.inl ⟨by rfl, ?hy5x49⟩) (by assumption) ?rest5x49; case hy5x49 => (intro w hSw; (try dsimp only at hSw); go_split_ands; go_simp; (try with_reducible rfl)))
      try simp only [Act.put, List.setIfInBounds_toArray, List.set_cons_zero, List.set_cons_succ, List.getElem_toArray, List.getElem_cons_zero, List.getElem_cons_succ]
      (refine wpAnyH_take (i := 6) (v := ?v6x50) rfl (by kernel_rfl) (by kernel_rfl) (by kernel_rfl) (fun _ _ _ h => h) (Or.inl ⟨by rfl, ?hy6x50⟩) (by assumption) ?rest6x50; case hy6x50 => (intro w hSw; (try dsimp only at hSw); go_split_ands; go_simp; (try with_reducible rfl)))
      try simp only [Act.put, List.setIfInBounds_toArray, List.set_cons_zero, List.set_cons_succ, List.getElem_toArray, List.getElem_cons_zero, List.getElem_cons_succ]
      refine wpAnyH_ready (rs := [3]) (by kernel_rfl) (by simp) ?_
      refine AllReadyH.cons rfl (fun K hK => ?_) AllReadyH.nil
      go_simp
      refine (q1 _).mono ?_
      rintro e w1 ⟨rfl, d1⟩
      refine hK.out _ _ ⟨keepB hHeld.1 d1, keepB hHeld.2 d1⟩ (fun hHeld => ?_)
      clear hK K
      try simp only [Act.put, List.setIfInBounds_toArray, List.set_cons_zero, List.set_cons_succ, List.getElem_toArray, List.getElem_cons_zero, List.getElem_cons_succ]
      have B1 : Below w.heap.size w w1 := (Below.drew BX).trans (d1.mono BX.size)
      refine wpAnyH_ready (rs := [7]) (by kernel_rfl) (by simp) ?_
      refine AllReadyH.cons rfl (fun K hK => ?_) AllReadyH.nil
      go_simp
      refine (q2 _).mono ?_
      rintro e w2 ⟨rfl, d2⟩
      refine hK.out _ _ ⟨keepB hHeld.1 d2, keepB hHeld.2 d2⟩ (fun hHeld => ?_)
      clear hK K
      try simp only [Act.put, List.setIfInBounds_toArray, List.set_cons_zero, List.set_cons_succ, List.getElem_toArray, List.getElem_cons_zero, List.getElem_cons_succ]
      have B2 : Below w.heap.size w w2 := B1.trans (d2.mono B1.size)
      (refine wpAnyH_take (i := 8) (v := ?v8x51) rfl (by kernel_rfl) (by kernel_rfl) (by kernel_rfl) (fun _ _ _ h => h) (Or.inl ⟨by rfl, ?hy8x51⟩) (by assumption) ?rest8x51; case hy8x51 => (intro w hSw; (try dsimp only at hSw); go_split_ands; go_simp; (try with_reducible rfl)))
      try simp only [Act.put, List.setIfInBounds_toArray, List.set_cons_zero, List.set_cons_succ, List.getElem_toArray, List.getElem_cons_zero, List.getElem_cons_succ]
      (refine wpAnyH_take (i := 9) (v := ?v9x52) rfl (by kernel_rfl) (by kernel_rfl) (by kernel_rfl) (fun _ _ _ h => h) (Or.inl ⟨by rfl, ?hy9x52⟩) (by assumption) ?rest9x52; case hy9x52 => (intro w hSw; (try dsimp only at hSw); go_split_ands; go_simp; (try with_reducible rfl)))
      try simp only [Act.put, List.setIfInBounds_toArray, List.set_cons_zero, List.set_cons_succ, List.getElem_toArray, List.getElem_cons_zero, List.getElem_cons_succ]
      refine wpAnyH_done (by kernel_rfl) ?_ _
      clear hHeld
      go_wp2
      simp only [Exit.jump]
      go_ret2
      exact ⟨by rw [← HN.out]; rfl, B2⟩
    · have h2 : 2 ≤ l.length := by omega
      have hk1 := (half_ok h2).2.1
      have hk0 := half_pos h2
      have q0 := halves_any w va l g1 h2 (by omega)
      have q0' : ∀ W, Below w.heap.size w W → _ := fun W hW => halves_any W vb m (g2.later hW) (by omega) (by omega)
      rw [← hlm] at q0'
      have HP := @clash_part l m h2
      have HR := @clash_rest l m h2
      have HF := @clash_first l m h2
      have z1 := root_size (l.take (half l.length))
      have z3 := root_size (m.take (half l.length))
      obtain ⟨k, hkk⟩ : ∃ k, half l.length = k := ⟨_, rfl⟩
      simp only [hkk] at q0 q0' hk0 hk1 HP HR HF z1 z3
      have lt : (l.take k).length = k := by rw [List.length_take]; omega
      have mt : (m.take k).length = k := by rw [List.length_take]; omega
      have ld : (l.drop k).length = l.length - k := by rw [List.length_drop]
      have md : (m.drop k).length = l.length - k := by rw [List.length_drop]; omega
      have zl1 : ∀ s ∈ l.take k, s.size ≤ 10000000000 := fun s hs => hz1 s (List.mem_of_mem_take hs)
      have zl2 : ∀ s ∈ l.drop k, s.size ≤ 10000000000 := fun s hs => hz1 s (List.mem_of_mem_drop hs)
      have zm1 : ∀ s ∈ m.take k, s.size ≤ 10000000000 := fun s hs => hz2 s (List.mem_of_mem_take hs)
      have zm2 : ∀ s ∈ m.drop k, s.size ≤ 10000000000 := fun s hs => hz2 s (List.mem_of_mem_drop hs)
      obtain ⟨l1, hl1⟩ : ∃ x, l.take k = x := ⟨_, rfl⟩
      obtain ⟨l2, hl2⟩ : ∃ x, l.drop k = x := ⟨_, rfl⟩
      obtain ⟨m1, hm1⟩ : ∃ x, m.take k = x := ⟨_, rfl⟩
      obtain ⟨m2, hm2⟩ : ∃ x, m.drop k = x := ⟨_, rfl⟩
      simp only [hl1, hl2, hm1, hm2, HC.out] at q0 q0' HP HR HF lt mt ld md zl1 zl2 zm1 zm2 z1 z3
      have n1 : ∀ W v v', Below w.heap.size w W → Sl W v (ss l1) → Sl W v' (ss l2) → _ := fun W v v' hW s1 s2 => nodeT_impl W v v' l1 l2 (hG.later hW) s1 s2 (by omega) (by omega) zl1 zl2
      have n2 : ∀ W v v', Below w.heap.size w W → Sl W v (ss m1) → Sl W v' (ss m2) → _ := fun W v v' hW s1 s2 => nodeT_impl W v v' m1 m2 (hG.later hW) s1 s2 (by omega) (by omega) zm1 zm2
      obtain ⟨ao, cap, rfl, hcap⟩ := Sl.form g1
      obtain ⟨bo, cbp, rfl, hcbp⟩ := Sl.form g2
      have inj : nodeT (root l1) (root l2) = nodeT (root m1) (root m2) → root l1 = root m1 ∧ root l2 = root m2 := nodeT_inj (by omega)
      have HT : Hid ((l1 = m1) ∨ ¬ (l1 = m1)) := Decidable.em _
      have HP : Hid (¬ (nodeT (root l1) (root l2) = nodeT (root m1) (root m2)) → C = (nodeT (root l1) (root l2), nodeT (root m1) (root m2))) := fun h => HP (fun e => h (by rw [e.1, e.2]))
      have HR : Hid (nodeT (root l1) (root l2) = nodeT (root m1) (root m2) → l1 = m1 → C = clash l2 m2) := fun h => HR (inj h)
      have HF : Hid (nodeT (root l1) (root l2) = nodeT (root m1) (root m2) → ¬ l1 = m1 → C = clash l1 m1) := fun h => HF (inj h)
      obtain ⟨N1, hN1⟩ : ∃ x, nodeT (root l1) (root l2) = x := ⟨_, rfl⟩
      obtain ⟨N2, hN2⟩ : ∃ x, nodeT (root m1) (root m2) = x := ⟨_, rfl⟩
      simp only [hN1, hN2] at n1 n2 HP HR HF
      have HL : Hid (l1.length = k ∧ m1.length = k ∧ l2.length = l.length - k ∧ m2.length = l.length - k) := ⟨lt, mt, ld, md⟩
      have HZ : Hid ((∀ s ∈ l1, s.size ≤ 10000000000) ∧ (∀ s ∈ l2, s.size ≤ 10000000000) ∧ (∀ s ∈ m1, s.size ≤ 10000000000) ∧ (∀ s ∈ m2, s.size ≤ 10000000000)) := ⟨zl1, zl2, zm1, zm2⟩
      simp only [ss_len] at *
      have hlm1 : l.length ≤ m.length := by omega
      have hlm2 : m.length ≤ l.length := by omega
      have d1 : ((l.length : Int) == 1) = false := by rw [beq_eq_false_iff_ne]; omega
      clear hkk hl1 hl2 hm1 hm2 lt mt ld md zl1 zl2 zm1 zm2 z1 z3 inj hN1 hN2 hz1 hz2 HC g1 g2 hlm hp h1
      go_wp2
      go_step3
      go_wp2_with fail
      refine q0.mono ?_
      rintro e w1 ⟨b1, o1, rfl, s1, s2, x1⟩
      have s1 : Hid (Sl w1 _ (ss l1)) := s1.later x1
      have s2 : Hid (Sl w1 _ (ss l2)) := s2.later x1
      have q0'' := q0' w1 x1
      have B1 : Below w.heap.size w w1 := BX.trans (x1.mono BX.size)
      clear q0 q0' x1
      go_wp2_with fail
      refine q0''.mono ?_
      rintro e w2 ⟨b2, o2, rfl, s3, s4, x2⟩
      have s1 : Hid (Sl w2 _ (ss l1)) := s1.out.later x2
      have s2 : Hid (Sl w2 _ (ss l2)) := s2.out.later x2
      have s3 : Hid (Sl w2 _ (ss m1)) := s3.later x2
      have s4 : Hid (Sl w2 _ (ss m2)) := s4.later x2
      have B2 : Below w.heap.size w w2 := B1.trans (x2.mono B1.size)
      have n1 := n1 w2 _ _ B2 s1.out s2.out
      clear q0'' x2 B1
      go_wp2_with fail
      refine n1.mono ?_
      rintro e w3 ⟨rfl, x3⟩
      have s1 : Hid (Sl w3 _ (ss l1)) := s1.out.later x3
      have s2 : Hid (Sl w3 _ (ss l2)) := s2.out.later x3
      have s3 : Hid (Sl w3 _ (ss m1)) := s3.out.later x3
      have s4 : Hid (Sl w3 _ (ss m2)) := s4.out.later x3
      have B3 : Below w.heap.size w w3 := B2.trans (x3.mono B2.size)
      have n2 := n2 w3 _ _ B3 s3.out s4.out
      clear n1 x3 B2
      go_wp2_with fail
      refine n2.mono ?_
      rintro e w4 ⟨rfl, x4⟩
      have s1 : Hid (Sl w4 _ (ss l1)) := s1.out.later x4
      have s2 : Hid (Sl w4 _ (ss l2)) := s2.out.later x4
      have s3 : Hid (Sl w4 _ (ss m1)) := s3.out.later x4
      have s4 : Hid (Sl w4 _ (ss m2)) := s4.out.later x4
      have B4 : Below w.heap.size w w4 := B3.trans (x4.mono B3.size)
      clear n2 x4 B3
      by_cases hNN : N1 = N2
      · have dN := beq_yes hNN
        have dM : (N1.toList != N2.toList) = false := by rw [bne, dN]; rfl
        rcases HT.out with hs | hs
        · have HN : Hid (clash l2 m2 = C) := (HR.out hNN hs).symm
          have p0 := same_impl w4 _ _ l1 m1 true ⟨fun _ => hs, fun _ => rfl⟩ s1.out s3.out (by rw [HL.out.1]; omega) (by rw [HL.out.2.1]; omega)
          clear HP HR HF HT hs hNN
          go_wp2_with fail
          refine p0.mono ?_
          rintro e w5 ⟨rfl, x5, _⟩
          have s2 : Hid (Sl w5 _ (ss l2)) := s2.out.later (x5 _)
          have s4 : Hid (Sl w5 _ (ss m2)) := s4.out.later (x5 _)
          have B5 : Below w.heap.size w w5 := B4.trans (x5 _)
          clear p0 x5 B4 s1 s3
          go_wp2
          go_step3
          exact ⟨rfl, ⟨l2, m2, _, _, _, _, _, _, _, _, _, _, _, _, _, _, _, _, _, _, _, _, _, _, _, _, _, _, _, _, _, _, _, _, _, _, _, _, _, _, _, _, _, _, _, _, _, _, _, rfl, by rw [HL.out.2.2.1]; omega, by rw [HL.out.2.2.1, HL.out.2.2.2], by rw [HL.out.2.2.1]; omega, HZ.out.2.1, HZ.out.2.2.2, HN.out, s2.out, s4.out, B5⟩⟩
        · have HN : Hid (clash l1 m1 = C) := (HF.out hNN hs).symm
          have p0 := same_impl w4 _ _ l1 m1 false ⟨fun h => (by cases h), fun h => absurd h hs⟩ s1.out s3.out (by rw [HL.out.1]; omega) (by rw [HL.out.2.1]; omega)
          clear HP HR HF HT hs hNN
          go_wp2_with fail
          refine p0.mono ?_
          rintro e w5 ⟨rfl, x5, _⟩
          have s1 : Hid (Sl w5 _ (ss l1)) := s1.out.later (x5 _)
          have s3 : Hid (Sl w5 _ (ss m1)) := s3.out.later (x5 _)
          have B5 : Below w.heap.size w w5 := B4.trans (x5 _)
          clear p0 x5 B4 s2 s4
          go_wp2
          go_step3
          exact ⟨rfl, ⟨l1, m1, _, _, _, _, _, _, _, _, _, _, _, _, _, _, _, _, _, _, _, _, _, _, _, _, _, _, _, _, _, _, _, _, _, _, _, _, _, _, _, _, _, _, _, _, _, _, _, rfl, by rw [HL.out.1]; omega, by rw [HL.out.1, HL.out.2.1], by rw [HL.out.1]; omega, HZ.out.1, HZ.out.2.2.1, HN.out, s1.out, s3.out, B5⟩⟩
      · have dN := beq_no hNN
        have dM : (N1.toList != N2.toList) = true := by rw [bne, dN]; rfl
        have HN : Hid (C = (N1, N2)) := HP.out hNN
        clear HP HR HF HT hNN s1 s2 s3 s4
        go_wp2
        simp only [Exit.jump]
        go_ret2
        exact ⟨by rw [HN.out]; rfl, B4⟩
  · clear HC hz1 hz2 g1 g2 hp hlm hl BX
    rintro a' wr ⟨l, m, va, vb, u6, u7, u8, u9, u10, u11, u12, u13, u14, u15, u16, u17, u18, u19, u20, u21, u22, u23, u24, u25, u26, u27, u28, u29, u30, u31, u32, u33, u34, u35, u36, u37, u38, u39, u40, u41, u42, u43, u44, u45, u46, u47, u48, u49, u50, rfl, hp, hlm, hl, hz1, hz2, hC, g1, g2, BX⟩
    have HC : Hid (clash l m = C) := hC
    clear hC
    by_cases h1 : l.length = 1
    · obtain ⟨s, rfl⟩ := List.length_eq_one_iff.1 h1
      obtain ⟨t, rfl⟩ := List.length_eq_one_iff.1 (show m.length = 1 by omega)
      obtain ⟨b1, o1, c1, rfl, e1⟩ := slOne g1
      obtain ⟨b2, o2, c2, rfl, e2⟩ := slOne g2
      have q1 : ∀ W, _ := fun W => leafT_impl W s (by have := hz1 s (by simp); omega)
      have q2 : ∀ W, _ := fun W => leafT_impl W t (by have := hz2 t (by simp); omega)
      have HN : Hid ((leafT s, leafT t) = C) := (clash_one s t).symm.trans HC.out
      obtain ⟨x, hx⟩ : ∃ x, leafT s = x := ⟨_, rfl⟩
      obtain ⟨y, hy⟩ : ∃ x, leafT t = x := ⟨_, rfl⟩
      simp only [hx] at q1 HN
      simp only [hy] at q2 HN
      clear hz1 hz2 hx hy g1 g2 hlm h1 hp HC hG hl
      go_wp2_with fail
      refine wp_region_held_drew (S := fun w' => w'.cell? ⟨b1, o1, none⟩ = some (.string s) ∧ w'.cell? ⟨b2, o2, none⟩ = some (.string t)) (by kernel_rfl) ⟨e1, e2⟩ (fun hHeld => ?_)
      (refine wpAnyH_take (i := 0) (v := ?v0x53) rfl (by kernel_rfl) (by kernel_rfl) (by kernel_rfl) (fun _ _ _ h => h) (Or.inl ⟨by rfl, ?hy0x53⟩) (by assumption) ?rest0x53; case hy0x53 => (intro w hSw; (try dsimp only at hSw); go_split_ands; go_simp; (try with_reducible rfl)))
      try simp only [Act.put, List.setIfInBounds_toArray, List.set_cons_zero, List.set_cons_succ, List.getElem_toArray, List.getElem_cons_zero, List.getElem_cons_succ]
      (refine wpAnyH_take (i := 1) (v := ?v1x54) rfl (by kernel_rfl) (by kernel_rfl) (by kernel_rfl) (fun _ _ _ h => h) (Or.inl ⟨by rfl, ?hy1x54⟩) (by assumption) ?rest1x54; case hy1x54 => (intro w hSw; (try dsimp only at hSw); go_split_ands; go_simp; (try with_reducible rfl)))
      try simp only [Act.put, List.setIfInBounds_toArray, List.set_cons_zero, List.set_cons_succ, List.getElem_toArray, List.getElem_cons_zero, List.getElem_cons_succ]
      (refine wpAnyH_take (i := 2) (v := ?v2x55) rfl (by kernel_rfl) (by kernel_rfl) (by kernel_rfl) (fun _ _ _ h => h) (Or.inl ⟨by rfl, ?hy2x55⟩) (by assumption) ?rest2x55; case hy2x55 => (intro w hSw; (try dsimp only at hSw); go_split_ands; go_simp; (try with_reducible rfl)))
      try simp only [Act.put, List.setIfInBounds_toArray, List.set_cons_zero, List.set_cons_succ, List.getElem_toArray, List.getElem_cons_zero, List.getElem_cons_succ]
      (refine wpAnyH_take (i := 4) (v := ?v4x56) rfl (by kernel_rfl) (by kernel_rfl) (by kernel_rfl) (fun _ _ _ h => h) (Or.inl ⟨by rfl, ?hy4x56⟩) (by assumption) ?rest4x56; case hy4x56 => (intro w hSw; (try dsimp only at hSw); go_split_ands; go_simp; (try with_reducible rfl)))
      try simp only [Act.put, List.setIfInBounds_toArray, List.set_cons_zero, List.set_cons_succ, List.getElem_toArray, List.getElem_cons_zero, List.getElem_cons_succ]
      (refine wpAnyH_take (i := 5) (v := ?v5x57) rfl (by kernel_rfl) (by kernel_rfl) (by kernel_rfl) (fun _ _ _ h => h) (Or.inl ⟨by rfl, ?hy5x57⟩) (by assumption) ?rest5x57; case hy5x57 => (intro w hSw; (try dsimp only at hSw); go_split_ands; go_simp; (try with_reducible rfl)))
      try simp only [Act.put, List.setIfInBounds_toArray, List.set_cons_zero, List.set_cons_succ, List.getElem_toArray, List.getElem_cons_zero, List.getElem_cons_succ]
      (refine wpAnyH_take (i := 6) (v := ?v6x58) rfl (by kernel_rfl) (by kernel_rfl) (by kernel_rfl) (fun _ _ _ h => h) (Or.inl ⟨by rfl, ?hy6x58⟩) (by assumption) ?rest6x58; case hy6x58 => (intro w hSw; (try dsimp only at hSw); go_split_ands; go_simp; (try with_reducible rfl)))
      try simp only [Act.put, List.setIfInBounds_toArray, List.set_cons_zero, List.set_cons_succ, List.getElem_toArray, List.getElem_cons_zero, List.getElem_cons_succ]
      refine wpAnyH_ready (rs := [3]) (by kernel_rfl) (by simp) ?_
      refine AllReadyH.cons rfl (fun K hK => ?_) AllReadyH.nil
      go_simp
      refine (q1 _).mono ?_
      rintro e w1 ⟨rfl, d1⟩
      refine hK.out _ _ ⟨keepB hHeld.1 d1, keepB hHeld.2 d1⟩ (fun hHeld => ?_)
      clear hK K
      try simp only [Act.put, List.setIfInBounds_toArray, List.set_cons_zero, List.set_cons_succ, List.getElem_toArray, List.getElem_cons_zero, List.getElem_cons_succ]
      have B1 : Below w.heap.size w w1 := (Below.drew BX).trans (d1.mono BX.size)
      refine wpAnyH_ready (rs := [7]) (by kernel_rfl) (by simp) ?_
      refine AllReadyH.cons rfl (fun K hK => ?_) AllReadyH.nil
      go_simp
      refine (q2 _).mono ?_
      rintro e w2 ⟨rfl, d2⟩
      refine hK.out _ _ ⟨keepB hHeld.1 d2, keepB hHeld.2 d2⟩ (fun hHeld => ?_)
      clear hK K
      try simp only [Act.put, List.setIfInBounds_toArray, List.set_cons_zero, List.set_cons_succ, List.getElem_toArray, List.getElem_cons_zero, List.getElem_cons_succ]
      have B2 : Below w.heap.size w w2 := B1.trans (d2.mono B1.size)
      (refine wpAnyH_take (i := 8) (v := ?v8x59) rfl (by kernel_rfl) (by kernel_rfl) (by kernel_rfl) (fun _ _ _ h => h) (Or.inl ⟨by rfl, ?hy8x59⟩) (by assumption) ?rest8x59; case hy8x59 => (intro w hSw; (try dsimp only at hSw); go_split_ands; go_simp; (try with_reducible rfl)))
      try simp only [Act.put, List.setIfInBounds_toArray, List.set_cons_zero, List.set_cons_succ, List.getElem_toArray, List.getElem_cons_zero, List.getElem_cons_succ]
      (refine wpAnyH_take (i := 9) (v := ?v9x60) rfl (by kernel_rfl) (by kernel_rfl) (by kernel_rfl) (fun _ _ _ h => h) (Or.inl ⟨by rfl, ?hy9x60⟩) (by assumption) ?rest9x60; case hy9x60 => (intro w hSw; (try dsimp only at hSw); go_split_ands; go_simp; (try with_reducible rfl)))
      try simp only [Act.put, List.setIfInBounds_toArray, List.set_cons_zero, List.set_cons_succ, List.getElem_toArray, List.getElem_cons_zero, List.getElem_cons_succ]
      refine wpAnyH_done (by kernel_rfl) ?_ _
      clear hHeld
      go_wp2
      simp only [Exit.jump]
      go_ret2
      exact ⟨by rw [← HN.out]; rfl, B2⟩
    · have h2 : 2 ≤ l.length := by omega
      have hk1 := (half_ok h2).2.1
      have hk0 := half_pos h2
      have q0 := halves_any wr va l g1 h2 (by omega)
      have q0' : ∀ W, Below wr.heap.size wr W → _ := fun W hW => halves_any W vb m (g2.later hW) (by omega) (by omega)
      rw [← hlm] at q0'
      have HP := @clash_part l m h2
      have HR := @clash_rest l m h2
      have HF := @clash_first l m h2
      have z1 := root_size (l.take (half l.length))
      have z3 := root_size (m.take (half l.length))
      obtain ⟨k, hkk⟩ : ∃ k, half l.length = k := ⟨_, rfl⟩
      simp only [hkk] at q0 q0' hk0 hk1 HP HR HF z1 z3
      have lt : (l.take k).length = k := by rw [List.length_take]; omega
      have mt : (m.take k).length = k := by rw [List.length_take]; omega
      have ld : (l.drop k).length = l.length - k := by rw [List.length_drop]
      have md : (m.drop k).length = l.length - k := by rw [List.length_drop]; omega
      have zl1 : ∀ s ∈ l.take k, s.size ≤ 10000000000 := fun s hs => hz1 s (List.mem_of_mem_take hs)
      have zl2 : ∀ s ∈ l.drop k, s.size ≤ 10000000000 := fun s hs => hz1 s (List.mem_of_mem_drop hs)
      have zm1 : ∀ s ∈ m.take k, s.size ≤ 10000000000 := fun s hs => hz2 s (List.mem_of_mem_take hs)
      have zm2 : ∀ s ∈ m.drop k, s.size ≤ 10000000000 := fun s hs => hz2 s (List.mem_of_mem_drop hs)
      obtain ⟨l1, hl1⟩ : ∃ x, l.take k = x := ⟨_, rfl⟩
      obtain ⟨l2, hl2⟩ : ∃ x, l.drop k = x := ⟨_, rfl⟩
      obtain ⟨m1, hm1⟩ : ∃ x, m.take k = x := ⟨_, rfl⟩
      obtain ⟨m2, hm2⟩ : ∃ x, m.drop k = x := ⟨_, rfl⟩
      simp only [hl1, hl2, hm1, hm2, HC.out] at q0 q0' HP HR HF lt mt ld md zl1 zl2 zm1 zm2 z1 z3
      have n1 : ∀ W v v', Below w.heap.size w W → Sl W v (ss l1) → Sl W v' (ss l2) → _ := fun W v v' hW s1 s2 => nodeT_impl W v v' l1 l2 (hG.later hW) s1 s2 (by omega) (by omega) zl1 zl2
      have n2 : ∀ W v v', Below w.heap.size w W → Sl W v (ss m1) → Sl W v' (ss m2) → _ := fun W v v' hW s1 s2 => nodeT_impl W v v' m1 m2 (hG.later hW) s1 s2 (by omega) (by omega) zm1 zm2
      obtain ⟨ao, cap, rfl, hcap⟩ := Sl.form g1
      obtain ⟨bo, cbp, rfl, hcbp⟩ := Sl.form g2
      have inj : nodeT (root l1) (root l2) = nodeT (root m1) (root m2) → root l1 = root m1 ∧ root l2 = root m2 := nodeT_inj (by omega)
      have HT : Hid ((l1 = m1) ∨ ¬ (l1 = m1)) := Decidable.em _
      have HP : Hid (¬ (nodeT (root l1) (root l2) = nodeT (root m1) (root m2)) → C = (nodeT (root l1) (root l2), nodeT (root m1) (root m2))) := fun h => HP (fun e => h (by rw [e.1, e.2]))
      have HR : Hid (nodeT (root l1) (root l2) = nodeT (root m1) (root m2) → l1 = m1 → C = clash l2 m2) := fun h => HR (inj h)
      have HF : Hid (nodeT (root l1) (root l2) = nodeT (root m1) (root m2) → ¬ l1 = m1 → C = clash l1 m1) := fun h => HF (inj h)
      obtain ⟨N1, hN1⟩ : ∃ x, nodeT (root l1) (root l2) = x := ⟨_, rfl⟩
      obtain ⟨N2, hN2⟩ : ∃ x, nodeT (root m1) (root m2) = x := ⟨_, rfl⟩
      simp only [hN1, hN2] at n1 n2 HP HR HF
      have HL : Hid (l1.length = k ∧ m1.length = k ∧ l2.length = l.length - k ∧ m2.length = l.length - k) := ⟨lt, mt, ld, md⟩
      have HZ : Hid ((∀ s ∈ l1, s.size ≤ 10000000000) ∧ (∀ s ∈ l2, s.size ≤ 10000000000) ∧ (∀ s ∈ m1, s.size ≤ 10000000000) ∧ (∀ s ∈ m2, s.size ≤ 10000000000)) := ⟨zl1, zl2, zm1, zm2⟩
      simp only [ss_len] at *
      have hlm1 : l.length ≤ m.length := by omega
      have hlm2 : m.length ≤ l.length := by omega
      have d1 : ((l.length : Int) == 1) = false := by rw [beq_eq_false_iff_ne]; omega
      clear hkk hl1 hl2 hm1 hm2 lt mt ld md zl1 zl2 zm1 zm2 z1 z3 inj hN1 hN2 hz1 hz2 HC g1 g2 hlm hp h1
      go_wp2_with fail
      refine q0.mono ?_
      rintro e w1 ⟨b1, o1, rfl, s1, s2, x1⟩
      have s1 : Hid (Sl w1 _ (ss l1)) := s1.later x1
      have s2 : Hid (Sl w1 _ (ss l2)) := s2.later x1
      have q0'' := q0' w1 x1
      have B1 : Below w.heap.size w w1 := BX.trans (x1.mono BX.size)
      clear q0 q0' x1
      go_wp2_with fail
      refine q0''.mono ?_
      rintro e w2 ⟨b2, o2, rfl, s3, s4, x2⟩
      have s1 : Hid (Sl w2 _ (ss l1)) := s1.out.later x2
      have s2 : Hid (Sl w2 _ (ss l2)) := s2.out.later x2
      have s3 : Hid (Sl w2 _ (ss m1)) := s3.later x2
      have s4 : Hid (Sl w2 _ (ss m2)) := s4.later x2
      have B2 : Below w.heap.size w w2 := B1.trans (x2.mono B1.size)
      have n1 := n1 w2 _ _ B2 s1.out s2.out
      clear q0'' x2 B1
      go_wp2_with fail
      refine n1.mono ?_
      rintro e w3 ⟨rfl, x3⟩
      have s1 : Hid (Sl w3 _ (ss l1)) := s1.out.later x3
      have s2 : Hid (Sl w3 _ (ss l2)) := s2.out.later x3
      have s3 : Hid (Sl w3 _ (ss m1)) := s3.out.later x3
      have s4 : Hid (Sl w3 _ (ss m2)) := s4.out.later x3
      have B3 : Below w.heap.size w w3 := B2.trans (x3.mono B2.size)
      have n2 := n2 w3 _ _ B3 s3.out s4.out
      clear n1 x3 B2
      go_wp2_with fail
      refine n2.mono ?_
      rintro e w4 ⟨rfl, x4⟩
      have s1 : Hid (Sl w4 _ (ss l1)) := s1.out.later x4
      have s2 : Hid (Sl w4 _ (ss l2)) := s2.out.later x4
      have s3 : Hid (Sl w4 _ (ss m1)) := s3.out.later x4
      have s4 : Hid (Sl w4 _ (ss m2)) := s4.out.later x4
      have B4 : Below w.heap.size w w4 := B3.trans (x4.mono B3.size)
      clear n2 x4 B3
      by_cases hNN : N1 = N2
      · have dN := beq_yes hNN
        have dM : (N1.toList != N2.toList) = false := by rw [bne, dN]; rfl
        rcases HT.out with hs | hs
        · have HN : Hid (clash l2 m2 = C) := (HR.out hNN hs).symm
          have p0 := same_impl w4 _ _ l1 m1 true ⟨fun _ => hs, fun _ => rfl⟩ s1.out s3.out (by rw [HL.out.1]; omega) (by rw [HL.out.2.1]; omega)
          clear HP HR HF HT hs hNN
          go_wp2_with fail
          refine p0.mono ?_
          rintro e w5 ⟨rfl, x5, _⟩
          have s2 : Hid (Sl w5 _ (ss l2)) := s2.out.later (x5 _)
          have s4 : Hid (Sl w5 _ (ss m2)) := s4.out.later (x5 _)
          have B5 : Below w.heap.size w w5 := B4.trans (x5 _)
          clear p0 x5 B4 s1 s3
          go_wp2
          go_step3
          exact ⟨rfl, ⟨l2, m2, _, _, _, _, _, _, _, _, _, _, _, _, _, _, _, _, _, _, _, _, _, _, _, _, _, _, _, _, _, _, _, _, _, _, _, _, _, _, _, _, _, _, _, _, _, _, _, rfl, by rw [HL.out.2.2.1]; omega, by rw [HL.out.2.2.1, HL.out.2.2.2], by rw [HL.out.2.2.1]; omega, HZ.out.2.1, HZ.out.2.2.2, HN.out, s2.out, s4.out, B5⟩, by simp [pmu]; omega⟩
        · have HN : Hid (clash l1 m1 = C) := (HF.out hNN hs).symm
          have p0 := same_impl w4 _ _ l1 m1 false ⟨fun h => (by cases h), fun h => absurd h hs⟩ s1.out s3.out (by rw [HL.out.1]; omega) (by rw [HL.out.2.1]; omega)
          clear HP HR HF HT hs hNN
          go_wp2_with fail
          refine p0.mono ?_
          rintro e w5 ⟨rfl, x5, _⟩
          have s1 : Hid (Sl w5 _ (ss l1)) := s1.out.later (x5 _)
          have s3 : Hid (Sl w5 _ (ss m1)) := s3.out.later (x5 _)
          have B5 : Below w.heap.size w w5 := B4.trans (x5 _)
          clear p0 x5 B4 s2 s4
          go_wp2
          go_step3
          exact ⟨rfl, ⟨l1, m1, _, _, _, _, _, _, _, _, _, _, _, _, _, _, _, _, _, _, _, _, _, _, _, _, _, _, _, _, _, _, _, _, _, _, _, _, _, _, _, _, _, _, _, _, _, _, _, rfl, by rw [HL.out.1]; omega, by rw [HL.out.1, HL.out.2.1], by rw [HL.out.1]; omega, HZ.out.1, HZ.out.2.2.1, HN.out, s1.out, s3.out, B5⟩, by simp [pmu]; omega⟩
      · have dN := beq_no hNN
        have dM : (N1.toList != N2.toList) = true := by rw [bne, dN]; rfl
        have HN : Hid (C = (N1, N2)) := HP.out hNN
        clear HP HR HF HT hNN s1 s2 s3 s4
        go_wp2
        simp only [Exit.jump]
        go_ret2
        exact ⟨by rw [HN.out]; rfl, B4⟩

set_option maxRecDepth 1000000 in
set_option maxHeartbeats 2000000 in
theorem clash_impl (w : World) (v v' : Value) (l m : List ByteArray) (hG : Glob w) (g1 : Sl w v (ss l)) (g2 : Sl w v' (ss m)) (hl : l.length ≤ 1000000000000) (hm : m.length ≤ 1000000000000) (hz1 : ∀ s ∈ l, s.size ≤ 10000000000) (hz2 : ∀ s ∈ m, s.size ≤ 10000000000) :
    Calls Tryd.prog 8 #[v, v'] w fun e w' => e = .returned (.tuple #[.string (clashOf l m).1, .string (clashOf l m).2.1, .bool (clashOf l m).2.2]) ∧ Below w.heap.size w w' := by
  obtain ⟨ao, cap, hv, hc1⟩ := Sl.form g1
  obtain ⟨bo, cbp, hv', hc2⟩ := Sl.form g2
  rw [ss_len] at hv hv' hc1 hc2
  by_cases hlm : l.length = m.length
  · have dn : ((l.length : Int) == (m.length : Int)) = true := by rw [beq_iff_eq]; omega
    have hlm1 : l.length ≤ m.length := by omega
    have hlm2 : m.length ≤ l.length := by omega
    by_cases h2 : l.length ≤ 200
    · have d2 : ¬ (200 : Int) < (l.length : Int) := by omega
      by_cases hne : l = m
      · have HN : Hid (clashOf l m = (⟨#[]⟩, ⟨#[]⟩, false)) := clashOf_no (fun h => h.2.2 hne)
        have q0 := same_impl w v v' l m true ⟨fun _ => hne, fun _ => rfl⟩ g1 g2 hl hm
        obtain ⟨C, hC⟩ : ∃ C, clashOf l m = C := ⟨_, rfl⟩
        rw [hC] at HN ⊢
        subst hv hv'
        clear hz1 hz2 g1 g2 hlm hne hC hG
        go_enter Tryd.func8, Tryd.ntmps8
        go_wp2_with fail
        refine q0.mono ?_
        rintro e w1 ⟨rfl, b1, _⟩
        go_wp2
        go_ret3
        exact ⟨by rw [HN.out]; rfl, b1 _⟩
      · have HN : Hid (clashOf l m = ((clash l m).1, (clash l m).2, eq6 (root l) (root m))) := clashOf_yes ⟨hlm, h2, hne⟩
        have q0 := same_impl w v v' l m false ⟨fun h => (by cases h), fun h => absurd h hne⟩ g1 g2 hl hm
        have hp := pos_of_ne hlm hne
        have q1 : ∀ W, Below w.heap.size w W → _ := fun W hW => parting_impl W v v' l m (hG.later hW) hp hlm (g1.later hW) (g2.later hW) h2 hz1 hz2
        have q2 : ∀ W, Below w.heap.size w W → _ := fun W hW => root_impl W v l (hG.later hW) (g1.later hW) (by omega) hz1
        have q3 : ∀ W, Below w.heap.size w W → _ := fun W hW => root_impl W v' m (hG.later hW) (g2.later hW) (by omega) hz2
        have e1 : rootOf l = root l := by unfold rootOf; rw [if_pos h2]
        have e2 : rootOf m = root m := by unfold rootOf; rw [if_pos (by omega)]
        rw [e1] at q2
        rw [e2] at q3
        obtain ⟨C, hC⟩ : ∃ C, clashOf l m = C := ⟨_, rfl⟩
        obtain ⟨a, b, hD⟩ : ∃ a b, clash l m = (a, b) := ⟨_, _, rfl⟩
        obtain ⟨x, hx⟩ : ∃ x, root l = x := ⟨_, rfl⟩
        obtain ⟨y, hy⟩ : ∃ x, root m = x := ⟨_, rfl⟩
        obtain ⟨t, ht⟩ : ∃ t, (x.toList == y.toList) = t := ⟨_, rfl⟩
        have HE : Hid (eq6 x y = t) := ht
        simp only [hC, hD, hx, hy] at HN q1 q2 q3 ⊢
        rw [HE.out] at HN
        subst hv hv'
        clear hz1 hz2 g1 g2 hlm hne hC hD hx hy hp e1 e2 hG
        go_enter Tryd.func8, Tryd.ntmps8
        go_wp2_with fail
        refine q0.mono ?_
        rintro e w1 ⟨rfl, b1, _⟩
        have B1 : Below w.heap.size w w1 := b1 _
        go_wp2_with fail
        refine (q1 _ B1).mono ?_
        rintro e w2 ⟨rfl, b2⟩
        have B2 : Below w.heap.size w w2 := B1.trans (b2.mono B1.size)
        go_wp2_with fail
        refine (q2 _ B2).mono ?_
        rintro e w3 ⟨rfl, b3⟩
        have B3 : Below w.heap.size w w3 := B2.trans (b3.mono B2.size)
        go_wp2_with fail
        refine (q3 _ B3).mono ?_
        rintro e w4 ⟨rfl, b4⟩
        have B4 : Below w.heap.size w w4 := B3.trans (b4.mono B3.size)
        go_wp2
        go_ret3
        exact ⟨by rw [HN.out]; rfl, B4⟩
    · have d2 : (200 : Int) < (l.length : Int) := by omega
      have HN : Hid (clashOf l m = (⟨#[]⟩, ⟨#[]⟩, false)) := clashOf_no (fun h => h2 h.2.1)
      obtain ⟨C, hC⟩ : ∃ C, clashOf l m = C := ⟨_, rfl⟩
      rw [hC] at HN ⊢
      subst hv hv'
      clear hz1 hz2 g1 g2 hlm hC hG
      go_enter Tryd.func8, Tryd.ntmps8
      go_wp2
      go_ret3
      exact ⟨by rw [HN.out]; rfl, Below.refl _ _⟩
  · have dn : ((l.length : Int) == (m.length : Int)) = false := by rw [beq_eq_false_iff_ne]; omega
    have dnn : ((l.length : Int) != (m.length : Int)) = true := by rw [bne, dn]; rfl
    have hlm3 : ¬ (l.length : Int) = (m.length : Int) := by omega
    have HN : Hid (clashOf l m = (⟨#[]⟩, ⟨#[]⟩, false)) := clashOf_no (fun h => hlm h.1)
    obtain ⟨C, hC⟩ : ∃ C, clashOf l m = C := ⟨_, rfl⟩
    rw [hC] at HN ⊢
    subst hv hv'
    clear hz1 hz2 g1 g2 hlm hC hG
    go_enter Tryd.func8, Tryd.ntmps8
    go_wp2
    go_ret3
    exact ⟨by rw [HN.out]; rfl, Below.refl _ _⟩

end Go.Proofs.YtpnmhanjibhgoaaDoor.Cl
