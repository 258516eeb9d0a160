/- Chapter 6, the specification's side: roots. -/
import Derived.Test.YteemblfjghnooaaTr2
namespace Go.Proofs.Yteemblfjghnooaa.Tr
open Go.RowKit Go.Proofs.Yteemblfjghnooaa.Mem Go.Proofs.Yteemblfjghnooaa.Laws Go.Proofs.Yteemblfjghnooaa.Bytes Go.Proofs.Yteemblfjghnooaa.Sha
set_option linter.unusedVariables false
set_option linter.unusedSimpArgs false

/-- the end of a slice -/
theorem slBack {w : World} {b off n cap : Nat} {cs : List Value} (h : Sl w (.slice (some ⟨b, off, none⟩) n cap) cs) (k : Nat) (hk : k < cs.length) : Sl w (.slice (some ⟨b, off + k, none⟩) (n - k) (cap - k)) (cs.drop k) := by
  obtain ⟨ao', cap', he, hc, hn, hr⟩ := h
  simp only [Value.slice.injEq] at he
  obtain ⟨rfl, rfl, rfl⟩ := he
  have hl : (cs.drop k).length = cs.length - k := by simp
  obtain ⟨b', off', he', hcell⟩ := hr (by omega)
  simp only [Option.some.injEq, Addr.mk.injEq] at he'
  obtain ⟨rfl, rfl, _⟩ := he'
  refine ⟨some ⟨b, off + k, none⟩, cap - k, by rw [hl], by rw [hl]; omega, fun h => (by cases h), fun hp => ⟨b, off + k, rfl, fun j hj => ?_⟩⟩
  rw [Nat.add_assoc, hcell (k + j) (by rw [hl] at hj; omega), List.getElem?_drop]
theorem slForm {w : World} {v : Value} {cs : List Value} (h : Sl w v cs) (hp : 0 < cs.length) : ∃ b off cap, v = .slice (some ⟨b, off, none⟩) cs.length cap ∧ cs.length ≤ cap := by
  obtain ⟨ao, cap, rfl, hc, _, hr⟩ := h
  obtain ⟨b, off, rfl, _⟩ := hr hp
  exact ⟨b, off, cap, rfl, hc⟩
theorem ss_take (l : List ByteArray) (k : Nat) : (ss l).take k = ss (l.take k) := by simp [ss]
theorem ss_drop (l : List ByteArray) (k : Nat) : (ss l).drop k = ss (l.drop k) := by simp [ss]

set_option maxRecDepth 1000000 in
set_option maxHeartbeats 2000000 in
theorem root_any : ∀ (N : Nat) (l : List ByteArray), l.length ≤ N → ∀ (w : World) (v : Value), Sl w v (ss l) → l.length ≤ 1000000 → (∀ s ∈ l, s.size ≤ 10000000000) →
    Calls Try.prog 70 #[v] w fun e w' => e = .returned (.string (root l)) ∧ Below w.heap.size w w' := by
  intro N
  induction N with
  | zero =>
    intro l hN w v h hl hz
    obtain rfl : l = [] := List.eq_nil_of_length_eq_zero (by omega)
    have HN : Hid (root [] = Plain.txt (digest [])) := root_nil
    obtain ⟨ao, cap, rfl, _⟩ := h
    have q := digest_spec (w.alloc (.cells #[] 5)) (.slice (some ⟨w.heap.size, 0, none⟩) 0 0) [] (Own.emptyB w w.heap.size (Nat.le_refl _)).sl (by intro x hx; cases hx) (by simp)
    have hB : Below w.heap.size w (w.alloc (.cells #[] 5)) := (Below.refl _ _).alloc (Nat.le_refl _) _
    rw [ss_len]
    go_enter Try.func70, Try.ntmps70
    go_wp2_with fail
    refine q.mono ?_
    rintro e w1 ⟨rfl, b1⟩
    have hB1 : Below w.heap.size w w1 := hB.trans (b1.mono hB.size)
    go_wp2
    go_ret
    exact ⟨by rw [HN.out]; rfl, hB1⟩
  | succ N ih =>
    intro l hN w v h hl hz
    by_cases h0 : l.length ≤ N
    · exact ih l h0 w v h hl hz
    obtain ⟨b, off, cap, rfl, hcap⟩ := slForm h (by rw [ss_len]; omega)
    rw [ss_len] at h hcap ⊢
    by_cases h1 : l.length = 1
    · obtain ⟨s, rfl⟩ := List.length_eq_one_iff.1 h1
      have HN : Hid (root [s] = leafH s) := root_one s
      have q := leaf_spec w s (by have := hz s (by simp); omega)
      have c0 : w.cell? ⟨b, off, none⟩ = some (.string s) := by
        obtain ⟨ao', c', he, _, _, hr⟩ := h
        simp only [Value.slice.injEq] at he
        obtain ⟨rfl, _, rfl⟩ := he
        obtain ⟨b', off', he', hcell⟩ := hr (by simp [ss])
        simp only [Option.some.injEq, Addr.mk.injEq] at he'
        obtain ⟨rfl, rfl, _⟩ := he'
        have := hcell 0 (by simp [ss])
        simpa [ss] using this
      clear ih h hz hN h0 h1
      go_enter Try.func70, Try.ntmps70
      go_wp2_with fail
      refine q.mono ?_
      rintro e w1 ⟨rfl, b1⟩
      go_wp2
      go_ret
      exact ⟨by rw [HN.out]; rfl, b1⟩
    · have h2 : 2 ≤ l.length := by omega
      have hk := half_ok h2
      have hp := half_pos h2
      have HN : Hid (root l = nodeH (root (l.take (half l.length))) (root (l.drop (half l.length)))) := root_more h2
      have q0 := half_spec w l.length (by omega)
      have z1 := root_size (l.take (half l.length))
      have z2 := root_size (l.drop (half l.length))
      obtain ⟨k, hkk⟩ : ∃ k, half l.length = k := ⟨_, rfl⟩
      rw [hkk] at hk hp HN q0 z1 z2
      obtain ⟨_, hk1, hk2⟩ := hk
      clear hkk
      have s1 : Sl w (.slice (some ⟨b, off, none⟩) k cap) (ss (l.take k)) := by rw [← ss_take]; exact h.front k (by rw [ss_len]; omega)
      have s2 : Sl w (.slice (some ⟨b, off + k, none⟩) (l.length - k) (cap - k)) (ss (l.drop k)) := by rw [← ss_drop]; exact slBack h k (by rw [ss_len]; omega)
      have q1 : ∀ W, Below w.heap.size w W → _ := fun W hW => ih (l.take k) (by rw [List.length_take]; omega) W _ (s1.later hW) (by rw [List.length_take]; omega) (fun s hs => hz s (List.mem_of_mem_take hs))
      have q2 : ∀ W, Below w.heap.size w W → _ := fun W hW => ih (l.drop k) (by rw [List.length_drop]; omega) W _ (s2.later hW) (by rw [List.length_drop]; omega) (fun s hs => hz s (List.mem_of_mem_drop hs))
      obtain ⟨x, hx⟩ : ∃ x, root (l.take k) = x := ⟨_, rfl⟩
      obtain ⟨y, hy⟩ : ∃ x, root (l.drop k) = x := ⟨_, rfl⟩
      rw [hx, hy] at HN
      rw [hx] at z1
      rw [hy] at z2
      simp only [hx] at q1
      simp only [hy] at q2
      have q3 : ∀ W, _ := fun W => node_spec W x y (by omega) (by omega)
      have d0 : ((l.length : Int) == 0) = false := by rw [beq_eq_false_iff_ne]; omega
      have d1 : ((l.length : Int) == 1) = false := by rw [beq_eq_false_iff_ne]; omega
      have v1 : (k : Int) ≤ (l.length : Int) := by omega
      have v2 : (k : Int) ≤ (cap : Int) := by omega
      have v3 : (l.length : Int) ≤ (cap : Int) := by omega
      have vne : ¬ cap = k := by omega
      have hB0 : Below w.heap.size w w := Below.refl _ _
      clear ih h hz hN h0 h1 hx hy s1 s2
      go_enter Try.func70, Try.ntmps70
      go_wp2_with (go_at_call 73; refine q0.mono ?_; rintro e w1 ⟨rfl, hw1⟩; have hw1 := hw1.symm; subst hw1)
      refine wp_region_held_drew (S := fun _ => True) (by kernel_rfl) trivial (fun hHeld => ?_)
      (refine wpAnyH_take (i := 0) (v := ?v0x1) rfl (by kernel_rfl) (by kernel_rfl) (by kernel_rfl) (fun _ _ _ h => h) (Or.inl ⟨by rfl, ?hy0x1⟩) (by assumption) ?rest0x1; case hy0x1 => (intro w hSw; (try dsimp only at hSw); go_split_ands; go_simp; (try with_reducible rfl)))
      try simp only [Act.put, List.setIfInBounds_toArray, List.set_cons_zero, List.set_cons_succ, List.getElem_toArray, List.getElem_cons_zero, List.getElem_cons_succ]
      (refine wpAnyH_take (i := 1) (v := ?v1x2) rfl (by kernel_rfl) (by kernel_rfl) (by kernel_rfl) (fun _ _ _ h => h) (Or.inl ⟨by rfl, ?hy1x2⟩) (by assumption) ?rest1x2; case hy1x2 => (intro w hSw; (try dsimp only at hSw); go_split_ands; go_simp; (try with_reducible rfl)))
      try simp only [Act.put, List.setIfInBounds_toArray, List.set_cons_zero, List.set_cons_succ, List.getElem_toArray, List.getElem_cons_zero, List.getElem_cons_succ]
      (refine wpAnyH_take (i := 2) (v := ?v2x3) rfl (by kernel_rfl) (by kernel_rfl) (by kernel_rfl) (fun _ _ _ h => h) (Or.inl ⟨by rfl, ?hy2x3⟩) (by assumption) ?rest2x3; case hy2x3 => (intro w hSw; (try dsimp only at hSw); go_split_ands; go_simp; (try with_reducible rfl)))
      try simp only [Act.put, List.setIfInBounds_toArray, List.set_cons_zero, List.set_cons_succ, List.getElem_toArray, List.getElem_cons_zero, List.getElem_cons_succ]
      (refine wpAnyH_take (i := 4) (v := ?v4x4) rfl (by kernel_rfl) (by kernel_rfl) (by kernel_rfl) (fun _ _ _ h => h) (Or.inl ⟨by rfl, ?hy4x4⟩) (by assumption) ?rest4x4; case hy4x4 => (intro w hSw; (try dsimp only at hSw); go_split_ands; go_simp; (try with_reducible rfl)))
      try simp only [Act.put, List.setIfInBounds_toArray, List.set_cons_zero, List.set_cons_succ, List.getElem_toArray, List.getElem_cons_zero, List.getElem_cons_succ]
      (refine wpAnyH_take (i := 5) (v := ?v5x5) rfl (by kernel_rfl) (by kernel_rfl) (by kernel_rfl) (fun _ _ _ h => h) (Or.inl ⟨by rfl, ?hy5x5⟩) (by assumption) ?rest5x5; case hy5x5 => (intro w hSw; (try dsimp only at hSw); go_split_ands; go_simp; (try with_reducible rfl)))
      try simp only [Act.put, List.setIfInBounds_toArray, List.set_cons_zero, List.set_cons_succ, List.getElem_toArray, List.getElem_cons_zero, List.getElem_cons_succ]
      (refine wpAnyH_take (i := 6) (v := ?v6x6) rfl (by kernel_rfl) (by kernel_rfl) (by kernel_rfl) (fun _ _ _ h => h) (Or.inl ⟨by rfl, ?hy6x6⟩) (by assumption) ?rest6x6; case hy6x6 => (intro w hSw; (try dsimp only at hSw); go_split_ands; go_simp; (try with_reducible rfl)))
      try simp only [Act.put, List.setIfInBounds_toArray, List.set_cons_zero, List.set_cons_succ, List.getElem_toArray, List.getElem_cons_zero, List.getElem_cons_succ]
      refine wpAnyH_ready (rs := [3]) (by kernel_rfl) (by simp) ?_
      refine AllReadyH.cons rfl (fun K hK => ?_) AllReadyH.nil
      go_simp
      refine (q1 _ (Below.drew hB0)).mono ?_
      rintro e w2 ⟨rfl, b2⟩
      refine hK.out _ _ trivial (fun hHeld => ?_)
      clear hK K
      try simp only [Act.put, List.setIfInBounds_toArray, List.set_cons_zero, List.set_cons_succ, List.getElem_toArray, List.getElem_cons_zero, List.getElem_cons_succ]
      have B2 : Below w.heap.size w w2 := (Below.drew hB0).trans b2
      refine wpAnyH_ready (rs := [7]) (by kernel_rfl) (by simp) ?_
      refine AllReadyH.cons rfl (fun K hK => ?_) AllReadyH.nil
      go_simp
      refine (q2 _ B2).mono ?_
      rintro e w3 ⟨rfl, b3⟩
      refine hK.out _ _ trivial (fun hHeld => ?_)
      clear hK K
      try simp only [Act.put, List.setIfInBounds_toArray, List.set_cons_zero, List.set_cons_succ, List.getElem_toArray, List.getElem_cons_zero, List.getElem_cons_succ]
      have B3 : Below w.heap.size w w3 := B2.trans (b3.mono B2.size)
      refine wpAnyH_ready (rs := [8]) (by kernel_rfl) (by simp) ?_
      refine AllReadyH.cons rfl (fun K hK => ?_) AllReadyH.nil
      go_simp
      refine (q3 _).mono ?_
      rintro e w4 ⟨rfl, b4⟩
      refine hK.out _ _ trivial (fun hHeld => ?_)
      clear hK K
      try simp only [Act.put, List.setIfInBounds_toArray, List.set_cons_zero, List.set_cons_succ, List.getElem_toArray, List.getElem_cons_zero, List.getElem_cons_succ]
      have B4 : Below w.heap.size w w4 := B3.trans (b4.mono B3.size)
      (refine wpAnyH_take (i := 9) (v := ?v9x7) rfl (by kernel_rfl) (by kernel_rfl) (by kernel_rfl) (fun _ _ _ h => h) (Or.inl ⟨by rfl, ?hy9x7⟩) (by assumption) ?rest9x7; case hy9x7 => (intro w hSw; (try dsimp only at hSw); go_split_ands; go_simp; (try with_reducible rfl)))
      try simp only [Act.put, List.setIfInBounds_toArray, List.set_cons_zero, List.set_cons_succ, List.getElem_toArray, List.getElem_cons_zero, List.getElem_cons_succ]
      refine wpAnyH_done (by kernel_rfl) ?_ _
      clear hHeld
      go_wp2
      go_ret
      exact ⟨by rw [HN.out]; rfl, B4⟩

end Go.Proofs.Yteemblfjghnooaa.Tr
