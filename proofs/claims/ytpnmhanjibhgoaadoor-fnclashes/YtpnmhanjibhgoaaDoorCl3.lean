/- Chapter 8, the specification's side: two unlike texts of two lists. -/
import Derived.Test.YtpnmhanjibhgoaaDoorCl2
import Derived.Deep.RegionHeld3
namespace Go.Proofs.YtpnmhanjibhgoaaDoor.Cl
open Go.RowKit Go.Proofs.YtpnmhanjibhgoaaDoor.Mem Go.Proofs.YtpnmhanjibhgoaaDoor.Laws Go.Proofs.YtpnmhanjibhgoaaDoor.Bytes Go.Proofs.YtpnmhanjibhgoaaDoor.Sha Go.Proofs.YtpnmhanjibhgoaaDoor.Tr
set_option linter.unusedVariables false
set_option linter.unusedSimpArgs false

theorem keepB {W W' : World} {p : Addr} {x : Value} (h : W.cell? p = some x) (b : Below W.heap.size W W') : W'.cell? p = some x := by
  rw [b.cell (World.block_lt_of_cell? W p h)]; exact h
theorem slOne {w : World} {v : Value} {s : ByteArray} (h : Sl w v (ss [s])) : ∃ b off cap, v = .slice (some ⟨b, off, none⟩) 1 cap ∧ w.cell? ⟨b, off, none⟩ = some (.string s) := by
  obtain ⟨ao', c', rfl, _, _, hr⟩ := h
  obtain ⟨b', off', rfl, hcell⟩ := hr (by simp [ss])
  have := hcell 0 (by simp [ss])
  exact ⟨b', off', c', rfl, by simpa [ss] using this⟩
theorem slCut {w : World} {v : Value} {l : List ByteArray} (h : Sl w v (ss l)) (k : Nat) (h1 : 1 ≤ k) (h2 : k < l.length) : ∃ b off cap, v = .slice (some ⟨b, off, none⟩) l.length cap ∧ l.length ≤ cap ∧
    Sl w (.slice (some ⟨b, off, none⟩) k cap) (ss (l.take k)) ∧ Sl w (.slice (some ⟨b, off + k, none⟩) (l.length - k) (cap - k)) (ss (l.drop k)) := by
  obtain ⟨b, off, cap, rfl, hcap⟩ := slForm h (by rw [ss_len]; omega)
  rw [ss_len] at h hcap ⊢
  exact ⟨b, off, cap, rfl, hcap, by rw [← ss_take]; exact h.front k (by rw [ss_len]; omega), by rw [← ss_drop]; exact slBack h k (by rw [ss_len]; omega)⟩
theorem clash_one (s t : ByteArray) : clash [s] [t] = (leafT s, leafT t) := by rw [clash_if]; simp
theorem clash_part {l m : List ByteArray} (h : 2 ≤ l.length) (hr : ¬ (root (l.take (half l.length)) = root (m.take (half l.length)) ∧ root (l.drop (half l.length)) = root (m.drop (half l.length)))) :
    clash l m = (nodeT (root (l.take (half l.length))) (root (l.drop (half l.length))), nodeT (root (m.take (half l.length))) (root (m.drop (half l.length)))) := by rw [clash_if, if_pos h, if_neg hr]
theorem clash_rest {l m : List ByteArray} (h : 2 ≤ l.length) (hr : root (l.take (half l.length)) = root (m.take (half l.length)) ∧ root (l.drop (half l.length)) = root (m.drop (half l.length))) (hs : l.take (half l.length) = m.take (half l.length)) :
    clash l m = clash (l.drop (half l.length)) (m.drop (half l.length)) := by rw [clash_if, if_pos h, if_pos hr, if_pos hs]
theorem clash_first {l m : List ByteArray} (h : 2 ≤ l.length) (hr : root (l.take (half l.length)) = root (m.take (half l.length)) ∧ root (l.drop (half l.length)) = root (m.drop (half l.length))) (hs : l.take (half l.length) ≠ m.take (half l.length)) :
    clash l m = clash (l.take (half l.length)) (m.take (half l.length)) := by rw [clash_if, if_pos h, if_pos hr, if_neg hs]

set_option maxRecDepth 1000000 in
set_option maxHeartbeats 8000000 in
theorem clash1_spec : ∀ (N : Nat) (l m : List ByteArray), l.length ≤ N → 1 ≤ l.length → l.length = m.length → ∀ (w : World) (v v' : Value), Sl w v (ss l) → Sl w v' (ss m) → l.length ≤ 1000000 → (∀ s ∈ l, s.size ≤ 10000000000) → (∀ s ∈ m, s.size ≤ 10000000000) →
    Calls Tryd.prog 35 #[v, v'] w fun e w' => e = .returned (.tuple #[.string (clash l m).1, .string (clash l m).2]) ∧ Below w.heap.size w w' := by
  intro N
  induction N with
  | zero => intro l m hN h1; omega
  | succ N ih =>
    intro l m hN hp hlm w v v' g1 g2 hl hz1 hz2
    by_cases h1 : l.length = 1
    · obtain ⟨s, rfl⟩ := List.length_eq_one_iff.1 h1
      obtain ⟨t, rfl⟩ := List.length_eq_one_iff.1 (show m.length = 1 by omega)
      obtain ⟨b1, o1, c1, rfl, e1⟩ := slOne g1
      obtain ⟨b2, o2, c2, rfl, e2⟩ := slOne g2
      have q1 : ∀ W, _ := fun W => leafT_spec W s (by have := hz1 s (by simp); omega)
      have q2 : ∀ W, _ := fun W => leafT_spec W t (by have := hz2 t (by simp); omega)
      have HN : Hid (clash [s] [t] = (leafT s, leafT t)) := clash_one s t
      obtain ⟨x, hx⟩ : ∃ x, leafT s = x := ⟨_, rfl⟩
      obtain ⟨y, hy⟩ : ∃ x, leafT t = x := ⟨_, rfl⟩
      simp only [hx] at q1 HN
      simp only [hy] at q2 HN
      have B0 : Below w.heap.size w w := Below.refl _ _
      clear ih hz1 hz2 hN hx hy g1 g2 hlm h1 hp
      go_enter Tryd.func35, Tryd.ntmps35
      go_wp2_with fail
      refine wp_region_held_drew (S := fun w' => w'.cell? ⟨b1, o1, none⟩ = some (.string s) ∧ w'.cell? ⟨b2, o2, none⟩ = some (.string t)) (by kernel_rfl) ⟨e1, e2⟩ (fun hHeld => ?_)
      (refine wpAnyH_take (i := 0) (v := ?v0x1) rfl (by kernel_rfl) (by kernel_rfl) (by kernel_rfl) (fun _ _ _ h => h) (Or.inl ⟨by rfl, ?hy0x1⟩) (by assumption) ?rest0x1; case hy0x1 => (intro w hSw; (try dsimp only at hSw); go_split_ands; go_simp; (try with_reducible rfl)))
      try simp only [Act.put, List.setIfInBounds_toArray, List.set_cons_zero, List.set_cons_succ, List.getElem_toArray, List.getElem_cons_zero, List.getElem_cons_succ]
      (refine wpAnyH_take (i := 1) (v := ?v1x2) rfl (by kernel_rfl) (by kernel_rfl) (by kernel_rfl) (fun _ _ _ h => h) (Or.inl ⟨by rfl, ?hy1x2⟩) (by assumption) ?rest1x2; case hy1x2 => (intro w hSw; (try dsimp only at hSw); go_split_ands; go_simp; (try with_reducible rfl)))
      try simp only [Act.put, List.setIfInBounds_toArray, List.set_cons_zero, List.set_cons_succ, List.getElem_toArray, List.getElem_cons_zero, List.getElem_cons_succ]
      (refine wpAnyH_take (i := 2) (v := ?v2x3) rfl (by kernel_rfl) (by kernel_rfl) (by kernel_rfl) (fun _ _ _ h => h) (Or.inl ⟨by rfl, ?hy2x3⟩) (by assumption) ?rest2x3; case hy2x3 => (intro w hSw; (try dsimp only at hSw); go_split_ands; go_simp; (try with_reducible rfl)))
      try simp only [Act.put, List.setIfInBounds_toArray, List.set_cons_zero, List.set_cons_succ, List.getElem_toArray, List.getElem_cons_zero, List.getElem_cons_succ]
      (refine wpAnyH_take (i := 4) (v := ?v4x4) rfl (by kernel_rfl) (by kernel_rfl) (by kernel_rfl) (fun _ _ _ h => h) (Or.inl ⟨by rfl, ?hy4x4⟩) (by assumption) ?rest4x4; case hy4x4 => (intro w hSw; (try dsimp only at hSw); go_split_ands; go_simp; (try with_reducible rfl)))
      try simp only [Act.put, List.setIfInBounds_toArray, List.set_cons_zero, List.set_cons_succ, List.getElem_toArray, List.getElem_cons_zero, List.getElem_cons_succ]
      (refine wpAnyH_take (i := 5) (v := ?v5x5) rfl (by kernel_rfl) (by kernel_rfl) (by kernel_rfl) (fun _ _ _ h => h) (Or.inl ⟨by rfl, ?hy5x5⟩) (by assumption) ?rest5x5; case hy5x5 => (intro w hSw; (try dsimp only at hSw); go_split_ands; go_simp; (try with_reducible rfl)))
      try simp only [Act.put, List.setIfInBounds_toArray, List.set_cons_zero, List.set_cons_succ, List.getElem_toArray, List.getElem_cons_zero, List.getElem_cons_succ]
      (refine wpAnyH_take (i := 6) (v := ?v6x6) rfl (by kernel_rfl) (by kernel_rfl) (by kernel_rfl) (fun _ _ _ h => h) (Or.inl ⟨by rfl, ?hy6x6⟩) (by assumption) ?rest6x6; case hy6x6 => (intro w hSw; (try dsimp only at hSw); go_split_ands; go_simp; (try with_reducible rfl)))
      try simp only [Act.put, List.setIfInBounds_toArray, List.set_cons_zero, List.set_cons_succ, List.getElem_toArray, List.getElem_cons_zero, List.getElem_cons_succ]
      refine wpAnyH_ready (rs := [3]) (by kernel_rfl) (by simp) ?_
      refine AllReadyH.cons rfl (fun K hK => ?_) AllReadyH.nil
      go_simp
      refine (q1 _).mono ?_
      rintro e w1 ⟨rfl, d1⟩
      refine hK.out _ _ ⟨keepB hHeld.1 d1, keepB hHeld.2 d1⟩ (fun hHeld => ?_)
      clear hK K
      try simp only [Act.put, List.setIfInBounds_toArray, List.set_cons_zero, List.set_cons_succ, List.getElem_toArray, List.getElem_cons_zero, List.getElem_cons_succ]
      have B1 : Below w.heap.size w w1 := (Below.drew B0).trans d1
      refine wpAnyH_ready (rs := [7]) (by kernel_rfl) (by simp) ?_
      refine AllReadyH.cons rfl (fun K hK => ?_) AllReadyH.nil
      go_simp
      refine (q2 _).mono ?_
      rintro e w2 ⟨rfl, d2⟩
      refine hK.out _ _ ⟨keepB hHeld.1 d2, keepB hHeld.2 d2⟩ (fun hHeld => ?_)
      clear hK K
      try simp only [Act.put, List.setIfInBounds_toArray, List.set_cons_zero, List.set_cons_succ, List.getElem_toArray, List.getElem_cons_zero, List.getElem_cons_succ]
      have B2 : Below w.heap.size w w2 := B1.trans (d2.mono B1.size)
      (refine wpAnyH_take (i := 8) (v := ?v8x7) rfl (by kernel_rfl) (by kernel_rfl) (by kernel_rfl) (fun _ _ _ h => h) (Or.inl ⟨by rfl, ?hy8x7⟩) (by assumption) ?rest8x7; case hy8x7 => (intro w hSw; (try dsimp only at hSw); go_split_ands; go_simp; (try with_reducible rfl)))
      try simp only [Act.put, List.setIfInBounds_toArray, List.set_cons_zero, List.set_cons_succ, List.getElem_toArray, List.getElem_cons_zero, List.getElem_cons_succ]
      (refine wpAnyH_take (i := 9) (v := ?v9x8) rfl (by kernel_rfl) (by kernel_rfl) (by kernel_rfl) (fun _ _ _ h => h) (Or.inl ⟨by rfl, ?hy9x8⟩) (by assumption) ?rest9x8; case hy9x8 => (intro w hSw; (try dsimp only at hSw); go_split_ands; go_simp; (try with_reducible rfl)))
      try simp only [Act.put, List.setIfInBounds_toArray, List.set_cons_zero, List.set_cons_succ, List.getElem_toArray, List.getElem_cons_zero, List.getElem_cons_succ]
      refine wpAnyH_done (by kernel_rfl) ?_ _
      clear hHeld
      go_wp2
      go_ret2
      exact ⟨by rw [HN.out]; rfl, B2⟩
    · have h2 : 2 ≤ l.length := by omega
      have hk1 := (half_ok h2).2.1
      have hk0 := half_pos h2
      have q0 := half_spec w l.length (by omega)
      have hm2 : half l.length < m.length := by omega
      obtain ⟨b1, o1, c1, rfl, hc1, s1, s2⟩ := slCut g1 (half l.length) hk0 hk1
      obtain ⟨b2, o2, c2, rfl, hc2, s3, s4⟩ := slCut g2 (half l.length) hk0 hm2
      have HP := @clash_part l m h2
      have HR := @clash_rest l m h2
      have HF := @clash_first l m h2
      have z1 := root_size (l.take (half l.length))
      have z2 := root_size (l.drop (half l.length))
      have z3 := root_size (m.take (half l.length))
      have z4 := root_size (m.drop (half l.length))
      obtain ⟨k, hkk⟩ : ∃ k, half l.length = k := ⟨_, rfl⟩
      rw [hkk] at q0 hk0 hk1 hm2 s1 s2 s3 s4 HP HR HF z1 z2 z3 z4
      clear hkk
      have lt : (l.take k).length = (m.take k).length := by rw [List.length_take, List.length_take, hlm]
      have ld : (l.drop k).length = (m.drop k).length := by rw [List.length_drop, List.length_drop, hlm]
      have r1 : ∀ W, Below w.heap.size w W → _ := fun W hW => root_any l.length (l.take k) (by rw [List.length_take]; omega) W _ (s1.later hW) (by rw [List.length_take]; omega) (fun s hs => hz1 s (List.mem_of_mem_take hs))
      have r2 : ∀ W, Below w.heap.size w W → _ := fun W hW => root_any l.length (l.drop k) (by rw [List.length_drop]; omega) W _ (s2.later hW) (by rw [List.length_drop]; omega) (fun s hs => hz1 s (List.mem_of_mem_drop hs))
      have r3 : ∀ W, Below w.heap.size w W → _ := fun W hW => root_any l.length (m.take k) (by rw [List.length_take]; omega) W _ (s3.later hW) (by rw [List.length_take]; omega) (fun s hs => hz2 s (List.mem_of_mem_take hs))
      have r4 : ∀ W, Below w.heap.size w W → _ := fun W hW => root_any l.length (m.drop k) (by rw [List.length_drop]; omega) W _ (s4.later hW) (by rw [List.length_drop]; omega) (fun s hs => hz2 s (List.mem_of_mem_drop hs))
      have p1 : ∀ W, Below w.heap.size w W → _ := fun W hW => ih (l.take k) (m.take k) (by rw [List.length_take]; omega) (by rw [List.length_take]; omega) lt W _ _ (s1.later hW) (s3.later hW) (by rw [List.length_take]; omega) (fun s hs => hz1 s (List.mem_of_mem_take hs)) (fun s hs => hz2 s (List.mem_of_mem_take hs))
      have p2 : ∀ W, Below w.heap.size w W → _ := fun W hW => ih (l.drop k) (m.drop k) (by rw [List.length_drop]; omega) (by rw [List.length_drop]; omega) ld W _ _ (s2.later hW) (s4.later hW) (by rw [List.length_drop]; omega) (fun s hs => hz1 s (List.mem_of_mem_drop hs)) (fun s hs => hz2 s (List.mem_of_mem_drop hs))
      have p0 : ∀ W (t : Bool), Below w.heap.size w W → (t = true ↔ l.take k = m.take k) → _ := fun W t hW ht => same_spec W _ _ (l.take k) (m.take k) t ht (s1.later hW) (s3.later hW) (by rw [List.length_take]; omega) (by rw [List.length_take]; omega)
      obtain ⟨x, hx⟩ : ∃ x, root (l.take k) = x := ⟨_, rfl⟩
      obtain ⟨y, hy⟩ : ∃ x, root (l.drop k) = x := ⟨_, rfl⟩
      obtain ⟨x', hx'⟩ : ∃ x, root (m.take k) = x := ⟨_, rfl⟩
      obtain ⟨y', hy'⟩ : ∃ x, root (m.drop k) = x := ⟨_, rfl⟩
      simp only [hx, hy, hx', hy'] at r1 r2 r3 r4 HP HR HF z1 z2 z3 z4
      obtain ⟨C, hC⟩ : ∃ C, clash l m = C := ⟨_, rfl⟩
      simp only [hC] at HP HR HF ⊢
      obtain ⟨C1, hC1⟩ : ∃ C, clash (l.take k) (m.take k) = C := ⟨_, rfl⟩
      obtain ⟨C2, hC2⟩ : ∃ C, clash (l.drop k) (m.drop k) = C := ⟨_, rfl⟩
      simp only [hC1] at p1 HF
      simp only [hC2] at p2 HR
      obtain ⟨C1a, C1b⟩ := C1
      obtain ⟨C2a, C2b⟩ := C2
      have n1 : ∀ W, _ := fun W => nodeT_spec W x y (by omega) (by omega)
      have n2 : ∀ W, _ := fun W => nodeT_spec W x' y' (by omega) (by omega)
      obtain ⟨N1, hN1⟩ : ∃ x', nodeT x y = x' := ⟨_, rfl⟩
      obtain ⟨N2, hN2⟩ : ∃ z, nodeT x' y' = z := ⟨_, rfl⟩
      simp only [hN1] at n1 HP
      simp only [hN2] at n2 HP
      have HT : Hid ((l.take k = m.take k) ∨ ¬ (l.take k = m.take k)) := Decidable.em _
      have HP : Hid _ := HP
      have HR : Hid _ := HR
      have HF : Hid _ := HF
      have d1 : ((l.length : Int) == 1) = false := by rw [beq_eq_false_iff_ne]; omega
      have v1 : (k : Int) ≤ (l.length : Int) := by omega
      have v2 : (k : Int) ≤ (c1 : Int) := by omega
      have v3 : (l.length : Int) ≤ (c1 : Int) := by omega
      have v4 : ¬ c1 = k := by omega
      have u1 : (k : Int) ≤ (m.length : Int) := by omega
      have u2 : (k : Int) ≤ (c2 : Int) := by omega
      have u3 : (m.length : Int) ≤ (c2 : Int) := by omega
      have u4 : ¬ c2 = k := by omega
      have B0 : Below w.heap.size w w := Below.refl _ _
      clear ih g1 g2 hz1 hz2 hN h1 hx hy hx' hy' hC hC1 hC2 hN1 hN2 s1 s2 s3 s4 lt ld hlm z1 z2 z3 z4
      go_enter Tryd.func35, Tryd.ntmps35
      go_wp2_with fail
      refine q0.mono ?_
      rintro e w1 ⟨rfl, hw1⟩
      have hw1 := hw1.symm
      subst hw1
      go_wp2_with fail
      refine (r1 _ B0).mono ?_
      rintro e W1 ⟨rfl, e1⟩
      have B1 : Below w.heap.size w W1 := e1
      go_wp2_with fail
      refine (r2 _ B1).mono ?_
      rintro e W2 ⟨rfl, e2⟩
      have B2 : Below w.heap.size w W2 := B1.trans (e2.mono B1.size)
      go_wp2_with fail
      refine (r3 _ B2).mono ?_
      rintro e W3 ⟨rfl, e3⟩
      have B3 : Below w.heap.size w W3 := B2.trans (e3.mono B2.size)
      go_wp2_with fail
      refine (r4 _ B3).mono ?_
      rintro e W4 ⟨rfl, e4⟩
      have B4 : Below w.heap.size w W4 := B3.trans (e4.mono B3.size)
      clear r1 r2 r3 r4 e1 e2 e3 e4 B1 B2 B3 B0 q0
      by_cases hxx : x = x'
      · have dx := beq_yes hxx
        by_cases hyy : y = y'
        · have dy := beq_yes hyy
          rcases HT.out with hs | hs
          · have HN : Hid (C = (C2a, C2b)) := HR.out ⟨hxx, hyy⟩ hs
            have p0 := p0 W4.drew true (Below.drew B4) ⟨fun _ => hs, fun _ => rfl⟩
            clear HP HR HF HT hs p1 n1 n2 hxx hyy
            go_wp2_with fail
            refine wp_region_held_drew (S := fun _ => True) (by kernel_rfl) trivial (fun hHeld => ?_)
            (refine wpAnyH_take (i := 0) (v := ?v0x9) rfl (by kernel_rfl) (by kernel_rfl) (by kernel_rfl) (fun _ _ _ h => h) (Or.inl ⟨by rfl, ?hy0x9⟩) (by assumption) ?rest0x9; case hy0x9 => (intro w hSw; (try dsimp only at hSw); go_split_ands; go_simp; (try with_reducible rfl)))
            try simp only [Act.put, List.setIfInBounds_toArray, List.set_cons_zero, List.set_cons_succ, List.getElem_toArray, List.getElem_cons_zero, List.getElem_cons_succ]
            (refine wpAnyH_take (i := 1) (v := ?v1x10) rfl (by kernel_rfl) (by kernel_rfl) (by kernel_rfl) (fun _ _ _ h => h) (Or.inl ⟨by rfl, ?hy1x10⟩) (by assumption) ?rest1x10; case hy1x10 => (intro w hSw; (try dsimp only at hSw); go_split_ands; go_simp; (try with_reducible rfl)))
            try simp only [Act.put, List.setIfInBounds_toArray, List.set_cons_zero, List.set_cons_succ, List.getElem_toArray, List.getElem_cons_zero, List.getElem_cons_succ]
            (refine wpAnyH_take (i := 2) (v := ?v2x11) rfl (by kernel_rfl) (by kernel_rfl) (by kernel_rfl) (fun _ _ _ h => h) (Or.inl ⟨by rfl, ?hy2x11⟩) (by assumption) ?rest2x11; case hy2x11 => (intro w hSw; (try dsimp only at hSw); go_split_ands; go_simp; (try with_reducible rfl)))
            try simp only [Act.put, List.setIfInBounds_toArray, List.set_cons_zero, List.set_cons_succ, List.getElem_toArray, List.getElem_cons_zero, List.getElem_cons_succ]
            (refine wpAnyH_take (i := 3) (v := ?v3x12) rfl (by kernel_rfl) (by kernel_rfl) (by kernel_rfl) (fun _ _ _ h => h) (Or.inl ⟨by rfl, ?hy3x12⟩) (by assumption) ?rest3x12; case hy3x12 => (intro w hSw; (try dsimp only at hSw); go_split_ands; go_simp; (try with_reducible rfl)))
            try simp only [Act.put, List.setIfInBounds_toArray, List.set_cons_zero, List.set_cons_succ, List.getElem_toArray, List.getElem_cons_zero, List.getElem_cons_succ]
            (refine wpAnyH_take (i := 4) (v := ?v4x13) rfl (by kernel_rfl) (by kernel_rfl) (by kernel_rfl) (fun _ _ _ h => h) (Or.inl ⟨by rfl, ?hy4x13⟩) (by assumption) ?rest4x13; case hy4x13 => (intro w hSw; (try dsimp only at hSw); go_split_ands; go_simp; (try with_reducible rfl)))
            try simp only [Act.put, List.setIfInBounds_toArray, List.set_cons_zero, List.set_cons_succ, List.getElem_toArray, List.getElem_cons_zero, List.getElem_cons_succ]
            (refine wpAnyH_take (i := 5) (v := ?v5x14) rfl (by kernel_rfl) (by kernel_rfl) (by kernel_rfl) (fun _ _ _ h => h) (Or.inl ⟨by rfl, ?hy5x14⟩) (by assumption) ?rest5x14; case hy5x14 => (intro w hSw; (try dsimp only at hSw); go_split_ands; go_simp; (try with_reducible rfl)))
            try simp only [Act.put, List.setIfInBounds_toArray, List.set_cons_zero, List.set_cons_succ, List.getElem_toArray, List.getElem_cons_zero, List.getElem_cons_succ]
            refine wpAnyH_ready (rs := [6]) (by kernel_rfl) (by simp) ?_
            refine AllReadyH.cons rfl (fun K hK => ?_) AllReadyH.nil
            go_simp
            refine (p0).mono ?_
            rintro e W5 ⟨rfl, e5, _⟩
            refine hK.out _ _ trivial (fun hHeld => ?_)
            clear hK K
            try simp only [Act.put, List.setIfInBounds_toArray, List.set_cons_zero, List.set_cons_succ, List.getElem_toArray, List.getElem_cons_zero, List.getElem_cons_succ]
            (refine wpAnyH_take (i := 7) (v := ?v7x15) rfl (by kernel_rfl) (by kernel_rfl) (by kernel_rfl) (fun _ _ _ h => h) (Or.inl ⟨by rfl, ?hy7x15⟩) (by assumption) ?rest7x15; case hy7x15 => (intro w hSw; (try dsimp only at hSw); go_split_ands; go_simp; (try with_reducible rfl)))
            try simp only [Act.put, List.setIfInBounds_toArray, List.set_cons_zero, List.set_cons_succ, List.getElem_toArray, List.getElem_cons_zero, List.getElem_cons_succ]
            (refine wpAnyH_take (i := 8) (v := ?v8x16) rfl (by kernel_rfl) (by kernel_rfl) (by kernel_rfl) (fun _ _ _ h => h) (Or.inl ⟨by rfl, ?hy8x16⟩) (by assumption) ?rest8x16; case hy8x16 => (intro w hSw; (try dsimp only at hSw); go_split_ands; go_simp; (try with_reducible rfl)))
            try simp only [Act.put, List.setIfInBounds_toArray, List.set_cons_zero, List.set_cons_succ, List.getElem_toArray, List.getElem_cons_zero, List.getElem_cons_succ]
            refine wpAnyH_done (by kernel_rfl) ?_ _
            clear hHeld
            have B5 : Below w.heap.size w W5 := (Below.drew B4).trans (e5 _)
            have p2 := p2 W5.drew (Below.drew B5)
            clear B4 e5 p0
            go_wp2_with fail
            refine wp_region_held_drew (S := fun _ => True) (by kernel_rfl) trivial (fun hHeld => ?_)
            (refine wpAnyH_take (i := 0) (v := ?v0x17) rfl (by kernel_rfl) (by kernel_rfl) (by kernel_rfl) (fun _ _ _ h => h) (Or.inl ⟨by rfl, ?hy0x17⟩) (by assumption) ?rest0x17; case hy0x17 => (intro w hSw; (try dsimp only at hSw); go_split_ands; go_simp; (try with_reducible rfl)))
            try simp only [Act.put, List.setIfInBounds_toArray, List.set_cons_zero, List.set_cons_succ, List.getElem_toArray, List.getElem_cons_zero, List.getElem_cons_succ]
            (refine wpAnyH_take (i := 1) (v := ?v1x18) rfl (by kernel_rfl) (by kernel_rfl) (by kernel_rfl) (fun _ _ _ h => h) (Or.inl ⟨by rfl, ?hy1x18⟩) (by assumption) ?rest1x18; case hy1x18 => (intro w hSw; (try dsimp only at hSw); go_split_ands; go_simp; (try with_reducible rfl)))
            try simp only [Act.put, List.setIfInBounds_toArray, List.set_cons_zero, List.set_cons_succ, List.getElem_toArray, List.getElem_cons_zero, List.getElem_cons_succ]
            (refine wpAnyH_take (i := 2) (v := ?v2x19) rfl (by kernel_rfl) (by kernel_rfl) (by kernel_rfl) (fun _ _ _ h => h) (Or.inl ⟨by rfl, ?hy2x19⟩) (by assumption) ?rest2x19; case hy2x19 => (intro w hSw; (try dsimp only at hSw); go_split_ands; go_simp; (try with_reducible rfl)))
            try simp only [Act.put, List.setIfInBounds_toArray, List.set_cons_zero, List.set_cons_succ, List.getElem_toArray, List.getElem_cons_zero, List.getElem_cons_succ]
            (refine wpAnyH_take (i := 3) (v := ?v3x20) rfl (by kernel_rfl) (by kernel_rfl) (by kernel_rfl) (fun _ _ _ h => h) (Or.inl ⟨by rfl, ?hy3x20⟩) (by assumption) ?rest3x20; case hy3x20 => (intro w hSw; (try dsimp only at hSw); go_split_ands; go_simp; (try with_reducible rfl)))
            try simp only [Act.put, List.setIfInBounds_toArray, List.set_cons_zero, List.set_cons_succ, List.getElem_toArray, List.getElem_cons_zero, List.getElem_cons_succ]
            (refine wpAnyH_take (i := 4) (v := ?v4x21) rfl (by kernel_rfl) (by kernel_rfl) (by kernel_rfl) (fun _ _ _ h => h) (Or.inl ⟨by rfl, ?hy4x21⟩) (by assumption) ?rest4x21; case hy4x21 => (intro w hSw; (try dsimp only at hSw); go_split_ands; go_simp; (try with_reducible rfl)))
            try simp only [Act.put, List.setIfInBounds_toArray, List.set_cons_zero, List.set_cons_succ, List.getElem_toArray, List.getElem_cons_zero, List.getElem_cons_succ]
            (refine wpAnyH_take (i := 5) (v := ?v5x22) rfl (by kernel_rfl) (by kernel_rfl) (by kernel_rfl) (fun _ _ _ h => h) (Or.inl ⟨by rfl, ?hy5x22⟩) (by assumption) ?rest5x22; case hy5x22 => (intro w hSw; (try dsimp only at hSw); go_split_ands; go_simp; (try with_reducible rfl)))
            try simp only [Act.put, List.setIfInBounds_toArray, List.set_cons_zero, List.set_cons_succ, List.getElem_toArray, List.getElem_cons_zero, List.getElem_cons_succ]
            refine wpAnyH_ready (rs := [6]) (by kernel_rfl) (by simp) ?_
            refine AllReadyH.cons rfl (fun K hK => ?_) AllReadyH.nil
            go_simp
            refine (p2).mono ?_
            rintro e W6 ⟨rfl, e6⟩
            refine hK.out _ _ trivial (fun hHeld => ?_)
            clear hK K
            try simp only [Act.put, List.setIfInBounds_toArray, List.set_cons_zero, List.set_cons_succ, List.getElem_toArray, List.getElem_cons_zero, List.getElem_cons_succ]
            (refine wpAnyH_take (i := 7) (v := ?v7x23) rfl (by kernel_rfl) (by kernel_rfl) (by kernel_rfl) (fun _ _ _ h => h) (Or.inl ⟨by rfl, ?hy7x23⟩) (by assumption) ?rest7x23; case hy7x23 => (intro w hSw; (try dsimp only at hSw); go_split_ands; go_simp; (try with_reducible rfl)))
            try simp only [Act.put, List.setIfInBounds_toArray, List.set_cons_zero, List.set_cons_succ, List.getElem_toArray, List.getElem_cons_zero, List.getElem_cons_succ]
            (refine wpAnyH_take (i := 8) (v := ?v8x24) rfl (by kernel_rfl) (by kernel_rfl) (by kernel_rfl) (fun _ _ _ h => h) (Or.inl ⟨by rfl, ?hy8x24⟩) (by assumption) ?rest8x24; case hy8x24 => (intro w hSw; (try dsimp only at hSw); go_split_ands; go_simp; (try with_reducible rfl)))
            try simp only [Act.put, List.setIfInBounds_toArray, List.set_cons_zero, List.set_cons_succ, List.getElem_toArray, List.getElem_cons_zero, List.getElem_cons_succ]
            (refine wpAnyH_take (i := 9) (v := ?v9x25) rfl (by kernel_rfl) (by kernel_rfl) (by kernel_rfl) (fun _ _ _ h => h) (Or.inl ⟨by rfl, ?hy9x25⟩) (by assumption) ?rest9x25; case hy9x25 => (intro w hSw; (try dsimp only at hSw); go_split_ands; go_simp; (try with_reducible rfl)))
            try simp only [Act.put, List.setIfInBounds_toArray, List.set_cons_zero, List.set_cons_succ, List.getElem_toArray, List.getElem_cons_zero, List.getElem_cons_succ]
            (refine wpAnyH_take (i := 10) (v := ?v10x26) rfl (by kernel_rfl) (by kernel_rfl) (by kernel_rfl) (fun _ _ _ h => h) (Or.inl ⟨by rfl, ?hy10x26⟩) (by assumption) ?rest10x26; case hy10x26 => (intro w hSw; (try dsimp only at hSw); go_split_ands; go_simp; (try with_reducible rfl)))
            try simp only [Act.put, List.setIfInBounds_toArray, List.set_cons_zero, List.set_cons_succ, List.getElem_toArray, List.getElem_cons_zero, List.getElem_cons_succ]
            refine wpAnyH_done (by kernel_rfl) ?_ _
            clear hHeld
            have B6 : Below w.heap.size w W6 := (Below.drew B5).trans (e6.mono B5.size)
            go_wp2
            go_ret2
            exact ⟨by rw [HN.out]; rfl, B6⟩
          · have HN : Hid (C = (C1a, C1b)) := HF.out ⟨hxx, hyy⟩ hs
            have p0 := p0 W4.drew false (Below.drew B4) ⟨fun h => (by cases h), fun h => absurd h hs⟩
            clear HP HR HF HT hs p2 n1 n2 hxx hyy
            go_wp2_with fail
            refine wp_region_held_drew (S := fun _ => True) (by kernel_rfl) trivial (fun hHeld => ?_)
            (refine wpAnyH_take (i := 0) (v := ?v0x27) rfl (by kernel_rfl) (by kernel_rfl) (by kernel_rfl) (fun _ _ _ h => h) (Or.inl ⟨by rfl, ?hy0x27⟩) (by assumption) ?rest0x27; case hy0x27 => (intro w hSw; (try dsimp only at hSw); go_split_ands; go_simp; (try with_reducible rfl)))
            try simp only [Act.put, List.setIfInBounds_toArray, List.set_cons_zero, List.set_cons_succ, List.getElem_toArray, List.getElem_cons_zero, List.getElem_cons_succ]
            (refine wpAnyH_take (i := 1) (v := ?v1x28) rfl (by kernel_rfl) (by kernel_rfl) (by kernel_rfl) (fun _ _ _ h => h) (Or.inl ⟨by rfl, ?hy1x28⟩) (by assumption) ?rest1x28; case hy1x28 => (intro w hSw; (try dsimp only at hSw); go_split_ands; go_simp; (try with_reducible rfl)))
            try simp only [Act.put, List.setIfInBounds_toArray, List.set_cons_zero, List.set_cons_succ, List.getElem_toArray, List.getElem_cons_zero, List.getElem_cons_succ]
            (refine wpAnyH_take (i := 2) (v := ?v2x29) rfl (by kernel_rfl) (by kernel_rfl) (by kernel_rfl) (fun _ _ _ h => h) (Or.inl ⟨by rfl, ?hy2x29⟩) (by assumption) ?rest2x29; case hy2x29 => (intro w hSw; (try dsimp only at hSw); go_split_ands; go_simp; (try with_reducible rfl)))
            try simp only [Act.put, List.setIfInBounds_toArray, List.set_cons_zero, List.set_cons_succ, List.getElem_toArray, List.getElem_cons_zero, List.getElem_cons_succ]
            (refine wpAnyH_take (i := 3) (v := ?v3x30) rfl (by kernel_rfl) (by kernel_rfl) (by kernel_rfl) (fun _ _ _ h => h) (Or.inl ⟨by rfl, ?hy3x30⟩) (by assumption) ?rest3x30; case hy3x30 => (intro w hSw; (try dsimp only at hSw); go_split_ands; go_simp; (try with_reducible rfl)))
            try simp only [Act.put, List.setIfInBounds_toArray, List.set_cons_zero, List.set_cons_succ, List.getElem_toArray, List.getElem_cons_zero, List.getElem_cons_succ]
            (refine wpAnyH_take (i := 4) (v := ?v4x31) rfl (by kernel_rfl) (by kernel_rfl) (by kernel_rfl) (fun _ _ _ h => h) (Or.inl ⟨by rfl, ?hy4x31⟩) (by assumption) ?rest4x31; case hy4x31 => (intro w hSw; (try dsimp only at hSw); go_split_ands; go_simp; (try with_reducible rfl)))
            try simp only [Act.put, List.setIfInBounds_toArray, List.set_cons_zero, List.set_cons_succ, List.getElem_toArray, List.getElem_cons_zero, List.getElem_cons_succ]
            (refine wpAnyH_take (i := 5) (v := ?v5x32) rfl (by kernel_rfl) (by kernel_rfl) (by kernel_rfl) (fun _ _ _ h => h) (Or.inl ⟨by rfl, ?hy5x32⟩) (by assumption) ?rest5x32; case hy5x32 => (intro w hSw; (try dsimp only at hSw); go_split_ands; go_simp; (try with_reducible rfl)))
            try simp only [Act.put, List.setIfInBounds_toArray, List.set_cons_zero, List.set_cons_succ, List.getElem_toArray, List.getElem_cons_zero, List.getElem_cons_succ]
            refine wpAnyH_ready (rs := [6]) (by kernel_rfl) (by simp) ?_
            refine AllReadyH.cons rfl (fun K hK => ?_) AllReadyH.nil
            go_simp
            refine (p0).mono ?_
            rintro e W5 ⟨rfl, e5, _⟩
            refine hK.out _ _ trivial (fun hHeld => ?_)
            clear hK K
            try simp only [Act.put, List.setIfInBounds_toArray, List.set_cons_zero, List.set_cons_succ, List.getElem_toArray, List.getElem_cons_zero, List.getElem_cons_succ]
            (refine wpAnyH_take (i := 7) (v := ?v7x33) rfl (by kernel_rfl) (by kernel_rfl) (by kernel_rfl) (fun _ _ _ h => h) (Or.inl ⟨by rfl, ?hy7x33⟩) (by assumption) ?rest7x33; case hy7x33 => (intro w hSw; (try dsimp only at hSw); go_split_ands; go_simp; (try with_reducible rfl)))
            try simp only [Act.put, List.setIfInBounds_toArray, List.set_cons_zero, List.set_cons_succ, List.getElem_toArray, List.getElem_cons_zero, List.getElem_cons_succ]
            (refine wpAnyH_take (i := 8) (v := ?v8x34) rfl (by kernel_rfl) (by kernel_rfl) (by kernel_rfl) (fun _ _ _ h => h) (Or.inl ⟨by rfl, ?hy8x34⟩) (by assumption) ?rest8x34; case hy8x34 => (intro w hSw; (try dsimp only at hSw); go_split_ands; go_simp; (try with_reducible rfl)))
            try simp only [Act.put, List.setIfInBounds_toArray, List.set_cons_zero, List.set_cons_succ, List.getElem_toArray, List.getElem_cons_zero, List.getElem_cons_succ]
            refine wpAnyH_done (by kernel_rfl) ?_ _
            clear hHeld
            have B5 : Below w.heap.size w W5 := (Below.drew B4).trans (e5 _)
            have p1 := p1 W5.drew (Below.drew B5)
            clear B4 e5 p0
            go_wp2_with fail
            refine wp_region_held_drew (S := fun _ => True) (by kernel_rfl) trivial (fun hHeld => ?_)
            (refine wpAnyH_take (i := 0) (v := ?v0x35) rfl (by kernel_rfl) (by kernel_rfl) (by kernel_rfl) (fun _ _ _ h => h) (Or.inl ⟨by rfl, ?hy0x35⟩) (by assumption) ?rest0x35; case hy0x35 => (intro w hSw; (try dsimp only at hSw); go_split_ands; go_simp; (try with_reducible rfl)))
            try simp only [Act.put, List.setIfInBounds_toArray, List.set_cons_zero, List.set_cons_succ, List.getElem_toArray, List.getElem_cons_zero, List.getElem_cons_succ]
            (refine wpAnyH_take (i := 1) (v := ?v1x36) rfl (by kernel_rfl) (by kernel_rfl) (by kernel_rfl) (fun _ _ _ h => h) (Or.inl ⟨by rfl, ?hy1x36⟩) (by assumption) ?rest1x36; case hy1x36 => (intro w hSw; (try dsimp only at hSw); go_split_ands; go_simp; (try with_reducible rfl)))
            try simp only [Act.put, List.setIfInBounds_toArray, List.set_cons_zero, List.set_cons_succ, List.getElem_toArray, List.getElem_cons_zero, List.getElem_cons_succ]
            (refine wpAnyH_take (i := 2) (v := ?v2x37) rfl (by kernel_rfl) (by kernel_rfl) (by kernel_rfl) (fun _ _ _ h => h) (Or.inl ⟨by rfl, ?hy2x37⟩) (by assumption) ?rest2x37; case hy2x37 => (intro w hSw; (try dsimp only at hSw); go_split_ands; go_simp; (try with_reducible rfl)))
            try simp only [Act.put, List.setIfInBounds_toArray, List.set_cons_zero, List.set_cons_succ, List.getElem_toArray, List.getElem_cons_zero, List.getElem_cons_succ]
            (refine wpAnyH_take (i := 3) (v := ?v3x38) rfl (by kernel_rfl) (by kernel_rfl) (by kernel_rfl) (fun _ _ _ h => h) (Or.inl ⟨by rfl, ?hy3x38⟩) (by assumption) ?rest3x38; case hy3x38 => (intro w hSw; (try dsimp only at hSw); go_split_ands; go_simp; (try with_reducible rfl)))
            try simp only [Act.put, List.setIfInBounds_toArray, List.set_cons_zero, List.set_cons_succ, List.getElem_toArray, List.getElem_cons_zero, List.getElem_cons_succ]
            (refine wpAnyH_take (i := 4) (v := ?v4x39) rfl (by kernel_rfl) (by kernel_rfl) (by kernel_rfl) (fun _ _ _ h => h) (Or.inl ⟨by rfl, ?hy4x39⟩) (by assumption) ?rest4x39; case hy4x39 => (intro w hSw; (try dsimp only at hSw); go_split_ands; go_simp; (try with_reducible rfl)))
            try simp only [Act.put, List.setIfInBounds_toArray, List.set_cons_zero, List.set_cons_succ, List.getElem_toArray, List.getElem_cons_zero, List.getElem_cons_succ]
            (refine wpAnyH_take (i := 5) (v := ?v5x40) rfl (by kernel_rfl) (by kernel_rfl) (by kernel_rfl) (fun _ _ _ h => h) (Or.inl ⟨by rfl, ?hy5x40⟩) (by assumption) ?rest5x40; case hy5x40 => (intro w hSw; (try dsimp only at hSw); go_split_ands; go_simp; (try with_reducible rfl)))
            try simp only [Act.put, List.setIfInBounds_toArray, List.set_cons_zero, List.set_cons_succ, List.getElem_toArray, List.getElem_cons_zero, List.getElem_cons_succ]
            refine wpAnyH_ready (rs := [6]) (by kernel_rfl) (by simp) ?_
            refine AllReadyH.cons rfl (fun K hK => ?_) AllReadyH.nil
            go_simp
            refine (p1).mono ?_
            rintro e W6 ⟨rfl, e6⟩
            refine hK.out _ _ trivial (fun hHeld => ?_)
            clear hK K
            try simp only [Act.put, List.setIfInBounds_toArray, List.set_cons_zero, List.set_cons_succ, List.getElem_toArray, List.getElem_cons_zero, List.getElem_cons_succ]
            (refine wpAnyH_take (i := 7) (v := ?v7x41) rfl (by kernel_rfl) (by kernel_rfl) (by kernel_rfl) (fun _ _ _ h => h) (Or.inl ⟨by rfl, ?hy7x41⟩) (by assumption) ?rest7x41; case hy7x41 => (intro w hSw; (try dsimp only at hSw); go_split_ands; go_simp; (try with_reducible rfl)))
            try simp only [Act.put, List.setIfInBounds_toArray, List.set_cons_zero, List.set_cons_succ, List.getElem_toArray, List.getElem_cons_zero, List.getElem_cons_succ]
            (refine wpAnyH_take (i := 8) (v := ?v8x42) rfl (by kernel_rfl) (by kernel_rfl) (by kernel_rfl) (fun _ _ _ h => h) (Or.inl ⟨by rfl, ?hy8x42⟩) (by assumption) ?rest8x42; case hy8x42 => (intro w hSw; (try dsimp only at hSw); go_split_ands; go_simp; (try with_reducible rfl)))
            try simp only [Act.put, List.setIfInBounds_toArray, List.set_cons_zero, List.set_cons_succ, List.getElem_toArray, List.getElem_cons_zero, List.getElem_cons_succ]
            (refine wpAnyH_take (i := 9) (v := ?v9x43) rfl (by kernel_rfl) (by kernel_rfl) (by kernel_rfl) (fun _ _ _ h => h) (Or.inl ⟨by rfl, ?hy9x43⟩) (by assumption) ?rest9x43; case hy9x43 => (intro w hSw; (try dsimp only at hSw); go_split_ands; go_simp; (try with_reducible rfl)))
            try simp only [Act.put, List.setIfInBounds_toArray, List.set_cons_zero, List.set_cons_succ, List.getElem_toArray, List.getElem_cons_zero, List.getElem_cons_succ]
            (refine wpAnyH_take (i := 10) (v := ?v10x44) rfl (by kernel_rfl) (by kernel_rfl) (by kernel_rfl) (fun _ _ _ h => h) (Or.inl ⟨by rfl, ?hy10x44⟩) (by assumption) ?rest10x44; case hy10x44 => (intro w hSw; (try dsimp only at hSw); go_split_ands; go_simp; (try with_reducible rfl)))
            try simp only [Act.put, List.setIfInBounds_toArray, List.set_cons_zero, List.set_cons_succ, List.getElem_toArray, List.getElem_cons_zero, List.getElem_cons_succ]
            refine wpAnyH_done (by kernel_rfl) ?_ _
            clear hHeld
            have B6 : Below w.heap.size w W6 := (Below.drew B5).trans (e6.mono B5.size)
            go_wp2
            go_ret2
            exact ⟨by rw [HN.out]; rfl, B6⟩
        · have dy := beq_no hyy
          have HN : Hid (C = (N1, N2)) := HP.out (fun h => hyy h.2)
          clear HP HR HF HT hxx hyy p0 p1 p2
          go_wp2_with fail
          refine (n1 _).mono ?_
          rintro e W5 ⟨rfl, e5⟩
          have B5 : Below w.heap.size w W5 := B4.trans (e5.mono B4.size)
          go_wp2_with fail
          refine (n2 _).mono ?_
          rintro e W6 ⟨rfl, e6⟩
          have B6 : Below w.heap.size w W6 := B5.trans (e6.mono B5.size)
          go_wp2
          go_ret2
          exact ⟨by rw [HN.out]; rfl, B6⟩
      · have dx := beq_no hxx
        have HN : Hid (C = (N1, N2)) := HP.out (fun h => hxx h.1)
        clear HP HR HF HT hxx p0 p1 p2
        go_wp2_with fail
        refine (n1 _).mono ?_
        rintro e W5 ⟨rfl, e5⟩
        have B5 : Below w.heap.size w W5 := B4.trans (e5.mono B4.size)
        go_wp2_with fail
        refine (n2 _).mono ?_
        rintro e W6 ⟨rfl, e6⟩
        have B6 : Below w.heap.size w W6 := B5.trans (e6.mono B5.size)
        go_wp2
        go_ret2
        exact ⟨by rw [HN.out]; rfl, B6⟩

/-- what Clash answers -/
def clashOf (l m : List ByteArray) : ByteArray × ByteArray × Bool := if l.length = m.length ∧ l.length ≤ 200 ∧ l ≠ m then ((clash l m).1, (clash l m).2, eq6 (root l) (root m)) else (⟨#[]⟩, ⟨#[]⟩, false)
theorem clashOf_no {l m : List ByteArray} (h : ¬ (l.length = m.length ∧ l.length ≤ 200 ∧ l ≠ m)) : clashOf l m = (⟨#[]⟩, ⟨#[]⟩, false) := by unfold clashOf; rw [if_neg h]
theorem clashOf_yes {l m : List ByteArray} (h : l.length = m.length ∧ l.length ≤ 200 ∧ l ≠ m) : clashOf l m = ((clash l m).1, (clash l m).2, eq6 (root l) (root m)) := by unfold clashOf; rw [if_pos h]
theorem pos_of_ne {l m : List ByteArray} (h : l.length = m.length) (hn : l ≠ m) : 1 ≤ l.length := by
  cases l with
  | nil => exact absurd (List.eq_nil_of_length_eq_zero h.symm).symm hn
  | cons a r => simp

set_option maxRecDepth 1000000 in
set_option maxHeartbeats 2000000 in
theorem clash_spec (w : World) (v v' : Value) (l m : List ByteArray) (g1 : Sl w v (ss l)) (g2 : Sl w v' (ss m)) (hl : l.length ≤ 1000000000000) (hm : m.length ≤ 1000000000000) (hz1 : ∀ s ∈ l, s.size ≤ 10000000000) (hz2 : ∀ s ∈ m, s.size ≤ 10000000000) :
    Calls Tryd.prog 15 #[v, v'] w fun e w' => e = .returned (.tuple #[.string (clashOf l m).1, .string (clashOf l m).2.1, .bool (clashOf l m).2.2]) ∧ Below w.heap.size w w' := by
  obtain ⟨ao, cap, hv, hc1⟩ := Sl.form g1
  obtain ⟨bo, cbp, hv', hc2⟩ := Sl.form g2
  rw [ss_len] at hv hv' hc1 hc2
  by_cases hlm : l.length = m.length
  · have dn : ((l.length : Int) == (m.length : Int)) = true := by rw [beq_iff_eq]; omega
    have hlm1 : l.length ≤ m.length := by omega
    have hlm2 : m.length ≤ l.length := by omega
    by_cases h2 : l.length ≤ 200
    · have d2 : ¬ (200 : Int) < (l.length : Int) := by omega
      by_cases hne : l = m
      · have HN : Hid (clashOf l m = (⟨#[]⟩, ⟨#[]⟩, false)) := clashOf_no (fun h => h.2.2 hne)
        have q0 := same_spec w v v' l m true ⟨fun _ => hne, fun _ => rfl⟩ g1 g2 hl hm
        obtain ⟨C, hC⟩ : ∃ C, clashOf l m = C := ⟨_, rfl⟩
        rw [hC] at HN ⊢
        subst hv hv'
        clear hz1 hz2 g1 g2 hlm hne hC
        go_enter Tryd.func15, Tryd.ntmps15
        go_wp2_with fail
        refine q0.mono ?_
        rintro e w1 ⟨rfl, b1, _⟩
        go_wp2
        go_ret3
        exact ⟨by rw [HN.out]; rfl, b1 _⟩
      · have HN : Hid (clashOf l m = ((clash l m).1, (clash l m).2, eq6 (root l) (root m))) := clashOf_yes ⟨hlm, h2, hne⟩
        have q0 := same_spec w v v' l m false ⟨fun h => (by cases h), fun h => absurd h hne⟩ g1 g2 hl hm
        have hp := pos_of_ne hlm hne
        have q1 : ∀ W, Below w.heap.size w W → _ := fun W hW => clash1_spec l.length l m (Nat.le_refl _) hp hlm W v v' (g1.later hW) (g2.later hW) (by omega) hz1 hz2
        have q2 : ∀ W, Below w.heap.size w W → _ := fun W hW => root_any l.length l (Nat.le_refl _) W v (g1.later hW) (by omega) hz1
        have q3 : ∀ W, Below w.heap.size w W → _ := fun W hW => root_any m.length m (Nat.le_refl _) W v' (g2.later hW) (by omega) hz2
        obtain ⟨C, hC⟩ : ∃ C, clashOf l m = C := ⟨_, rfl⟩
        obtain ⟨a, b, hD⟩ : ∃ a b, clash l m = (a, b) := ⟨_, _, rfl⟩
        obtain ⟨x, hx⟩ : ∃ x, root l = x := ⟨_, rfl⟩
        obtain ⟨y, hy⟩ : ∃ x, root m = x := ⟨_, rfl⟩
        obtain ⟨t, ht⟩ : ∃ t, (x.toList == y.toList) = t := ⟨_, rfl⟩
        have HE : Hid (eq6 x y = t) := ht
        simp only [hC, hD, hx, hy] at HN q1 q2 q3 ⊢
        rw [HE.out] at HN
        subst hv hv'
        clear hz1 hz2 g1 g2 hlm hne hC hD hx hy hp
        go_enter Tryd.func15, Tryd.ntmps15
        go_wp2_with fail
        refine q0.mono ?_
        rintro e w1 ⟨rfl, b1, _⟩
        have B1 : Below w.heap.size w w1 := b1 _
        go_wp2_with fail
        refine (q1 _ B1).mono ?_
        rintro e w2 ⟨rfl, b2⟩
        have B2 : Below w.heap.size w w2 := B1.trans (b2.mono B1.size)
        go_wp2_with fail
        refine (q2 _ B2).mono ?_
        rintro e w3 ⟨rfl, b3⟩
        have B3 : Below w.heap.size w w3 := B2.trans (b3.mono B2.size)
        go_wp2_with fail
        refine (q3 _ B3).mono ?_
        rintro e w4 ⟨rfl, b4⟩
        have B4 : Below w.heap.size w w4 := B3.trans (b4.mono B3.size)
        go_wp2
        go_ret3
        exact ⟨by rw [HN.out]; rfl, B4⟩
    · have d2 : (200 : Int) < (l.length : Int) := by omega
      have HN : Hid (clashOf l m = (⟨#[]⟩, ⟨#[]⟩, false)) := clashOf_no (fun h => h2 h.2.1)
      obtain ⟨C, hC⟩ : ∃ C, clashOf l m = C := ⟨_, rfl⟩
      rw [hC] at HN ⊢
      subst hv hv'
      clear hz1 hz2 g1 g2 hlm hC
      go_enter Tryd.func15, Tryd.ntmps15
      go_wp2
      go_ret3
      exact ⟨by rw [HN.out]; rfl, Below.refl _ _⟩
  · have dn : ((l.length : Int) == (m.length : Int)) = false := by rw [beq_eq_false_iff_ne]; omega
    have dnn : ((l.length : Int) != (m.length : Int)) = true := by rw [bne, dn]; rfl
    have hlm3 : ¬ (l.length : Int) = (m.length : Int) := by omega
    have HN : Hid (clashOf l m = (⟨#[]⟩, ⟨#[]⟩, false)) := clashOf_no (fun h => hlm h.1)
    obtain ⟨C, hC⟩ : ∃ C, clashOf l m = C := ⟨_, rfl⟩
    rw [hC] at HN ⊢
    subst hv hv'
    clear hz1 hz2 g1 g2 hlm hC
    go_enter Tryd.func15, Tryd.ntmps15
    go_wp2
    go_ret3
    exact ⟨by rw [HN.out]; rfl, Below.refl _ _⟩

end Go.Proofs.YtpnmhanjibhgoaaDoor.Cl
